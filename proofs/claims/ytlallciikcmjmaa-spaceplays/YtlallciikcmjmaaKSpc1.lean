/- The program's maps: Set, Clear. -/
import Derived.Test.YtlallciikcmjmaaKSpc0
namespace Go.Proofs.Ytlallciikcmjmaa
open Go.RowKit
set_option linter.unusedVariables false
theorem pgGet_isSome {L : List Pg} {s p : Int} : (pgGet L s p).isSome = true ↔ pgAt L s p ≠ none := by
  cases hg : pgGet L s p with
  | none => rw [pgGet_none hg]; simp
  | some x => obtain ⟨i, h1, _⟩ := pgGet_some hg; rw [h1]; simp
theorem pgGet_isNone {L : List Pg} {s p : Int} (h : pgAt L s p = none) : (pgGet L s p).isSome = false := by
  cases hg : (pgGet L s p).isSome with
  | false => rfl
  | true => exact absurd h (pgGet_isSome.1 hg)
/-- What the first look of a call finds, in whatever world that is new since. -/
theorem SP.first {w w' : World} {y : Nat} {m : Option Nat} {L : List Pg} (h : SP w y m L) (K : Kp [] w w') {s p f r : Int} {is : Bool} (hi : PgIn (s, p)) (hV : mapV (pgGet L s p) = .agg #[.int .i64 f, .int .i64 r]) (hIs : (pgGet L s p).isSome = is) :
    w'.cell? ⟨y, 0, none⟩ = some (.map m) ∧ (Instr.lookup 24 (.map m) (.agg #[.int .i64 s, .int .i64 p]) true).run Try.prog w' = .ok (.tuple #[.agg #[.int .i64 f, .int .i64 r], .bool is]) w' := by
  have P1 := h.grew K
  refine ⟨P1.head.cell rfl, ?_⟩
  have h9 := P1.mo.look hi true
  rw [hV, hIs] at h9
  exact h9
set_option maxRecDepth 4000 in
set_option maxHeartbeats 1000000 in
theorem sset_no {w : World} {y : Nat} {m : Option Nat} {L : List Pg} (h : SP w y m L) {s p f r : Int} (hi : PgIn (s, p)) (hn : ¬ setP L s p f r) :
    Calls Try.prog 11 #[.pointer (some ⟨y, 0, none⟩), .agg #[.int .i64 s, .int .i64 p], .agg #[.int .i64 f, .int .i64 r]] w fun e w' => e = .returned (.bool false) ∧ Kp [] w w' := by
  obtain ⟨a, b, hV⟩ := mapV_form (pgGet L s p)
  obtain ⟨is, hIs⟩ : ∃ is, (pgGet L s p).isSome = is := ⟨_, rfl⟩
  obtain ⟨v1, h1⟩ : ∃ v, pageOk s p = v := ⟨_, rfl⟩
  obtain ⟨v2, h2⟩ : ∃ v, mapOk f r = v := ⟨_, rfl⟩
  have hc : is = true ∨ v1 = false ∨ v2 = false := by
    cases is
    · cases v1
      · exact .inr (.inl rfl)
      · cases v2
        · exact .inr (.inr rfl)
        · refine absurd (setP_iff.2 ⟨h1, h2, ?_⟩) hn
          cases ha : pgAt L s p with
          | none => rfl
          | some i =>
            have := pgGet_isSome.2 (show pgAt L s p ≠ none by rw [ha]; simp)
            rw [hIs] at this
            cases this
    · exact .inl rfl
  have X := hide (Gx.start w s p f r)
  have hS : Hid (∀ w', Gx w w' s p f r → w'.cell? ⟨y, 0, none⟩ = some (.map m) ∧ w'.cell? ⟨w.heap.size, 0, none⟩ = some (.int .i64 s) ∧ w'.cell? ⟨w.heap.size, 1, none⟩ = some (.int .i64 p) ∧ (Instr.lookup 24 (.map m) (.agg #[.int .i64 s, .int .i64 p]) true).run Try.prog w' = .ok (.tuple #[.agg #[.int .i64 a, .int .i64 b], .bool is]) w') := fun w' G => by
    obtain ⟨q1, q2⟩ := h.first G.kp hi hV hIs
    exact ⟨q1, G.p.cell rfl, G.p.cell rfl, q2⟩
  replace h1 := hide h1
  replace h2 := hide h2
  replace hc := hide hc
  clear h hn hV hIs
  go_enter Try.func11, Try.ntmps11
  go_wp2_with fail
  have hw1 : ((w.alloc (.cells #[.int .i64 s, .int .i64 p] 30)).alloc (.cells #[.int .i64 f, .int .i64 r] 34)).heap.size = w.heap.size + 2 := by simp
  generalize (w.alloc (.cells #[.int .i64 s, .int .i64 p] 30)).alloc (.cells #[.int .i64 f, .int .i64 r] 34) = w1 at *
  have X1 := hide ((unhide X).kept ((Kp.refl [] w1).drew))
  have X2 := hide ((unhide X).kept (((Kp.refl [] w1).alloc (.cells #[.int .i64 a, .int .i64 b] 34)).drew))
  have cc := unhide hS _ (unhide X)
  go_region_held3 (fun w' => w'.cell? ⟨y, 0, none⟩ = some (.map m) ∧ w'.cell? ⟨w.heap.size, 0, none⟩ = some (.int .i64 s) ∧ w'.cell? ⟨w.heap.size, 1, none⟩ = some (.int .i64 p) ∧ (Instr.lookup 24 (.map m) (.agg #[.int .i64 s, .int .i64 p]) true).run Try.prog w' = .ok (.tuple #[.agg #[.int .i64 a, .int .i64 b], .bool is]) w') (first | exact unhide hS _ (unhide X1) | exact unhide hS _ ((unhide X).kept (((Kp.refl [] w1).alloc _).drew))) (fail)
  all_goals
    clear cc
    generalize (w1.alloc (.cells #[.int .i64 a, .int .i64 b] 34)).drew = w3 at *
    cases is
    · cases v1
      · have c0 := (unhide X2).cells
        go_wp2_with fail
        refine (spage_to _ (unhide h1)).mono ?_
        rintro e W1 ⟨rfl, K1⟩
        have X3 := hide ((unhide X2).kept K1)
        clear K1 c0
        go_wp2
        go_ret
        exact ⟨rfl, (unhide X3).kp⟩
      · obtain rfl : v2 = false := by simpa using unhide hc
        have c0 := (unhide X2).cells
        go_wp2_with fail
        refine (spage_to _ (unhide h1)).mono ?_
        rintro e W1 ⟨rfl, K1⟩
        have X3 := hide ((unhide X2).kept K1)
        clear K1 c0
        have c0 := (unhide X3).cells
        go_wp2_with fail
        refine (smap_to _ (unhide h2)).mono ?_
        rintro e W2 ⟨rfl, K1⟩
        have X4 := hide ((unhide X3).kept K1)
        clear K1 c0
        go_wp2
        go_ret
        exact ⟨rfl, (unhide X4).kp⟩
    · go_wp2
      go_ret
      exact ⟨rfl, (unhide X2).kp⟩
theorem eq_nilPg (m : Option Nat) (w : World) : (binOp .eql 24 (.map m) (.map none)).run Try.prog w = .ok (.bool m.isNone) w := by
  cases m with
  | none => kernel_rfl
  | some b => kernel_rfl
theorem pgIns_perm (L : List Pg) (x : Pg) : (pgIns L x).Perm (L ++ [x]) := by
  unfold pgIns
  have h := List.takeWhile_append_dropWhile (p := fun y : Pg => pgBef y.s y.p x.s x.p) (l := L)
  refine List.perm_middle.trans ?_
  rw [h]
  exact List.perm_append_comm (l₁ := [x])
theorem pgIns_rises {L : List Pg} {x : Pg} (h : PgRises L) (hn : pgAt L x.s x.p = none) : PgRises (pgIns L x) := by
  unfold PgRises at *
  have hno := pgAt_none.1 hn
  unfold pgIns
  induction L with
  | nil => simp
  | cons y L ih =>
    rw [List.pairwise_cons] at h
    have hy := hno y (by simp)
    cases hb : pgBef y.s y.p x.s x.p with
    | true =>
      rw [List.takeWhile_cons_of_pos (p := fun y : Pg => pgBef y.s y.p x.s x.p) hb, List.dropWhile_cons_of_pos (p := fun y : Pg => pgBef y.s y.p x.s x.p) hb, List.cons_append, List.pairwise_cons]
      have hno' : pgAt L x.s x.p = none := pgAt_none.2 fun z hz => hno z (by simp [hz])
      refine ⟨fun z hz => ?_, ih h.2 hno' (pgAt_none.1 hno')⟩
      have hz' : z ∈ pgIns L x := hz
      rcases List.mem_append.1 ((pgIns_perm L x).mem_iff.1 hz') with m | m
      · exact h.1 z m
      · simp at m
        rw [m]
        exact hb
    | false =>
      rw [List.takeWhile_cons_of_neg (p := fun y : Pg => pgBef y.s y.p x.s x.p) (by simp [hb]), List.dropWhile_cons_of_neg (p := fun y : Pg => pgBef y.s y.p x.s x.p) (by simp [hb]), List.nil_append, List.pairwise_cons]
      rw [pgBef_no] at hb
      have hxy : x.s < y.s ∨ x.s = y.s ∧ x.p < y.p := by omega
      refine ⟨fun z hz => ?_, List.pairwise_cons.2 h⟩
      rcases List.mem_cons.1 hz with rfl | m
      · exact (pgBef_iff _ _ _ _).2 hxy
      · have h2 := (pgBef_iff _ _ _ _).1 (h.1 z m)
        exact (pgBef_iff _ _ _ _).2 (by omega)
/-- Maps of which a page more was set. -/
theorem SP.put {w w' : World} {y : Nat} {m : Option Nat} {b : Nat} {L : List Pg} {x : Pg} (h : SP w y m L) (hb : Bk w' y 26 [.map (some b)]) (hm : Gm.Mp pgK w' b (L.map kvPg ++ [kvPg x])) (hn : pgAt L x.s x.p = none) (hs : L.length < 65536) (hx : pageOk x.s x.p = true) : SP w' y (some b) (pgIns L x) := by
  refine ⟨hb, ?_, pgIns_rises h.rises hn, fun z hz => ?_, by rw [pgIns_len]; omega⟩
  · refine SpO.perm hm ?_
    have := ((pgIns_perm L x).map kvPg).symm
    rwa [List.map_append] at this
  · rcases List.mem_append.1 ((pgIns_perm L x).mem_iff.1 hz) with q | q
    · exact h.ok z q
    · simp at q; rw [q]; exact hx
/-- What a change of the program's maps leaves. -/
def SPP (w : World) (y : Nat) (m : Option Nat) (L : List Pg) (v : Value) (e : Ending) (w' : World) : Prop := e = .returned v ∧ ∃ m', SP w' y m' L ∧ Kp (y :: m.toList) w w' ∧ ∀ b, m' = some b → m = some b ∨ w.heap.size ≤ b
theorem pg_made (w : World) (g : Nat) (hg : w.heap.size = g) : Gm.Mp pgK (w.alloc (.map #[] 0)) g (([] : List Pg).map kvPg) := by subst hg; exact Gm.Mp.made w
structure Gz (w wx : World) (s p f r : Int) : Prop where
  p : Bk wx w.heap.size 30 [.int .i64 s, .int .i64 p]
  f : Bk wx (w.heap.size + 1) 34 [.int .i64 f, .int .i64 r]
theorem Gz.kept {S : List Nat} {w wx wy : World} {s p f r : Int} (h : Gz w wx s p f r) (kp : Kp S wx wy) (hS : w.heap.size ∉ S ∧ w.heap.size + 1 ∉ S) : Gz w wy s p f r := ⟨h.p.kept kp hS.1, h.f.kept kp hS.2⟩
theorem Gx.toZ {w wx : World} {s p f r : Int} (h : Gx w wx s p f r) : Gz w wx s p f r := ⟨h.p, h.f⟩
theorem Gz.cells {w wx : World} {s p f r : Int} (h : Gz w wx s p f r) : wx.cell? ⟨w.heap.size, 0, none⟩ = some (.int .i64 s) ∧ wx.cell? ⟨w.heap.size, 1, none⟩ = some (.int .i64 p) ∧ wx.cell? ⟨w.heap.size + 1, 0, none⟩ = some (.int .i64 f) ∧ wx.cell? ⟨w.heap.size + 1, 1, none⟩ = some (.int .i64 r) :=
  ⟨h.p.cell rfl, h.p.cell rfl, h.f.cell rfl, h.f.cell rfl⟩
set_option maxRecDepth 4000 in
set_option maxHeartbeats 2000000 in
theorem sset_yes {w : World} {y : Nat} {m : Option Nat} {L : List Pg} (h : SP w y m L) {s p f r : Int} (hi : PgIn (s, p)) (hp : setP L s p f r) (hL : L.length < 65536) :
    Calls Try.prog 11 #[.pointer (some ⟨y, 0, none⟩), .agg #[.int .i64 s, .int .i64 p], .agg #[.int .i64 f, .int .i64 r]] w (SPP w y m (pgIns L ⟨s, p, f, r⟩) (.bool true)) := by
  obtain ⟨h1, h2, h3⟩ := setP_iff.1 hp
  obtain ⟨a, b, hV⟩ := mapV_form (pgGet L s p)
  have X := hide (Gx.start w s p f r)
  have hS : Hid (∀ w', Gx w w' s p f r → w'.cell? ⟨y, 0, none⟩ = some (.map m) ∧ w'.cell? ⟨w.heap.size, 0, none⟩ = some (.int .i64 s) ∧ w'.cell? ⟨w.heap.size, 1, none⟩ = some (.int .i64 p) ∧ (Instr.lookup 24 (.map m) (.agg #[.int .i64 s, .int .i64 p]) true).run Try.prog w' = .ok (.tuple #[.agg #[.int .i64 a, .int .i64 b], .bool false]) w') := fun w' G => by
    obtain ⟨q1, q2⟩ := h.first G.kp hi hV (pgGet_isNone h3)
    exact ⟨q1, G.p.cell rfl, G.p.cell rfl, q2⟩
  have H := hide h
  have ht := hide h.head.lt
  have hok := hide h1
  replace h1 := hide h1
  replace h2 := hide h2
  replace h3 := hide h3
  clear h hV hp
  go_enter Try.func11, Try.ntmps11
  go_wp2_with fail
  have hw1 : ((w.alloc (.cells #[.int .i64 s, .int .i64 p] 30)).alloc (.cells #[.int .i64 f, .int .i64 r] 34)).heap.size = w.heap.size + 2 := by simp
  generalize (w.alloc (.cells #[.int .i64 s, .int .i64 p] 30)).alloc (.cells #[.int .i64 f, .int .i64 r] 34) = w1 at *
  have X1 := hide ((unhide X).kept ((Kp.refl [] w1).drew))
  have X2 := hide ((unhide X).kept (((Kp.refl [] w1).alloc (.cells #[.int .i64 a, .int .i64 b] 34)).drew))
  have cc := unhide hS _ (unhide X)
  go_region_held3 (fun w' => w'.cell? ⟨y, 0, none⟩ = some (.map m) ∧ w'.cell? ⟨w.heap.size, 0, none⟩ = some (.int .i64 s) ∧ w'.cell? ⟨w.heap.size, 1, none⟩ = some (.int .i64 p) ∧ (Instr.lookup 24 (.map m) (.agg #[.int .i64 s, .int .i64 p]) true).run Try.prog w' = .ok (.tuple #[.agg #[.int .i64 a, .int .i64 b], .bool false]) w') (first | exact unhide hS _ (unhide X1) | exact unhide hS _ ((unhide X).kept (((Kp.refl [] w1).alloc _).drew))) (fail)
  all_goals
    clear cc hw1
    generalize (w1.alloc (.cells #[.int .i64 a, .int .i64 b] 34)).drew = w3 at *
    have c0 := (unhide X2).cells
    go_wp2_with fail
    refine (spage_to _ (unhide h1)).mono ?_
    rintro e W1 ⟨rfl, K1⟩
    have X3 := hide ((unhide X2).kept K1)
    clear K1 c0
    have c0 := (unhide X3).cells
    go_wp2_with fail
    refine (smap_to _ (unhide h2)).mono ?_
    rintro e W4 ⟨rfl, K1⟩
    have X4 := hide ((unhide X3).kept K1)
    clear K1 c0 X X1 X2 X3 hS
    have P4 := hide ((unhide H).grew (unhide X4).kp)
    have th := (unhide P4).head.cell (i := 0) rfl
    have tf := (unhide P4).head.frozen
    have tl := (unhide P4).head.lt
    obtain ⟨c0, c1, c2, c3⟩ := (unhide X4).cells
    cases m with
    | none =>
      have hmm := @run_makeMap Try.prog
      have heq : ∀ w, (binOp .eql 24 (.map none) (.map none)).run Try.prog w = .ok (.bool true) w := eq_nilPg none
      have hL0 : L = [] := (unhide H).mo
      subst hL0
      have hB := hide (((unhide P4).head.set 0 (.map (some W4.heap.size))).alloc (.map #[] 0))
      have hM := hide (pg_made (W4.setCell ⟨y, 0, none⟩ (.map (some W4.heap.size))) W4.heap.size (by simp [World.setCell]))
      have hK5 := hide (((Kp.refl [y] W4).setCell (p := ⟨y, 0, none⟩) (.inl (by simp)) (.map (some W4.heap.size))).alloc (.map #[] 0))
      have hsz4 := (unhide X4).kp.size
      have hsz5 := (unhide X4).f.lt
      have hQ := hide ((unhide X4).toZ.kept (unhide hK5) (by have := unhide ht; simp; omega))
      have hne : Hid (y ∉ [W4.heap.size]) := by unfold Hid; simp; omega
      have hns : Hid (w.heap.size ∉ [W4.heap.size] ∧ w.heap.size + 1 ∉ [W4.heap.size]) := by unfold Hid; simp; omega
      have hle := hide hsz4
      clear hsz5 hsz4
      go_wp2_with fail
      generalize hwx : (W4.setCell ⟨y, 0, none⟩ (.map (some W4.heap.size))).alloc (.map #[] 0) = wx at *
      generalize hbn : W4.heap.size = bn at *
      clear hwx hmm
      obtain ⟨W6, hup0, hM6, hK6⟩ := Gm.Mp.put_miss (w := wx.drew) (unhide hM) Try.underlying24 (q := (s, p)) hi (pg_miss (unhide h3)) (.agg #[.int .i64 f, .int .i64 r])
      have hup : (Instr.mapUpdate 24 (.map (some bn)) (.agg #[.int .i64 s, .int .i64 p]) (.agg #[.int .i64 f, .int .i64 r])).run Try.prog wx.drew = .ok () W6 := hup0
      have hS : Hid (∀ w', Kp [bn] wx w' → (fun w' => w'.cell? ⟨y, 0, none⟩ = some (.map (some bn)) ∧ w'.cell? ⟨w.heap.size, 0, none⟩ = some (.int .i64 s) ∧ w'.cell? ⟨w.heap.size, 1, none⟩ = some (.int .i64 p) ∧ w'.cell? ⟨w.heap.size + 1, 0, none⟩ = some (.int .i64 f) ∧ w'.cell? ⟨w.heap.size + 1, 1, none⟩ = some (.int .i64 r)) w') := fun w' kk => ⟨((unhide hB).kept kk (unhide hne)).cell rfl, ((unhide hQ).kept kk (unhide hns)).cells⟩
      have K0 := hide (Kp.refl [bn] wx).drew
      have hK6' := hide ((Kp.refl [bn] wx).drew.then hK6)
      have hB6 := hide ((unhide hB).kept (unhide hK6') (unhide hne))
      replace hM6 := hide hM6
      clear hup0 hK6
      have cc := unhide hS _ (unhide K0)
      go_region_held3 (fun w' => w'.cell? ⟨y, 0, none⟩ = some (.map (some bn)) ∧ w'.cell? ⟨w.heap.size, 0, none⟩ = some (.int .i64 s) ∧ w'.cell? ⟨w.heap.size, 1, none⟩ = some (.int .i64 p) ∧ w'.cell? ⟨w.heap.size + 1, 0, none⟩ = some (.int .i64 f) ∧ w'.cell? ⟨w.heap.size + 1, 1, none⟩ = some (.int .i64 r)) (first | exact unhide hS _ (unhide K0) | exact unhide hS _ (unhide hK6')) (fail)
      all_goals
        go_wp2
        go_ret
        exact ⟨rfl, some bn, SP.put (x := ⟨s, p, f, r⟩) (unhide H) (unhide hB6) (unhide hM6) (unhide h3) hL (unhide hok), (((unhide X4).kp.trans (unhide hK5) (T := [y]) (by simp) (by simp)).trans (unhide hK6') (T := y :: (none : Option Nat).toList) (by simp) (by intro i hi; simp at hi; subst hi; exact .inr (unhide hle))), fun q hq => .inr (by cases hq; exact unhide hle)⟩
    | some bq =>
      have heq : ∀ w, (binOp .eql 24 (.map (some bq)) (.map none)).run Try.prog w = .ok (.bool false) w := eq_nilPg (some bq)
      have hB := hide (unhide P4).head
      have hM : Hid (Gm.Mp pgK W4 bq (L.map kvPg)) := (unhide P4).mo
      have hQ := hide (unhide X4).toZ
      have hne : Hid (y ∉ [bq]) := by have := (unhide H).ne bq rfl; unfold Hid; simp; exact fun e => this e.symm
      have hns : Hid (w.heap.size ∉ [bq] ∧ w.heap.size + 1 ∉ [bq]) := by have := (unhide H).lt bq rfl; unfold Hid; simp; omega
      have hKK := hide (unhide X4).kp
      go_wp2_with fail
      generalize hwx : W4 = wx at *
      clear hwx
      obtain ⟨W6, hup0, hM6, hK6⟩ := Gm.Mp.put_miss (w := wx.drew) (unhide hM) Try.underlying24 (q := (s, p)) hi (pg_miss (unhide h3)) (.agg #[.int .i64 f, .int .i64 r])
      have hup : (Instr.mapUpdate 24 (.map (some bq)) (.agg #[.int .i64 s, .int .i64 p]) (.agg #[.int .i64 f, .int .i64 r])).run Try.prog wx.drew = .ok () W6 := hup0
      have hS : Hid (∀ w', Kp [bq] wx w' → (fun w' => w'.cell? ⟨y, 0, none⟩ = some (.map (some bq)) ∧ w'.cell? ⟨w.heap.size, 0, none⟩ = some (.int .i64 s) ∧ w'.cell? ⟨w.heap.size, 1, none⟩ = some (.int .i64 p) ∧ w'.cell? ⟨w.heap.size + 1, 0, none⟩ = some (.int .i64 f) ∧ w'.cell? ⟨w.heap.size + 1, 1, none⟩ = some (.int .i64 r)) w') := fun w' kk => ⟨((unhide hB).kept kk (unhide hne)).cell rfl, ((unhide hQ).kept kk (unhide hns)).cells⟩
      have K0 := hide (Kp.refl [bq] wx).drew
      have hK6' := hide ((Kp.refl [bq] wx).drew.then hK6)
      have hB6 := hide ((unhide hB).kept (unhide hK6') (unhide hne))
      replace hM6 := hide hM6
      clear hup0 hK6
      have cc := unhide hS _ (unhide K0)
      go_region_held3 (fun w' => w'.cell? ⟨y, 0, none⟩ = some (.map (some bq)) ∧ w'.cell? ⟨w.heap.size, 0, none⟩ = some (.int .i64 s) ∧ w'.cell? ⟨w.heap.size, 1, none⟩ = some (.int .i64 p) ∧ w'.cell? ⟨w.heap.size + 1, 0, none⟩ = some (.int .i64 f) ∧ w'.cell? ⟨w.heap.size + 1, 1, none⟩ = some (.int .i64 r)) (first | exact unhide hS _ (unhide K0) | exact unhide hS _ (unhide hK6')) (fail)
      all_goals
        go_wp2
        go_ret
        exact ⟨rfl, some bq, SP.put (x := ⟨s, p, f, r⟩) (unhide H) (unhide hB6) (unhide hM6) (unhide h3) hL (unhide hok), ((unhide hKK).trans (unhide hK6') (T := y :: (some bq).toList) (by simp) (by simp)), fun q hq => .inl hq⟩
end Go.Proofs.Ytlallciikcmjmaa
