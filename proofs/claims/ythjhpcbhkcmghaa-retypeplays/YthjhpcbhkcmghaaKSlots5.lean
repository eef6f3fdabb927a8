/- The program's table: Put. -/
import Derived.Test.YthjhpcbhkcmghaaKSlots
namespace Go.Proofs.Ythjhpcbhkcmghaa
open Go.RowKit
set_option linter.unusedVariables false
def ppl (x : Sl) : Int × Int := (x.n, x.s)
theorem at_none_iff {L : List Sl} {n s : Int} : atL L n s = none ↔ ∀ x ∈ L, ¬ (x.n = n ∧ x.s = s) := by
  unfold atL
  rw [List.findIdx?_eq_none_iff]
  constructor
  · intro h x hx e
    have := h x hx
    simp [e.1, e.2] at this
  · intro h x hx
    have := h x hx
    simp
    intro e1 e2
    exact this ⟨e1, e2⟩
theorem look_iff {L : List Sl} {n s : Int} : (lookS L n s).isSome = true ↔ atL L n s ≠ none := by
  cases hl : lookS L n s with
  | none => rw [lookS_none hl]; simp
  | some x => obtain ⟨i, hi, _⟩ := lookS_at hl; rw [hi]; simp
theorem ins_perm (L : List Sl) (x : Sl) : (insL L x).Perm (L ++ [x]) := by
  unfold insL
  have h := List.takeWhile_append_dropWhile (p := fun y => before y.n y.s x.n x.s) (l := L)
  refine List.perm_middle.trans ?_
  rw [h]
  exact List.perm_append_comm (l₁ := [x])
theorem ins_rises {L : List Sl} {x : Sl} (h : Rises (L.map ppl)) (hn : atL L x.n x.s = none) : Rises ((insL L x).map ppl) := by
  unfold Rises at *
  rw [List.pairwise_map] at *
  have hno := at_none_iff.1 hn
  unfold insL
  induction L with
  | nil => simp
  | cons y L ih =>
    rw [List.pairwise_cons] at h
    have hy := hno y (by simp)
    cases hb : before y.n y.s x.n x.s with
    | true =>
      rw [List.takeWhile_cons_of_pos (p := fun y : Sl => before y.n y.s x.n x.s) hb, List.dropWhile_cons_of_pos (p := fun y : Sl => before y.n y.s x.n x.s) hb, List.cons_append, List.pairwise_cons]
      have hno' : atL L x.n x.s = none := at_none_iff.2 fun z hz => hno z (by simp [hz])
      refine ⟨fun z hz => ?_, ih h.2 hno' (at_none_iff.1 hno')⟩
      have hz' : z ∈ insL L x := hz
      rcases List.mem_append.1 ((ins_perm L x).mem_iff.1 hz') with m | m
      · exact h.1 z m
      · simp at m
        rw [m]
        exact (before_iff _ _ _ _).1 hb
    | false =>
      rw [List.takeWhile_cons_of_neg (p := fun y : Sl => before y.n y.s x.n x.s) (by simp [hb]), List.dropWhile_cons_of_neg (p := fun y : Sl => before y.n y.s x.n x.s) (by simp [hb]), List.nil_append, List.pairwise_cons]
      have hb' : ¬ beforeP y.n y.s x.n x.s := by rw [← before_iff, hb]; simp
      have hxy : beforeP (ppl x).1 (ppl x).2 (ppl y).1 (ppl y).2 := by
        unfold ppl beforeP at *
        simp only
        omega
      refine ⟨fun z hz => ?_, List.pairwise_cons.2 h⟩
      rcases List.mem_cons.1 hz with rfl | m
      · exact hxy
      · have := h.1 z m
        unfold ppl beforeP at *
        simp only at *
        omega
theorem PT.rises' {w : World} {t : Nat} {m : Option Nat} {L : List Sl} (h : PT w t m L) : Rises (L.map ppl) := h.rises
/-- A table of which a slot more was put. -/
theorem PT.put {w' : World} {t : Nat} {b : Nat} {L : List Sl} {x : Sl} (hb : Bk w' t 27 [.map (some b)]) (hm : Mp w' b (L.map slKV ++ [slKV x])) (hr : Rises (L.map ppl)) (hn : atL L x.n x.s = none) (hs : L.length < 65536) (hok : ∀ y ∈ L, placeOk y.n y.s = true) (hx : placeOk x.n x.s = true) : PT w' t (some b) (insL L x) := by
  refine ⟨hb, ?_, ins_rises hr hn, by rw [ins_len]; omega, fun y hy => ?_⟩
  rotate_left
  · rcases List.mem_append.1 ((ins_perm L x).mem_iff.1 hy) with q | q
    · exact hok y q
    · simp at q; rw [q]; exact hx
  show Mp w' b ((insL L x).map slKV)
  refine hm.perm ?_
  have := ((ins_perm L x).map slKV).symm
  rwa [List.map_append] at this
def PPutP (w : World) (t : Nat) (m : Option Nat) (L : List Sl) (e : Ending) (w' : World) : Prop := e = .returned (.bool true) ∧ ∃ m', PT w' t m' L ∧ Kp (t :: m.toList) w w' ∧ ∀ b, m' = some b → m = some b ∨ w.heap.size ≤ b
theorem checkA (k o s b r : Int) (v : Bool) (w : World) (h : chk k o s b r = v) :
    Calls Try.prog 30 #[.agg #[.int .i64 k, .int .i64 o, .int .i64 s, .int .i64 b, .int .i64 r]] w fun e w' => e = .returned (.bool v) ∧ Kp [] w w' := by rw [← h]; exact check_calls k o s b r w
/-- The three boxes of Put. -/
structure Bp (w w' : World) (n s k o z b r u v : Int) : Prop where
  kp : Kp [] w w'
  p : Bk w' w.heap.size 40 [.int .i64 n, .int .i64 s]
  c : Bk w' (w.heap.size + 1) 38 [.int .i64 k, .int .i64 o, .int .i64 z, .int .i64 b, .int .i64 r]
  u : Bk w' (w.heap.size + 2) 40 [.int .i64 u, .int .i64 v]
structure Bq (w w' : World) (n s k o z b r u v : Int) : Prop where
  p : Bk w' w.heap.size 40 [.int .i64 n, .int .i64 s]
  c : Bk w' (w.heap.size + 1) 38 [.int .i64 k, .int .i64 o, .int .i64 z, .int .i64 b, .int .i64 r]
  u : Bk w' (w.heap.size + 2) 40 [.int .i64 u, .int .i64 v]
theorem Bq.kept {S : List Nat} {w wx wy : World} {n s k o z b r u v : Int} (h : Bq w wx n s k o z b r u v) (kp : Kp S wx wy) (hS : w.heap.size ∉ S ∧ w.heap.size + 1 ∉ S ∧ w.heap.size + 2 ∉ S) : Bq w wy n s k o z b r u v := ⟨h.p.kept kp hS.1, h.c.kept kp hS.2.1, h.u.kept kp hS.2.2⟩
theorem Bq.cells {w w' : World} {n s k o z b r u v : Int} (h : Bq w w' n s k o z b r u v) : w'.cell? ⟨w.heap.size, 0, none⟩ = some (.int .i64 n) ∧ w'.cell? ⟨w.heap.size, 1, none⟩ = some (.int .i64 s) ∧ w'.cell? ⟨w.heap.size + 1, 0, none⟩ = some (.int .i64 k) ∧ w'.cell? ⟨w.heap.size + 1, 1, none⟩ = some (.int .i64 o) ∧ w'.cell? ⟨w.heap.size + 1, 2, none⟩ = some (.int .i64 z) ∧ w'.cell? ⟨w.heap.size + 1, 3, none⟩ = some (.int .i64 b) ∧ w'.cell? ⟨w.heap.size + 1, 4, none⟩ = some (.int .i64 r) ∧ w'.cell? ⟨w.heap.size + 2, 0, none⟩ = some (.int .i64 u) ∧ w'.cell? ⟨w.heap.size + 2, 1, none⟩ = some (.int .i64 v) :=
  ⟨h.p.cell rfl, h.p.cell rfl, h.c.cell rfl, h.c.cell rfl, h.c.cell rfl, h.c.cell rfl, h.c.cell rfl, h.u.cell rfl, h.u.cell rfl⟩
theorem Bp.toQ {w w' : World} {n s k o z b r u v : Int} (h : Bp w w' n s k o z b r u v) : Bq w w' n s k o z b r u v := ⟨h.p, h.c, h.u⟩
theorem made_at (w : World) (g : Nat) (hg : w.heap.size = g) : Mp (w.alloc (.map #[] 0)) g ([].map slKV) := by subst hg; exact Mp.made w
theorem slKV_nil : (([] : List Sl).map slKV) = [] := rfl
theorem Bp.kept {w wx wy : World} {n s k o z b r u v : Int} (h : Bp w wx n s k o z b r u v) (kp : Kp [] wx wy) : Bp w wy n s k o z b r u v := ⟨h.kp.then kp, h.p.kept kp (by simp), h.c.kept kp (by simp), h.u.kept kp (by simp)⟩
theorem Bp.start (w : World) (n s k o z b r u v : Int) : Bp w (((w.alloc (.cells #[.int .i64 n, .int .i64 s] 40)).alloc (.cells #[.int .i64 k, .int .i64 o, .int .i64 z, .int .i64 b, .int .i64 r] 38)).alloc (.cells #[.int .i64 u, .int .i64 v] 40)) n s k o z b r u v :=
  ⟨(((Kp.refl [] w).alloc _).alloc _).alloc _, ((Bk.new w _ [.int .i64 n, .int .i64 s]).alloc _).alloc _, (Bk.next (p := w.heap.size + 1) _ _ [.int .i64 k, .int .i64 o, .int .i64 z, .int .i64 b, .int .i64 r] (by simp)).alloc _, Bk.next (p := w.heap.size + 2) _ _ [.int .i64 u, .int .i64 v] (by simp)⟩
theorem Bp.cells {w w' : World} {n s k o z b r u v : Int} (h : Bp w w' n s k o z b r u v) : w'.cell? ⟨w.heap.size, 0, none⟩ = some (.int .i64 n) ∧ w'.cell? ⟨w.heap.size, 1, none⟩ = some (.int .i64 s) ∧ w'.cell? ⟨w.heap.size + 1, 0, none⟩ = some (.int .i64 k) ∧ w'.cell? ⟨w.heap.size + 1, 1, none⟩ = some (.int .i64 o) ∧ w'.cell? ⟨w.heap.size + 1, 2, none⟩ = some (.int .i64 z) ∧ w'.cell? ⟨w.heap.size + 1, 3, none⟩ = some (.int .i64 b) ∧ w'.cell? ⟨w.heap.size + 1, 4, none⟩ = some (.int .i64 r) ∧ w'.cell? ⟨w.heap.size + 2, 0, none⟩ = some (.int .i64 u) ∧ w'.cell? ⟨w.heap.size + 2, 1, none⟩ = some (.int .i64 v) :=
  ⟨h.p.cell rfl, h.p.cell rfl, h.c.cell rfl, h.c.cell rfl, h.c.cell rfl, h.c.cell rfl, h.c.cell rfl, h.u.cell rfl, h.u.cell rfl⟩
theorem free_iff {L : List Sl} {n s : Int} : freeB L n s = true ↔ placeOk n s = true ∧ atL L n s = none := by
  unfold freeB
  rw [Bool.and_eq_true, Bool.not_eq_true']
  refine and_congr_right fun _ => ?_
  rw [← Bool.not_eq_true, look_iff]
  simp
theorem isN_iff {n s : Int} : isN n s = true ↔ n = 0 ∧ s = 0 := by unfold isN; simp
set_option maxHeartbeats 1000000 in
theorem put_no {w : World} {t : Nat} {m : Option Nat} {L : List Sl} (h : PT w t m L) {n s k o z b r u v : Int} (hi : PIn (n, s)) (hu : PIn (u, v)) (hn : ¬ putP L n s k o z b r u v) :
    Calls Try.prog 10 #[.pointer (some ⟨t, 0, none⟩), .agg #[.int .i64 n, .int .i64 s], .agg #[.int .i64 k, .int .i64 o, .int .i64 z, .int .i64 b, .int .i64 r], .agg #[.int .i64 u, .int .i64 v]] w fun e w' => e = .returned (.bool false) ∧ Kp [] w w' := by
  obtain ⟨v1, h1⟩ : ∃ v, freeB L n s = v := ⟨_, rfl⟩
  obtain ⟨v2, h2⟩ : ∃ v, chk k o z b r = v := ⟨_, rfl⟩
  obtain ⟨v3, h3⟩ : ∃ x, isN u v = x := ⟨_, rfl⟩
  obtain ⟨v4, h4⟩ : ∃ x, (lookS L u v).isSome = x := ⟨_, rfl⟩
  have hc : v1 = false ∨ v2 = false ∨ (v3 = false ∧ v4 = false) := by
    cases v1
    · exact .inl rfl
    · cases v2
      · exact .inr (.inl rfl)
      · refine .inr (.inr ?_)
        obtain ⟨f1, f2⟩ := free_iff.1 h1
        cases v3
        · cases v4
          · exact ⟨rfl, rfl⟩
          · exact absurd ⟨f1, f2, h2, .inr (look_iff.1 h4)⟩ hn
        · exact absurd ⟨f1, f2, h2, .inl (isN_iff.1 h3)⟩ hn
  have H := hide h
  have X := hide (Bp.start w n s k o z b r u v)
  replace h1 := hide h1
  replace h2 := hide h2
  replace h3 := hide h3
  replace h4 := hide h4
  clear h hn
  go_enter Try.func10, Try.ntmps10
  go_wp2_with fail
  refine (free_to ((unhide H).grew (unhide X).kp) hi (unhide h1)).mono ?_
  rintro e W1 ⟨rfl, K1⟩
  have X1 := hide ((unhide X).kept K1)
  obtain ⟨c0, c1, c2, c3, c4, c5, c6, c7, c8⟩ := (unhide X1).cells
  clear K1 X
  cases v1
  · go_wp2
    go_ret
    exact ⟨rfl, (unhide X1).kp⟩
  · go_wp2_with fail
    refine (checkA k o z b r _ _ (unhide h2)).mono ?_
    rintro e W2 ⟨rfl, K2⟩
    have X2 := hide ((unhide X1).kept K2)
    clear c0 c1 c2 c3 c4 c5 c6 c7 c8 K2 X1
    obtain ⟨c0, c1, c2, c3, c4, c5, c6, c7, c8⟩ := (unhide X2).cells
    cases v2
    · go_wp2
      go_ret
      exact ⟨rfl, (unhide X2).kp⟩
    · obtain ⟨e3, e4⟩ : v3 = false ∧ v4 = false := by simpa using hc
      subst e3 e4
      go_wp2_with fail
      refine (isnone_to (unhide h3)).mono ?_
      rintro e W3 ⟨rfl, K3⟩
      have X3 := hide ((unhide X2).kept K3)
      clear c0 c1 c2 c3 c4 c5 c6 c7 c8 K3 X2
      obtain ⟨c0, c1, c2, c3, c4, c5, c6, c7, c8⟩ := (unhide X3).cells
      go_wp2_with fail
      refine (has_to ((unhide H).grew (unhide X3).kp) hu (unhide h4)).mono ?_
      rintro e W4 ⟨rfl, K4⟩
      have X4 := hide ((unhide X3).kept K4)
      clear c0 c1 c2 c3 c4 c5 c6 c7 c8 K4 X3
      go_wp2
      go_ret
      exact ⟨rfl, (unhide X4).kp⟩
theorem eq_nil (m : Option Nat) (w : World) : (binOp .eql 25 (.map m) (.map none)).run Try.prog w = .ok (.bool m.isNone) w := by
  cases m with
  | none => kernel_rfl
  | some b => kernel_rfl
/-- The table's map was made: the same table. -/
theorem PT.head0 {w : World} {t : Nat} {L : List Sl} (h : PT w t none L) : L = [] := h.mo
set_option maxRecDepth 4000 in
set_option maxHeartbeats 2000000 in
theorem put_yes {w : World} {t : Nat} {m : Option Nat} {L : List Sl} (h : PT w t m L) {n s k o z b r u v : Int} (hi : PIn (n, s)) (hu : PIn (u, v)) (hp : putP L n s k o z b r u v) (hL : L.length < 65536) :
    Calls Try.prog 10 #[.pointer (some ⟨t, 0, none⟩), .agg #[.int .i64 n, .int .i64 s], .agg #[.int .i64 k, .int .i64 o, .int .i64 z, .int .i64 b, .int .i64 r], .agg #[.int .i64 u, .int .i64 v]] w (PPutP w t m (insL L ⟨n, s, u, v, k, o, z, b, r⟩)) := by
  obtain ⟨p1, p2, p3, p4⟩ := hp
  have h1 := hide (free_iff.2 ⟨p1, p2⟩)
  have h2 := hide p3
  obtain ⟨v3, h3⟩ : ∃ x, isN u v = x := ⟨_, rfl⟩
  have h4 : Hid (isN u v = false → (lookS L u v).isSome = true) := fun e => look_iff.2 (by
    rcases p4 with q | q
    · rw [isN_iff.2 q] at e; cases e
    · exact q)
  replace h3 := hide h3
  have hn := hide p2
  have H := hide h
  have hR := hide h.rises'
  have hO := hide h.ok
  have hPk := hide p1
  have ht := hide h.head.lt
  have X := hide (Bp.start w n s k o z b r u v)
  clear h p1 p2 p3 p4
  go_enter Try.func10, Try.ntmps10
  go_wp2_with fail
  refine (free_to ((unhide H).grew (unhide X).kp) hi (unhide h1)).mono ?_
  rintro e W1 ⟨rfl, K1⟩
  have X1 := hide ((unhide X).kept K1)
  obtain ⟨c0, c1, c2, c3, c4, c5, c6, c7, c8⟩ := (unhide X1).cells
  clear K1 X
  go_wp2_with fail
  refine (checkA k o z b r _ _ (unhide h2)).mono ?_
  rintro e W2 ⟨rfl, K2⟩
  have X2 := hide ((unhide X1).kept K2)
  clear c0 c1 c2 c3 c4 c5 c6 c7 c8 K2 X1
  obtain ⟨c0, c1, c2, c3, c4, c5, c6, c7, c8⟩ := (unhide X2).cells
  go_wp2_with fail
  refine (isnone_to (unhide h3)).mono ?_
  rintro e W3 ⟨rfl, K3⟩
  have X3 := hide ((unhide X2).kept K3)
  clear c0 c1 c2 c3 c4 c5 c6 c7 c8 K3 X2
  obtain ⟨c0, c1, c2, c3, c4, c5, c6, c7, c8⟩ := (unhide X3).cells
  cases v3
  · go_wp2_with fail
    refine (has_to ((unhide H).grew (unhide X3).kp) hu (unhide h4 (unhide h3))).mono ?_
    rintro e W4 ⟨rfl, K4⟩
    have X4 := hide ((unhide X3).kept K4)
    clear c0 c1 c2 c3 c4 c5 c6 c7 c8 K4 X3
    obtain ⟨c0, c1, c2, c3, c4, c5, c6, c7, c8⟩ := (unhide X4).cells
    have P4 := hide ((unhide H).grew (unhide X4).kp)
    have th := (unhide P4).head.cell (i := 0) rfl
    have tf := (unhide P4).head.frozen
    have tl := (unhide P4).head.lt
    cases m with
    | none =>
      have hmm := @run_makeMap Try.prog
      have heq : ∀ w, (binOp .eql 25 (.map none) (.map none)).run Try.prog w = .ok (.bool true) w := eq_nil none
      have hL0 := (unhide H).head0
      subst hL0
      have hB := hide (((unhide P4).head.set 0 (.map (some W4.heap.size))).alloc (.map #[] 0))
      have hM := hide (made_at (W4.setCell ⟨t, 0, none⟩ (.map (some W4.heap.size))) W4.heap.size (by simp [World.setCell]))
      have hK5 := hide (((Kp.refl [t] W4).setCell (p := ⟨t, 0, none⟩) (.inl (by simp)) (.map (some W4.heap.size))).alloc (.map #[] 0))
      have hsz4 := (unhide X4).kp.size
      have hsz5 := (unhide X4).u.lt
      have hQ := hide ((unhide X4).toQ.kept (unhide hK5) (by have := unhide ht; simp; omega))
      have hne : Hid (t ∉ [W4.heap.size]) := by unfold Hid; simp; omega
      have hns : Hid (w.heap.size ∉ [W4.heap.size] ∧ w.heap.size + 1 ∉ [W4.heap.size] ∧ w.heap.size + 2 ∉ [W4.heap.size]) := by unfold Hid; simp; omega
      have hle := hide hsz4
      clear hsz5 hsz4
      go_wp2_with fail
      have hbq := hide hle
      generalize hwx : (W4.setCell ⟨t, 0, none⟩ (.map (some W4.heap.size))).alloc (.map #[] 0) = wx at *
      generalize hbn : W4.heap.size = bn at *
      clear hwx hmm
      obtain ⟨W6, hup0, hM6, hK6⟩ := Mp.put_miss (w := wx.drew) (unhide hM) Try.underlying25 (q := (n, s)) hi (at_miss (unhide hn)) (holdV ⟨n, s, u, v, k, o, z, b, r⟩)
      have hup : (Instr.mapUpdate 25 (.map (some bn)) (.agg #[.int .i64 n, .int .i64 s]) (.agg #[.int .i64 k, .int .i64 o, .int .i64 z, .int .i64 b, .int .i64 r, .int .i64 u, .int .i64 v])).run Try.prog wx.drew = .ok () W6 := hup0
      have hS : Hid (∀ w', Kp [bn] wx w' → (fun w' => w'.cell? ⟨t, 0, none⟩ = some (.map (some bn)) ∧ w'.cell? ⟨w.heap.size, 0, none⟩ = some (.int .i64 n) ∧ w'.cell? ⟨w.heap.size, 1, none⟩ = some (.int .i64 s) ∧ w'.cell? ⟨w.heap.size + 1, 0, none⟩ = some (.int .i64 k) ∧ w'.cell? ⟨w.heap.size + 1, 1, none⟩ = some (.int .i64 o) ∧ w'.cell? ⟨w.heap.size + 1, 2, none⟩ = some (.int .i64 z) ∧ w'.cell? ⟨w.heap.size + 1, 3, none⟩ = some (.int .i64 b) ∧ w'.cell? ⟨w.heap.size + 1, 4, none⟩ = some (.int .i64 r) ∧ w'.cell? ⟨w.heap.size + 2, 0, none⟩ = some (.int .i64 u) ∧ w'.cell? ⟨w.heap.size + 2, 1, none⟩ = some (.int .i64 v)) w') := fun w' kk => ⟨((unhide hB).kept kk (unhide hne)).cell rfl, ((unhide hQ).kept kk (unhide hns)).cells⟩
      have K0 := hide (Kp.refl [bn] wx).drew
      have hK6' := hide ((Kp.refl [bn] wx).drew.then hK6)
      have hB6 := hide ((unhide hB).kept (unhide hK6') (unhide hne))
      replace hM6 := hide hM6
      clear hup0 hK6
      have cc := unhide hS _ (unhide K0)
      go_region_held3 (fun w' => w'.cell? ⟨t, 0, none⟩ = some (.map (some bn)) ∧ w'.cell? ⟨w.heap.size, 0, none⟩ = some (.int .i64 n) ∧ w'.cell? ⟨w.heap.size, 1, none⟩ = some (.int .i64 s) ∧ w'.cell? ⟨w.heap.size + 1, 0, none⟩ = some (.int .i64 k) ∧ w'.cell? ⟨w.heap.size + 1, 1, none⟩ = some (.int .i64 o) ∧ w'.cell? ⟨w.heap.size + 1, 2, none⟩ = some (.int .i64 z) ∧ w'.cell? ⟨w.heap.size + 1, 3, none⟩ = some (.int .i64 b) ∧ w'.cell? ⟨w.heap.size + 1, 4, none⟩ = some (.int .i64 r) ∧ w'.cell? ⟨w.heap.size + 2, 0, none⟩ = some (.int .i64 u) ∧ w'.cell? ⟨w.heap.size + 2, 1, none⟩ = some (.int .i64 v)) (first | exact unhide hS _ (unhide K0) | exact unhide hS _ (unhide hK6')) (fail)
      all_goals
        go_wp2
        go_ret
        exact ⟨rfl, some (bn), PT.put (x := ⟨n, s, u, v, k, o, z, b, r⟩) (unhide hB6) (unhide hM6) (unhide hR) (unhide hn) hL (unhide hO) (unhide hPk), (((unhide X4).kp.trans (unhide hK5) (T := [t]) (by simp) (by simp)).trans (unhide hK6') (T := t :: (none : Option Nat).toList) (by simp) (by intro i hi; simp at hi; subst hi; exact .inr (unhide hle))), fun q hq => .inr (by cases hq; exact unhide hle)⟩
    | some bq =>
      have heq : ∀ w, (binOp .eql 25 (.map (some bq)) (.map none)).run Try.prog w = .ok (.bool false) w := eq_nil (some bq)
      have hB := hide (unhide P4).head
      have hM : Hid (Mp W4 bq (L.map slKV)) := (unhide P4).mo
      have hQ := hide (unhide X4).toQ
      have hne : Hid (t ∉ [bq]) := by have := (unhide H).ne bq rfl; unfold Hid; simp; exact fun e => this e.symm
      have hns : Hid (w.heap.size ∉ [bq] ∧ w.heap.size + 1 ∉ [bq] ∧ w.heap.size + 2 ∉ [bq]) := by have := (unhide H).lt bq rfl; unfold Hid; simp; omega
      have hKK := hide (unhide X4).kp
      go_wp2_with fail
      generalize hwx : W4 = wx at *
      clear hwx
      obtain ⟨W6, hup0, hM6, hK6⟩ := Mp.put_miss (w := wx.drew) (unhide hM) Try.underlying25 (q := (n, s)) hi (at_miss (unhide hn)) (holdV ⟨n, s, u, v, k, o, z, b, r⟩)
      have hup : (Instr.mapUpdate 25 (.map (some bq)) (.agg #[.int .i64 n, .int .i64 s]) (.agg #[.int .i64 k, .int .i64 o, .int .i64 z, .int .i64 b, .int .i64 r, .int .i64 u, .int .i64 v])).run Try.prog wx.drew = .ok () W6 := hup0
      have hS : Hid (∀ w', Kp [bq] wx w' → (fun w' => w'.cell? ⟨t, 0, none⟩ = some (.map (some bq)) ∧ w'.cell? ⟨w.heap.size, 0, none⟩ = some (.int .i64 n) ∧ w'.cell? ⟨w.heap.size, 1, none⟩ = some (.int .i64 s) ∧ w'.cell? ⟨w.heap.size + 1, 0, none⟩ = some (.int .i64 k) ∧ w'.cell? ⟨w.heap.size + 1, 1, none⟩ = some (.int .i64 o) ∧ w'.cell? ⟨w.heap.size + 1, 2, none⟩ = some (.int .i64 z) ∧ w'.cell? ⟨w.heap.size + 1, 3, none⟩ = some (.int .i64 b) ∧ w'.cell? ⟨w.heap.size + 1, 4, none⟩ = some (.int .i64 r) ∧ w'.cell? ⟨w.heap.size + 2, 0, none⟩ = some (.int .i64 u) ∧ w'.cell? ⟨w.heap.size + 2, 1, none⟩ = some (.int .i64 v)) w') := fun w' kk => ⟨((unhide hB).kept kk (unhide hne)).cell rfl, ((unhide hQ).kept kk (unhide hns)).cells⟩
      have K0 := hide (Kp.refl [bq] wx).drew
      have hK6' := hide ((Kp.refl [bq] wx).drew.then hK6)
      have hB6 := hide ((unhide hB).kept (unhide hK6') (unhide hne))
      replace hM6 := hide hM6
      clear hup0 hK6
      have cc := unhide hS _ (unhide K0)
      go_region_held3 (fun w' => w'.cell? ⟨t, 0, none⟩ = some (.map (some bq)) ∧ w'.cell? ⟨w.heap.size, 0, none⟩ = some (.int .i64 n) ∧ w'.cell? ⟨w.heap.size, 1, none⟩ = some (.int .i64 s) ∧ w'.cell? ⟨w.heap.size + 1, 0, none⟩ = some (.int .i64 k) ∧ w'.cell? ⟨w.heap.size + 1, 1, none⟩ = some (.int .i64 o) ∧ w'.cell? ⟨w.heap.size + 1, 2, none⟩ = some (.int .i64 z) ∧ w'.cell? ⟨w.heap.size + 1, 3, none⟩ = some (.int .i64 b) ∧ w'.cell? ⟨w.heap.size + 1, 4, none⟩ = some (.int .i64 r) ∧ w'.cell? ⟨w.heap.size + 2, 0, none⟩ = some (.int .i64 u) ∧ w'.cell? ⟨w.heap.size + 2, 1, none⟩ = some (.int .i64 v)) (first | exact unhide hS _ (unhide K0) | exact unhide hS _ (unhide hK6')) (fail)
      all_goals
        go_wp2
        go_ret
        exact ⟨rfl, some (bq), PT.put (x := ⟨n, s, u, v, k, o, z, b, r⟩) (unhide hB6) (unhide hM6) (unhide hR) (unhide hn) hL (unhide hO) (unhide hPk), ((unhide hKK).trans (unhide hK6') (T := t :: (some bq).toList) (by simp) (by simp)), fun q hq => .inl hq⟩

  · have X4 := X3
    clear X3
    generalize hw4 : W3 = W4 at *
    clear hw4
    have P4 := hide ((unhide H).grew (unhide X4).kp)
    have th := (unhide P4).head.cell (i := 0) rfl
    have tf := (unhide P4).head.frozen
    have tl := (unhide P4).head.lt
    cases m with
    | none =>
      have hmm := @run_makeMap Try.prog
      have heq : ∀ w, (binOp .eql 25 (.map none) (.map none)).run Try.prog w = .ok (.bool true) w := eq_nil none
      have hL0 := (unhide H).head0
      subst hL0
      have hB := hide (((unhide P4).head.set 0 (.map (some W4.heap.size))).alloc (.map #[] 0))
      have hM := hide (made_at (W4.setCell ⟨t, 0, none⟩ (.map (some W4.heap.size))) W4.heap.size (by simp [World.setCell]))
      have hK5 := hide (((Kp.refl [t] W4).setCell (p := ⟨t, 0, none⟩) (.inl (by simp)) (.map (some W4.heap.size))).alloc (.map #[] 0))
      have hsz4 := (unhide X4).kp.size
      have hsz5 := (unhide X4).u.lt
      have hQ := hide ((unhide X4).toQ.kept (unhide hK5) (by have := unhide ht; simp; omega))
      have hne : Hid (t ∉ [W4.heap.size]) := by unfold Hid; simp; omega
      have hns : Hid (w.heap.size ∉ [W4.heap.size] ∧ w.heap.size + 1 ∉ [W4.heap.size] ∧ w.heap.size + 2 ∉ [W4.heap.size]) := by unfold Hid; simp; omega
      have hle := hide hsz4
      clear hsz5 hsz4
      go_wp2_with fail
      have hbq := hide hle
      generalize hwx : (W4.setCell ⟨t, 0, none⟩ (.map (some W4.heap.size))).alloc (.map #[] 0) = wx at *
      generalize hbn : W4.heap.size = bn at *
      clear hwx hmm
      obtain ⟨W6, hup0, hM6, hK6⟩ := Mp.put_miss (w := wx.drew) (unhide hM) Try.underlying25 (q := (n, s)) hi (at_miss (unhide hn)) (holdV ⟨n, s, u, v, k, o, z, b, r⟩)
      have hup : (Instr.mapUpdate 25 (.map (some bn)) (.agg #[.int .i64 n, .int .i64 s]) (.agg #[.int .i64 k, .int .i64 o, .int .i64 z, .int .i64 b, .int .i64 r, .int .i64 u, .int .i64 v])).run Try.prog wx.drew = .ok () W6 := hup0
      have hS : Hid (∀ w', Kp [bn] wx w' → (fun w' => w'.cell? ⟨t, 0, none⟩ = some (.map (some bn)) ∧ w'.cell? ⟨w.heap.size, 0, none⟩ = some (.int .i64 n) ∧ w'.cell? ⟨w.heap.size, 1, none⟩ = some (.int .i64 s) ∧ w'.cell? ⟨w.heap.size + 1, 0, none⟩ = some (.int .i64 k) ∧ w'.cell? ⟨w.heap.size + 1, 1, none⟩ = some (.int .i64 o) ∧ w'.cell? ⟨w.heap.size + 1, 2, none⟩ = some (.int .i64 z) ∧ w'.cell? ⟨w.heap.size + 1, 3, none⟩ = some (.int .i64 b) ∧ w'.cell? ⟨w.heap.size + 1, 4, none⟩ = some (.int .i64 r) ∧ w'.cell? ⟨w.heap.size + 2, 0, none⟩ = some (.int .i64 u) ∧ w'.cell? ⟨w.heap.size + 2, 1, none⟩ = some (.int .i64 v)) w') := fun w' kk => ⟨((unhide hB).kept kk (unhide hne)).cell rfl, ((unhide hQ).kept kk (unhide hns)).cells⟩
      have K0 := hide (Kp.refl [bn] wx).drew
      have hK6' := hide ((Kp.refl [bn] wx).drew.then hK6)
      have hB6 := hide ((unhide hB).kept (unhide hK6') (unhide hne))
      replace hM6 := hide hM6
      clear hup0 hK6
      have cc := unhide hS _ (unhide K0)
      go_region_held3 (fun w' => w'.cell? ⟨t, 0, none⟩ = some (.map (some bn)) ∧ w'.cell? ⟨w.heap.size, 0, none⟩ = some (.int .i64 n) ∧ w'.cell? ⟨w.heap.size, 1, none⟩ = some (.int .i64 s) ∧ w'.cell? ⟨w.heap.size + 1, 0, none⟩ = some (.int .i64 k) ∧ w'.cell? ⟨w.heap.size + 1, 1, none⟩ = some (.int .i64 o) ∧ w'.cell? ⟨w.heap.size + 1, 2, none⟩ = some (.int .i64 z) ∧ w'.cell? ⟨w.heap.size + 1, 3, none⟩ = some (.int .i64 b) ∧ w'.cell? ⟨w.heap.size + 1, 4, none⟩ = some (.int .i64 r) ∧ w'.cell? ⟨w.heap.size + 2, 0, none⟩ = some (.int .i64 u) ∧ w'.cell? ⟨w.heap.size + 2, 1, none⟩ = some (.int .i64 v)) (first | exact unhide hS _ (unhide K0) | exact unhide hS _ (unhide hK6')) (fail)
      all_goals
        go_wp2
        go_ret
        exact ⟨rfl, some (bn), PT.put (x := ⟨n, s, u, v, k, o, z, b, r⟩) (unhide hB6) (unhide hM6) (unhide hR) (unhide hn) hL (unhide hO) (unhide hPk), (((unhide X4).kp.trans (unhide hK5) (T := [t]) (by simp) (by simp)).trans (unhide hK6') (T := t :: (none : Option Nat).toList) (by simp) (by intro i hi; simp at hi; subst hi; exact .inr (unhide hle))), fun q hq => .inr (by cases hq; exact unhide hle)⟩
    | some bq =>
      have heq : ∀ w, (binOp .eql 25 (.map (some bq)) (.map none)).run Try.prog w = .ok (.bool false) w := eq_nil (some bq)
      have hB := hide (unhide P4).head
      have hM : Hid (Mp W4 bq (L.map slKV)) := (unhide P4).mo
      have hQ := hide (unhide X4).toQ
      have hne : Hid (t ∉ [bq]) := by have := (unhide H).ne bq rfl; unfold Hid; simp; exact fun e => this e.symm
      have hns : Hid (w.heap.size ∉ [bq] ∧ w.heap.size + 1 ∉ [bq] ∧ w.heap.size + 2 ∉ [bq]) := by have := (unhide H).lt bq rfl; unfold Hid; simp; omega
      have hKK := hide (unhide X4).kp
      go_wp2_with fail
      generalize hwx : W4 = wx at *
      clear hwx
      obtain ⟨W6, hup0, hM6, hK6⟩ := Mp.put_miss (w := wx.drew) (unhide hM) Try.underlying25 (q := (n, s)) hi (at_miss (unhide hn)) (holdV ⟨n, s, u, v, k, o, z, b, r⟩)
      have hup : (Instr.mapUpdate 25 (.map (some bq)) (.agg #[.int .i64 n, .int .i64 s]) (.agg #[.int .i64 k, .int .i64 o, .int .i64 z, .int .i64 b, .int .i64 r, .int .i64 u, .int .i64 v])).run Try.prog wx.drew = .ok () W6 := hup0
      have hS : Hid (∀ w', Kp [bq] wx w' → (fun w' => w'.cell? ⟨t, 0, none⟩ = some (.map (some bq)) ∧ w'.cell? ⟨w.heap.size, 0, none⟩ = some (.int .i64 n) ∧ w'.cell? ⟨w.heap.size, 1, none⟩ = some (.int .i64 s) ∧ w'.cell? ⟨w.heap.size + 1, 0, none⟩ = some (.int .i64 k) ∧ w'.cell? ⟨w.heap.size + 1, 1, none⟩ = some (.int .i64 o) ∧ w'.cell? ⟨w.heap.size + 1, 2, none⟩ = some (.int .i64 z) ∧ w'.cell? ⟨w.heap.size + 1, 3, none⟩ = some (.int .i64 b) ∧ w'.cell? ⟨w.heap.size + 1, 4, none⟩ = some (.int .i64 r) ∧ w'.cell? ⟨w.heap.size + 2, 0, none⟩ = some (.int .i64 u) ∧ w'.cell? ⟨w.heap.size + 2, 1, none⟩ = some (.int .i64 v)) w') := fun w' kk => ⟨((unhide hB).kept kk (unhide hne)).cell rfl, ((unhide hQ).kept kk (unhide hns)).cells⟩
      have K0 := hide (Kp.refl [bq] wx).drew
      have hK6' := hide ((Kp.refl [bq] wx).drew.then hK6)
      have hB6 := hide ((unhide hB).kept (unhide hK6') (unhide hne))
      replace hM6 := hide hM6
      clear hup0 hK6
      have cc := unhide hS _ (unhide K0)
      go_region_held3 (fun w' => w'.cell? ⟨t, 0, none⟩ = some (.map (some bq)) ∧ w'.cell? ⟨w.heap.size, 0, none⟩ = some (.int .i64 n) ∧ w'.cell? ⟨w.heap.size, 1, none⟩ = some (.int .i64 s) ∧ w'.cell? ⟨w.heap.size + 1, 0, none⟩ = some (.int .i64 k) ∧ w'.cell? ⟨w.heap.size + 1, 1, none⟩ = some (.int .i64 o) ∧ w'.cell? ⟨w.heap.size + 1, 2, none⟩ = some (.int .i64 z) ∧ w'.cell? ⟨w.heap.size + 1, 3, none⟩ = some (.int .i64 b) ∧ w'.cell? ⟨w.heap.size + 1, 4, none⟩ = some (.int .i64 r) ∧ w'.cell? ⟨w.heap.size + 2, 0, none⟩ = some (.int .i64 u) ∧ w'.cell? ⟨w.heap.size + 2, 1, none⟩ = some (.int .i64 v)) (first | exact unhide hS _ (unhide K0) | exact unhide hS _ (unhide hK6')) (fail)
      all_goals
        go_wp2
        go_ret
        exact ⟨rfl, some (bq), PT.put (x := ⟨n, s, u, v, k, o, z, b, r⟩) (unhide hB6) (unhide hM6) (unhide hR) (unhide hn) hL (unhide hO) (unhide hPk), ((unhide hKK).trans (unhide hK6') (T := t :: (some bq).toList) (by simp) (by simp)), fun q hq => .inl hq⟩

end Go.Proofs.Ythjhpcbhkcmghaa
