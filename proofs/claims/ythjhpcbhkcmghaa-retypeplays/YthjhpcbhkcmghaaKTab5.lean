/- The document's table: Put. -/
import Derived.Test.YthjhpcbhkcmghaaKApp
namespace Go.Proofs.Ythjhpcbhkcmghaa
open Go.RowKit
set_option linter.unusedVariables false
theorem rplace_to (n s : Int) (v : Bool) (w : World) (h : placeOk n s = v) :
    Calls Try.prog 33 #[.agg #[.int .i64 n, .int .i64 s]] w fun e w' => e = .returned (.bool v) ∧ Kp [] w w' := by subst h; exact rplace_calls n s w
theorem rcheckA (k o s b r : Int) (v : Bool) (w : World) (h : chk k o s b r = v) :
    Calls Try.prog 35 #[.agg #[.int .i64 k, .int .i64 o, .int .i64 s, .int .i64 b, .int .i64 r]] w fun e w' => e = .returned (.bool v) ∧ Kp [] w w' := by subst h; exact rcheck_calls k o s b r w
theorem rbefore_to (n s n' s' : Int) (v : Bool) (w : World) (h : before n s n' s' = v) :
    Calls Try.prog 36 #[.agg #[.int .i64 n, .int .i64 s], .agg #[.int .i64 n', .int .i64 s']] w fun e w' => e = .returned (.bool v) ∧ Kp [] w w' := by subst h; exact rbefore_calls n s n' s' w
theorem at_to {base : Nat} {w : World} {t : Nat} {a : Option Addr} {cap : Nat} {L : List Sl} (h : RT base w t a cap L) (n s i : Int) (hi : atI L n s = i) :
    Calls Try.prog 34 #[.pointer (some ⟨t, 0, none⟩), .agg #[.int .i64 n, .int .i64 s]] w fun e w' => e = .returned (.int .i64 i) ∧ Kp [] w w' := by subst hi; exact at_calls h n s
/-- May it be put? -/
def putP (L : List Sl) (n s k o z b r u v : Int) : Prop := placeOk n s = true ∧ atL L n s = none ∧ chk k o z b r = true ∧ ((u = 0 ∧ v = 0) ∨ atL L u v ≠ none)
/-- Put at its place. -/
def insL (L : List Sl) (x : Sl) : List Sl := L.takeWhile (fun y => before y.n y.s x.n x.s) ++ x :: L.dropWhile (fun y => before y.n y.s x.n x.s)
/-- The three that are handed in, in blocks of their own. -/
structure Bx (w wx : World) (n s k o z b r u v : Int) : Prop where
  kp : Kp [] w wx
  p : Bk wx w.heap.size 40 [.int .i64 n, .int .i64 s]
  c : Bk wx (w.heap.size + 1) 38 [.int .i64 k, .int .i64 o, .int .i64 z, .int .i64 b, .int .i64 r]
  u : Bk wx (w.heap.size + 2) 40 [.int .i64 u, .int .i64 v]
theorem Bx.kept {w wx wy : World} {n s k o z b r u v : Int} (h : Bx w wx n s k o z b r u v) (kp : Kp [] wx wy) : Bx w wy n s k o z b r u v := ⟨h.kp.then kp, h.p.kept kp (by simp), h.c.kept kp (by simp), h.u.kept kp (by simp)⟩
theorem Bx.start (w : World) (n s k o z b r u v : Int) : Bx w (((w.alloc (.cells #[.int .i64 n, .int .i64 s] 40)).alloc (.cells #[.int .i64 k, .int .i64 o, .int .i64 z, .int .i64 b, .int .i64 r] 38)).alloc (.cells #[.int .i64 u, .int .i64 v] 40)) n s k o z b r u v :=
  ⟨(((Kp.refl [] w).alloc _).alloc _).alloc _, ((Bk.new w _ [.int .i64 n, .int .i64 s]).alloc _).alloc _, (Bk.next _ _ [.int .i64 k, .int .i64 o, .int .i64 z, .int .i64 b, .int .i64 r] (by simp)).alloc _, Bk.next _ _ [.int .i64 u, .int .i64 v] (by simp)⟩
theorem Bx.cells {w wx : World} {n s k o z b r u v : Int} (h : Bx w wx n s k o z b r u v) :
    wx.cell? ⟨w.heap.size, 0, none⟩ = some (.int .i64 n) ∧ wx.cell? ⟨w.heap.size, 1, none⟩ = some (.int .i64 s) ∧ wx.cell? ⟨w.heap.size + 1, 0, none⟩ = some (.int .i64 k) ∧ wx.cell? ⟨w.heap.size + 1, 1, none⟩ = some (.int .i64 o) ∧ wx.cell? ⟨w.heap.size + 1, 2, none⟩ = some (.int .i64 z) ∧ wx.cell? ⟨w.heap.size + 1, 3, none⟩ = some (.int .i64 b) ∧ wx.cell? ⟨w.heap.size + 1, 4, none⟩ = some (.int .i64 r) ∧ wx.cell? ⟨w.heap.size + 2, 0, none⟩ = some (.int .i64 u) ∧ wx.cell? ⟨w.heap.size + 2, 1, none⟩ = some (.int .i64 v) :=
  ⟨h.p.cell rfl, h.p.cell rfl, h.c.cell rfl, h.c.cell rfl, h.c.cell rfl, h.c.cell rfl, h.c.cell rfl, h.u.cell rfl, h.u.cell rfl⟩
theorem atI_none {L : List Sl} {n s : Int} (h : atL L n s = none) : atI L n s = -1 := atL_none h
theorem atI_there {L : List Sl} {n s : Int} (h : atL L n s ≠ none) : ∃ i : Nat, atI L n s = (i : Int) := by
  cases e : atL L n s with
  | none => exact (h e).elim
  | some i => exact ⟨i, atL_atI e⟩
set_option maxHeartbeats 1000000 in
theorem rput_no {base : Nat} {w : World} {t : Nat} {a : Option Addr} {cap : Nat} {L : List Sl} (h : RT base w t a cap L) (n s k o z b r u v : Int) (hn : ¬ putP L n s k o z b r u v) :
    Calls Try.prog 11 #[.pointer (some ⟨t, 0, none⟩), .agg #[.int .i64 n, .int .i64 s], capV k o z b r, .agg #[.int .i64 u, .int .i64 v]] w fun e w' => e = .returned (.bool false) ∧ Kp [] w w' := by
  have H := hide h
  have X0 := hide (Bx.start w n s k o z b r u v)
  obtain ⟨v1, h1⟩ : ∃ q, placeOk n s = q := ⟨_, rfl⟩
  obtain ⟨v3, h3⟩ : ∃ q, chk k o z b r = q := ⟨_, rfl⟩
  replace h1 := hide h1
  replace h3 := hide h3
  clear h
  cases v1
  · clear hn h3
    go_enter Try.func11, Try.ntmps11
    go_wp2_with fail
    all_goals
      (try subst_vars)
      refine (rplace_to n s _ _ (unhide h1)).mono ?_
      rintro e W1 ⟨rfl, K1⟩
      have X1 := (unhide X0).kept K1
      have c1 := X1.cells
      replace X1 := hide X1
      clear K1
      go_wp2
      go_ret
      exact ⟨rfl, (unhide X1).kp⟩
  by_cases e2 : atL L n s = none
  · have h2 := hide (atI_none e2)
    cases v3
    · clear hn
      go_enter Try.func11, Try.ntmps11
      go_wp2_with fail
      all_goals
        (try subst_vars)
        refine (rplace_to n s _ _ (unhide h1)).mono ?_
        rintro e W1 ⟨rfl, K1⟩
        have X1 := (unhide X0).kept K1
        have c1 := X1.cells
        replace X1 := hide X1
        clear K1
        go_wp2_with fail
        refine (at_to ((unhide H).grew (unhide X1).kp) n s _ (unhide h2)).mono ?_
        rintro e W2 ⟨rfl, K2⟩
        have X2 := (unhide X1).kept K2
        have c2 := X2.cells
        replace X2 := hide X2
        clear K2 c1 X1
        go_wp2_with fail
        refine (rcheckA k o z b r _ _ (unhide h3)).mono ?_
        rintro e W3 ⟨rfl, K3⟩
        have X3 := (unhide X2).kept K3
        have c3 := X3.cells
        replace X3 := hide X3
        clear K3 c2 X2
        go_wp2
        go_ret
        exact ⟨rfl, (unhide X3).kp⟩
    have hz : ¬ (u = 0 ∧ v = 0) := fun H0 => hn ⟨unhide h1, e2, unhide h3, .inl H0⟩
    have e4 : atL L u v = none := by
      cases e : atL L u v with
      | none => rfl
      | some i => exact (hn ⟨unhide h1, e2, unhide h3, .inr (by rw [e]; exact fun q => by cases q)⟩).elim
    have h4 := hide (atI_none e4)
    clear hn e4 e2
    by_cases hu : u = 0
    · subst hu
      have hv : (v == 0) = false := beq_eq_false_iff_ne.2 (fun q => hz ⟨rfl, q⟩)
      clear hz
      go_enter Try.func11, Try.ntmps11
      go_wp2_with fail
      all_goals
        (try subst_vars)
        refine (rplace_to n s _ _ (unhide h1)).mono ?_
        rintro e W1 ⟨rfl, K1⟩
        have X1 := (unhide X0).kept K1
        have c1 := X1.cells
        replace X1 := hide X1
        clear K1
        go_wp2_with fail
        refine (at_to ((unhide H).grew (unhide X1).kp) n s _ (unhide h2)).mono ?_
        rintro e W2 ⟨rfl, K2⟩
        have X2 := (unhide X1).kept K2
        have c2 := X2.cells
        replace X2 := hide X2
        clear K2 c1 X1
        go_wp2_with fail
        refine (rcheckA k o z b r _ _ (unhide h3)).mono ?_
        rintro e W3 ⟨rfl, K3⟩
        have X3 := (unhide X2).kept K3
        have c3 := X3.cells
        replace X3 := hide X3
        clear K3 c2 X2
        go_wp2_with fail
        refine (at_to ((unhide H).grew (unhide X3).kp) _ _ _ (unhide h4)).mono ?_
        rintro e W4 ⟨rfl, K4⟩
        have X4 := hide ((unhide X3).kept K4)
        clear K4 c3 X3
        go_wp2
        go_ret
        exact ⟨rfl, (unhide X4).kp⟩
    · have hu' : (u == 0) = false := beq_eq_false_iff_ne.2 hu
      clear hz
      go_enter Try.func11, Try.ntmps11
      go_wp2_with fail
      all_goals
        (try subst_vars)
        refine (rplace_to n s _ _ (unhide h1)).mono ?_
        rintro e W1 ⟨rfl, K1⟩
        have X1 := (unhide X0).kept K1
        have c1 := X1.cells
        replace X1 := hide X1
        clear K1
        go_wp2_with fail
        refine (at_to ((unhide H).grew (unhide X1).kp) n s _ (unhide h2)).mono ?_
        rintro e W2 ⟨rfl, K2⟩
        have X2 := (unhide X1).kept K2
        have c2 := X2.cells
        replace X2 := hide X2
        clear K2 c1 X1
        go_wp2_with fail
        refine (rcheckA k o z b r _ _ (unhide h3)).mono ?_
        rintro e W3 ⟨rfl, K3⟩
        have X3 := (unhide X2).kept K3
        have c3 := X3.cells
        replace X3 := hide X3
        clear K3 c2 X2
        go_wp2_with fail
        refine (at_to ((unhide H).grew (unhide X3).kp) _ _ _ (unhide h4)).mono ?_
        rintro e W4 ⟨rfl, K4⟩
        have X4 := hide ((unhide X3).kept K4)
        clear K4 c3 X3
        go_wp2
        go_ret
        exact ⟨rfl, (unhide X4).kp⟩
  · obtain ⟨i, hi⟩ := atI_there e2
    have h2 := hide hi
    have b2 : decide (0 ≤ (i : Int)) = true := decide_eq_true (by omega)
    clear hn hi h3
    go_enter Try.func11, Try.ntmps11
    go_wp2_with fail
    all_goals
      (try subst_vars)
      refine (rplace_to n s _ _ (unhide h1)).mono ?_
      rintro e W1 ⟨rfl, K1⟩
      have X1 := (unhide X0).kept K1
      have c1 := X1.cells
      replace X1 := hide X1
      clear K1
      go_wp2_with fail
      refine (at_to ((unhide H).grew (unhide X1).kp) n s _ (unhide h2)).mono ?_
      rintro e W2 ⟨rfl, K2⟩
      have X2 := (unhide X1).kept K2
      have c2 := X2.cells
      replace X2 := hide X2
      clear K2 c1 X1
      go_wp2
      go_ret
      exact ⟨rfl, (unhide X2).kp⟩
/-- How many go ahead of a place. -/
def ahead (L : List Sl) (n s : Int) : Nat := (L.takeWhile fun y => before y.n y.s n s).length
theorem ahead_le (L : List Sl) (n s : Int) : ahead L n s ≤ L.length := by
  unfold ahead
  have := List.takeWhile_append_dropWhile (p := fun y : Sl => before y.n y.s n s) (l := L)
  rw [← congrArg List.length this, List.length_append]; omega
theorem take_ahead (L : List Sl) (n s : Int) : L.take (ahead L n s) = L.takeWhile (fun y => before y.n y.s n s) := by
  have h := List.takeWhile_append_dropWhile (p := fun y : Sl => before y.n y.s n s) (l := L)
  rw [← congrArg (List.take (ahead L n s)) h]; exact List.take_left
theorem drop_ahead (L : List Sl) (n s : Int) : L.drop (ahead L n s) = L.dropWhile (fun y => before y.n y.s n s) := by
  have h := List.takeWhile_append_dropWhile (p := fun y : Sl => before y.n y.s n s) (l := L)
  rw [← congrArg (List.drop (ahead L n s)) h]; exact List.drop_left
theorem ahead_cons (y : Sl) (L : List Sl) (n s : Int) : ahead (y :: L) n s = if before y.n y.s n s = true then ahead L n s + 1 else 0 := by
  unfold ahead
  rw [List.takeWhile_cons]
  split <;> simp
theorem ahead_is {L : List Sl} {n s : Int} {j : Nat} (hj : j ≤ L.length) (h : ∀ l, l < j → ∀ y, L[l]? = some y → before y.n y.s n s = true) (he : ∀ y, L[j]? = some y → before y.n y.s n s = false) : ahead L n s = j := by
  induction L generalizing j with
  | nil => simp at hj; subst hj; rfl
  | cons y L ih =>
    rw [ahead_cons]
    cases j with
    | zero => rw [he y rfl]; rfl
    | succ j =>
      rw [if_pos (h 0 (by omega) y rfl), ih (by simpa using hj) (fun l hl z hz => h (l + 1) (by omega) z (by simpa using hz)) (fun z hz => he z (by simpa using hz))]
theorem not_ahead {L : List Sl} {n s : Int} {j : Nat} {x : Sl} (h : ∀ l, l < j → ∀ y, L[l]? = some y → before y.n y.s n s = true) (hx : L[j]? = some x) (hb : before x.n x.s n s = true) : ∀ l, l < j + 1 → ∀ y, L[l]? = some y → before y.n y.s n s = true := by
  intro l hl y hy
  by_cases e : l = j
  · subst e; rw [hx] at hy; cases hy; exact hb
  · exact h l (by omega) y hy
/-- A new row set into the table. -/
theorem RT.put {base base' : Nat} {w : World} {t : Nat} {v y : Value} {M : List Sl} (hrow : SRow base' w v M) (hb : base ≤ base') (ht : Bk w t 30 [y]) (hbt : base ≤ t) (hlt : t < base') (hs : M.length ≤ 65536) :
    ∃ a cap, RT base (w.setCell ⟨t, 0, none⟩ v) t a cap M := by
  rcases hrow.2 with ⟨e, hz⟩ | ⟨g, c, cur, e, hg, hh, rest⟩
  · subst e
    have hM : M = [] := List.eq_nil_of_length_eq_zero hz
    subst hM
    exact ⟨none, 0, ht.set 0 _, ⟨rfl, .inl ⟨rfl, rfl⟩⟩, hbt, (fun g hg => by cases hg), by simp⟩
  · subst e
    refine ⟨_, c, ht.set 0 _, ⟨hrow.1, .inr ⟨g, c, cur, rfl, Nat.le_trans hb hg, ?_, rest⟩⟩, hbt, (fun g' hg' => by cases hg'; omega), hs⟩
    rw [Below.heap_setCell _ _ _ _ (fun e => by have e' : g = t := e; omega)]
    exact hh
theorem RT.src_end {base : Nat} {w : World} {t g : Nat} {cap : Nat} {L : List Sl} (h : RT base w t (some ⟨g, 0, none⟩) cap L) (k c : Nat) (hk : k ≤ L.length) : Src w (.slice (some ⟨g, k * 9, none⟩) (L.length - k) c) (L.drop k) := by
  have := h.src k (L.length - k) c (by omega)
  rwa [List.take_of_length_le (by rw [List.length_drop]; exact Nat.le_refl _)] at this
theorem src_nil {w : World} {ad : Addr} {m c : Nat} (h : m = 0) : Src w (.slice (some ad) m c) [] := by subst h; exact .inr ⟨ad, c, rfl, fun j u hu => by cases j <;> cases hu⟩
theorem ins_is {L : List Sl} {x : Sl} {kk : Nat} (hT : L.take kk = L.takeWhile (fun y => before y.n y.s x.n x.s)) (hD : L.drop kk = L.dropWhile (fun y => before y.n y.s x.n x.s)) : L.take kk ++ [x] ++ L.drop kk = insL L x := by
  unfold insL
  rw [hT, hD, List.append_assoc]
  rfl
theorem ins_len {L : List Sl} {x : Sl} : (insL L x).length = L.length + 1 := by
  unfold insL
  have := congrArg List.length (List.takeWhile_append_dropWhile (p := fun y : Sl => before y.n y.s x.n x.s) (l := L))
  rw [List.length_append] at this
  rw [List.length_append, List.length_cons]
  omega
def PutP (base : Nat) (w : World) (t : Nat) (L : List Sl) (e : Ending) (w' : World) : Prop := e = .returned (.bool true) ∧ ∃ a cap, RT base w' t a cap L ∧ Kp [t] w w'
theorem drew_alloc_size (w : World) (o : Obj) : (w.drew.alloc o).heap.size = w.heap.size + 1 := show (w.alloc o).heap.size = w.heap.size + 1 from by simp
theorem srow_empty {base : Nat} {w : World} {e : Nat} (h : Bk w e 78 []) (hb : base ≤ e) : SRow base w (.slice (some ⟨e, 0, none⟩) 0 0) [] :=
  ⟨rfl, .inr ⟨e, 0, #[], rfl, hb, h, Nat.le_refl _, Nat.zero_le _, rfl, rfl⟩⟩
theorem src_one {w : World} {e c : Nat} {x : Sl} (h : Bk w e 78 x.vals) : Src w (.slice (some ⟨e, 0, none⟩) 1 c) [x] := by
  refine .inr ⟨_, c, rfl, fun j u hu => ?_⟩
  rw [Addr.add_mid, Nat.zero_add]
  refine h.cell ?_
  have e1 : rows [x] = x.vals := by unfold rows; rw [List.flatMap_cons, List.flatMap_nil, List.append_nil]
  rw [e1] at hu
  exact hu
theorem bk_grown {w w' : World} {g : Nat} {T : TypeId} {vs : List Value} {row : Option Nat} (h : Bk w g T vs) (hg : w.grownBy w' row) (hn : some g ≠ row) : Bk w' g T vs := (hg.block g h.lt hn).trans h
set_option maxHeartbeats 4000000 in
set_option maxRecDepth 20000 in
theorem rput_yes {base : Nat} {w : World} {t : Nat} {a : Option Addr} {cap : Nat} {L : List Sl} (h : RT base w t a cap L) (n s k o z b r u v : Int) (hp : putP L n s k o z b r u v) (hL : L.length < 65536) :
    Calls Try.prog 11 #[.pointer (some ⟨t, 0, none⟩), .agg #[.int .i64 n, .int .i64 s], capV k o z b r, .agg #[.int .i64 u, .int .i64 v]] w (PutP base w t (insL L ⟨n, s, u, v, k, o, z, b, r⟩)) := by
  have H := hide h
  have X0 := hide (Bx.start w n s k o z b r u v)
  obtain ⟨p1, p2, p3, p4⟩ := hp
  have h1 := hide p1
  have h2 := hide (atI_none p2)
  have h3 := hide p3
  obtain ⟨nn, hnn⟩ : ∃ q, (u == 0 && v == 0) = q := ⟨_, rfl⟩
  have h4 : nn = false → ∃ i : Nat, atI L u v = (i : Int) := fun q => by
    rcases p4 with q4 | q4
    · rw [q4.1, q4.2] at hnn; rw [← hnn] at q; exact absurd q (by decide)
    · exact atI_there q4
  replace h4 := hide h4
  replace hnn := hide hnn
  clear h p1 p2 p3 p4
  go_enter Try.func11, Try.ntmps11
  go_upto_region 1 with fail
  go_cut [9] (fun c wx => c = .bool nn ∧ Bx w wx n s k o z b r u v)
  case first =>
    go_wp2_with fail
    all_goals
      (try subst_vars)
      go_meet
      case rel => exact ⟨by first | rfl | simp [*], unhide X0⟩
  case rest =>
    obtain ⟨rfl, X0'⟩ := hcut
    clear X0
    have c0 := X0'.cells
    have X0 := hide X0'
    clear X0'
    go_upto_region 2 with fail
    go_cut [38] (fun c wx => c = .bool false ∧ Bx w wx n s k o z b r u v)
    case first =>
      cases nn
      · obtain ⟨i4, hi4⟩ := unhide h4 rfl
        have h4' := hide hi4
        have b4 : decide ((i4 : Int) < 0) = false := decide_eq_false (by omega)
        clear h4 hi4
        go_wp2_with fail
        refine (rplace_to n s _ _ (unhide h1)).mono ?_
        rintro e W1 ⟨rfl, K1⟩
        have X1 := (unhide X0).kept K1
        have c1 := X1.cells
        replace X1 := hide X1
        clear K1
        go_wp2_with fail
        refine (at_to ((unhide H).grew (unhide X1).kp) n s _ (unhide h2)).mono ?_
        rintro e W2 ⟨rfl, K2⟩
        have X2 := (unhide X1).kept K2
        have c2 := X2.cells
        replace X2 := hide X2
        clear K2 c1 X1
        go_wp2_with fail
        refine (rcheckA k o z b r _ _ (unhide h3)).mono ?_
        rintro e W3 ⟨rfl, K3⟩
        have X3 := (unhide X2).kept K3
        have c3 := X3.cells
        replace X3 := hide X3
        clear K3 c2 X2
        go_wp2_with fail
        refine (at_to ((unhide H).grew (unhide X3).kp) u v _ (unhide h4')).mono ?_
        rintro e W4 ⟨rfl, K4⟩
        have X4 := hide ((unhide X3).kept K4)
        clear K4 c3 X3
        go_wp2
        go_meet
        case rel => exact ⟨rfl, unhide X4⟩
      · clear h4
        go_wp2_with fail
        refine (rplace_to n s _ _ (unhide h1)).mono ?_
        rintro e W1 ⟨rfl, K1⟩
        have X1 := (unhide X0).kept K1
        have c1 := X1.cells
        replace X1 := hide X1
        clear K1
        go_wp2_with fail
        refine (at_to ((unhide H).grew (unhide X1).kp) n s _ (unhide h2)).mono ?_
        rintro e W2 ⟨rfl, K2⟩
        have X2 := (unhide X1).kept K2
        have c2 := X2.cells
        replace X2 := hide X2
        clear K2 c1 X1
        go_wp2_with fail
        refine (rcheckA k o z b r _ _ (unhide h3)).mono ?_
        rintro e W3 ⟨rfl, K3⟩
        have X3 := (unhide X2).kept K3
        have c3 := X3.cells
        replace X3 := hide X3
        clear K3 c2 X2
        go_wp2
        go_meet
        case rel => exact ⟨rfl, unhide X3⟩
    case rest =>
      obtain ⟨rfl, X⟩ := hcut
      clear X0 c0 h1 h2 h3 h4 hnn
      replace X := hide X
      go_upto_block 0 with fail
      go_cut [10] (fun c wx => c = .int .i64 (ahead L n s) ∧ Bx w wx n s k o z b r u v)
      case first =>
        go_wp2_with fail
        go_loopg [10] L.length (fun m i wx => ∃ j : Nat, j ≤ L.length ∧ m = L.length - j ∧ i = .int .i64 j ∧ (∀ l, l < j → ∀ y, L[l]? = some y → before y.n y.s n s = true) ∧ Bx w wx n s k o z b r u v)
        case atStart => exact ⟨0, Nat.zero_le _, rfl, rfl, fun l hl => by omega, unhide X⟩
        case round =>
          obtain ⟨j, hj, rfl, rfl, hall, hX⟩ := hrel
          clear X
          have hR := (unhide H).grew hX.kp
          have c0 := hR.head.cell (i := 0) rfl
          by_cases hlt : j < L.length
          · obtain ⟨g, rfl⟩ := hR.addr (by omega)
            obtain ⟨y, hy⟩ : ∃ y, L[j]? = some y := ⟨_, List.getElem?_eq_getElem hlt⟩
            obtain ⟨yn, hyn⟩ : ∃ q, y.n = q := ⟨_, rfl⟩
            obtain ⟨ys, hys⟩ : ∃ q, y.s = q := ⟨_, rfl⟩
            have hS : ∀ w', Kp [] wr w' → w'.cell? ⟨t, 0, none⟩ = some (.slice (some ⟨g, 0, none⟩) L.length cap) ∧ w'.cell? ⟨g, j * 9, none⟩ = some (.int .i64 yn) ∧ w'.cell? ⟨g, j * 9 + 1, none⟩ = some (.int .i64 ys) ∧ w'.cell? ⟨w.heap.size, 0, none⟩ = some (.int .i64 n) ∧ w'.cell? ⟨w.heap.size, 1, none⟩ = some (.int .i64 s) := fun w' kk => by
              have R' := hR.grew kk
              have X' := (hX.kept kk).cells
              rw [← hyn, ← hys]
              exact ⟨R'.head.cell rfl, R'.cell hy 0 (by omega), R'.cell hy 1 (by omega), X'.1, X'.2.1⟩
            obtain ⟨bb, hbb⟩ : ∃ q, before yn ys n s = q := ⟨_, rfl⟩
            have hyes : bb = true → Hid (∀ l, l < j + 1 → ∀ y, L[l]? = some y → before y.n y.s n s = true) := fun q => not_ahead hall hy (by rw [hyn, hys, hbb]; exact q)
            have hno : bb = false → Hid (ahead L n s = j) := fun q => ahead_is hj hall (fun x hx => by rw [hy] at hx; cases hx; rw [hyn, hys, hbb]; exact q)
            have b1 : (j : Int) < (L.length : Int) := by omega
            have b2 : ((j : Int)).toNat = j := Int.toNat_natCast j
            have K1 := hide ((Kp.refl [] wr).drew)
            replace hS := hide hS
            replace hX := hide hX
            replace hbb := hide hbb
            clear hR hall hy hyn hys
            cases bb
            · have hend := hno rfl
              clear hyes hno
              go_wp2_with fail
              go_region_held3 (fun w' => w'.cell? ⟨t, 0, none⟩ = some (.slice (some ⟨g, 0, none⟩) L.length cap) ∧ w'.cell? ⟨g, j * 9, none⟩ = some (.int .i64 yn) ∧ w'.cell? ⟨g, j * 9 + 1, none⟩ = some (.int .i64 ys) ∧ w'.cell? ⟨w.heap.size, 0, none⟩ = some (.int .i64 n) ∧ w'.cell? ⟨w.heap.size, 1, none⟩ = some (.int .i64 s)) (first | exact unhide hS _ (unhide K2) | exact unhide hS _ (unhide K1)) (first
                | (go_at_call 36; (with_reducible refine (rbefore_to yn ys n s _ _ (unhide hbb)).mono ?_); rintro e V1 ⟨rfl, kk⟩; have K2 := hide ((unhide K1).then kk); clear kk))
              all_goals
                go_wp2
                go_meet
                case rel => exact ⟨by rw [unhide hend], (unhide hX).kept (unhide K2)⟩
            · have hgo := hyes rfl
              clear hyes hno
              go_wp2_with fail
              go_region_held3 (fun w' => w'.cell? ⟨t, 0, none⟩ = some (.slice (some ⟨g, 0, none⟩) L.length cap) ∧ w'.cell? ⟨g, j * 9, none⟩ = some (.int .i64 yn) ∧ w'.cell? ⟨g, j * 9 + 1, none⟩ = some (.int .i64 ys) ∧ w'.cell? ⟨w.heap.size, 0, none⟩ = some (.int .i64 n) ∧ w'.cell? ⟨w.heap.size, 1, none⟩ = some (.int .i64 s)) (first | exact unhide hS _ (unhide K2) | exact unhide hS _ (unhide K1)) (first
                | (go_at_call 36; (with_reducible refine (rbefore_to yn ys n s _ _ (unhide hbb)).mono ?_); rintro e V1 ⟨rfl, kk⟩; have K2 := hide ((unhide K1).then kk); clear kk))
              all_goals
                go_wp2
                go_roundg (L.length - (j + 1))
                case measure => omega
                case rel => exact ⟨j + 1, by omega, rfl, by go_num, unhide hgo, (unhide hX).kept (unhide K2)⟩
          · have b1 : decide ((j : Int) < (L.length : Int)) = false := decide_eq_false (by omega)
            have hend := hide (ahead_is hj hall (fun x hx => by rw [List.getElem?_eq_none (by omega)] at hx; cases hx))
            replace hX := hide hX
            clear hR hall
            go_wp2_with fail
            go_big_region
            go_wp2
            go_meet
            case rel => exact ⟨by rw [unhide hend], (unhide hX).kept ((Kp.refl [] _).drew)⟩
      case rest =>
        obtain ⟨rfl, X'⟩ := hcut
        clear X
        have hkk := ahead_le L n s
        obtain ⟨kk, hk0⟩ : ∃ kk, ahead L n s = kk := ⟨_, rfl⟩
        rw [hk0] at hkk
        have hT := hide (show L.take kk = L.takeWhile (fun y => before y.n y.s n s) from by rw [← hk0]; exact take_ahead L n s)
        have hD := hide (show L.drop kk = L.dropWhile (fun y => before y.n y.s n s) from by rw [← hk0]; exact drop_ahead L n s)
        have hR := (unhide H).grew X'.kp
        have hS0 : ∀ w', Kp [] wc w' → RT base w' t a cap L ∧ Bx w w' n s k o z b r u v := fun w' kk => ⟨hR.grew kk, X'.kept kk⟩
        replace hS0 := hide hS0
        have hwt : t < w.heap.size := (unhide H).head.lt
        have hbt := (unhide H).new
        have hwc := X'.kp.size
        have hK0 := X'.kp
        cases ha : a with
        | none =>
          obtain ⟨hL0, hc0⟩ : L = [] ∧ cap = 0 := by
            rcases hR.own.2 with ⟨e, hz⟩ | ⟨g, c, cur, e, _⟩
            · rw [ha] at e; exact ⟨List.eq_nil_of_length_eq_zero hz, by injection e⟩
            · rw [ha] at e; cases e
          subst ha hL0 hc0
          obtain rfl : kk = 0 := by simpa using hkk
          have hka : ((ahead [] n s : Nat) : Int) = 0 := rfl
          rw [hka]
          have hS : ∀ w', Kp [] wc w' → w'.cell? ⟨t, 0, none⟩ = some (.slice none 0 0) ∧ w'.cell? ⟨w.heap.size, 0, none⟩ = some (.int .i64 n) ∧ w'.cell? ⟨w.heap.size, 1, none⟩ = some (.int .i64 s) ∧ w'.cell? ⟨w.heap.size + 1, 0, none⟩ = some (.int .i64 k) ∧ w'.cell? ⟨w.heap.size + 1, 1, none⟩ = some (.int .i64 o) ∧ w'.cell? ⟨w.heap.size + 1, 2, none⟩ = some (.int .i64 z) ∧ w'.cell? ⟨w.heap.size + 1, 3, none⟩ = some (.int .i64 b) ∧ w'.cell? ⟨w.heap.size + 1, 4, none⟩ = some (.int .i64 r) ∧ w'.cell? ⟨w.heap.size + 2, 0, none⟩ = some (.int .i64 u) ∧ w'.cell? ⟨w.heap.size + 2, 1, none⟩ = some (.int .i64 v) := fun w' kk => by
            obtain ⟨R', Y⟩ := unhide hS0 w' kk
            have Y' := Y.cells
            exact ⟨R'.head.cell rfl, Y'⟩
          replace hS := hide hS
          have K1 := hide ((Kp.refl [] wc).drew)
          clear hR X'
          go_upto_region 7 with fail
          go_cut [11] (fun c wx => Kp [] wc wx ∧ SRow wc.heap.size wx c [⟨n, s, u, v, k, o, z, b, r⟩])
          case first =>
            go_region_held3 (fun w' => w'.cell? ⟨t, 0, none⟩ = some (.slice none 0 0) ∧ w'.cell? ⟨w.heap.size, 0, none⟩ = some (.int .i64 n) ∧ w'.cell? ⟨w.heap.size, 1, none⟩ = some (.int .i64 s) ∧ w'.cell? ⟨w.heap.size + 1, 0, none⟩ = some (.int .i64 k) ∧ w'.cell? ⟨w.heap.size + 1, 1, none⟩ = some (.int .i64 o) ∧ w'.cell? ⟨w.heap.size + 1, 2, none⟩ = some (.int .i64 z) ∧ w'.cell? ⟨w.heap.size + 1, 3, none⟩ = some (.int .i64 b) ∧ w'.cell? ⟨w.heap.size + 1, 4, none⟩ = some (.int .i64 r) ∧ w'.cell? ⟨w.heap.size + 2, 0, none⟩ = some (.int .i64 u) ∧ w'.cell? ⟨w.heap.size + 2, 1, none⟩ = some (.int .i64 v)) (first | exact unhide hS _ (unhide K3) | exact unhide hS _ ((unhide K2).alloc _) | exact unhide hS _ (unhide K2) | exact unhide hS _ (unhide K1) | exact unhide hS _ ((unhide K1).alloc _) | exact unhide hS _ (((unhide K1).alloc _).alloc _)) (first
              | (refine step_app (by rfl) _ _ (by rfl) wc.heap.size v1 (.slice (some ⟨wc.heap.size, 0, none⟩) 1 1) [] [⟨n, s, u, v, k, o, z, b, r⟩] (by rfl) (by rfl) (unhide rowC) (src_one (unhide xC)) (by simp) (unhide K2).size ?_; intro v2 w2 hrow hgrow hat; have row2 := hide hrow; have K3 := hide (kp_grown (unhide K2) hgrow (fun q hq => (World.ownsRow.lt (unhide rowC) q hq).1)); clear hrow hgrow hat)
              | (refine step_app (by rfl) _ _ (by rfl) wc.heap.size v1 (.slice (some ⟨wc.heap.size + 1, 0, none⟩) 1 1) [] [⟨n, s, u, v, k, o, z, b, r⟩] (by rfl) (by rfl) (unhide rowB) (src_one (unhide xB)) (by simp) (unhide K2).size ?_; intro v2 w2 hrow hgrow hat; have row2 := hide hrow; have K3 := hide (kp_grown (unhide K2) hgrow (fun q hq => (World.ownsRow.lt (unhide rowB) q hq).1)); clear hrow hgrow hat)
              | (refine step_app (by rfl) _ _ (by rfl) wc.heap.size v1 (.slice (some ⟨w1.heap.size, 0, none⟩) 1 1) [] [⟨n, s, u, v, k, o, z, b, r⟩] (by rfl) (by rfl) ((unhide rowA).alloc _) (src_one (Bk.new w1 78 (Sl.vals ⟨n, s, u, v, k, o, z, b, r⟩))) (by simp) ((unhide K2).alloc _).size ?_; intro v2 w2 hrow hgrow hat; have row2 := hide hrow; have K3 := hide (kp_grown ((unhide K2).alloc _) hgrow (fun q hq => (World.ownsRow.lt (unhide rowA) q hq).1)); clear hrow hgrow hat)
              | (refine step_app (by rfl) _ _ (by rfl) wc.heap.size (.slice (some ⟨wc.heap.size, 0, none⟩) 0 0) (.slice none 0 0) [] [] (by rfl) (by rfl) (srow_empty (Bk.newA wc.drew 78 #[]) (Nat.le_refl _)) (.inl ⟨rfl, rfl⟩) (by simp) ((unhide K1).alloc _).size ?_; intro v1 w1 hrow hgrow hat; have rowA := hide hrow; have K2 := hide (kp_grown ((unhide K1).alloc _) hgrow (fun q hq => by cases hq; first | exact Nat.le_refl _ | exact Nat.le_succ _)); clear hrow hgrow hat)
              | (refine step_app (by rfl) _ _ (by rfl) wc.heap.size (.slice (some ⟨wc.heap.size, 0, none⟩) 0 0) (.slice none 0 0) [] [] (by rfl) (by rfl) (srow_empty ((Bk.newA wc.drew 78 #[]).alloc _) (Nat.le_refl _)) (.inl ⟨rfl, rfl⟩) (by simp) (((unhide K1).alloc _).alloc _).size ?_; intro v1 w1 hrow hgrow hat; have rowB := hide hrow; have K2 := hide (kp_grown (((unhide K1).alloc _).alloc _) hgrow (fun q hq => by cases hq; first | exact Nat.le_refl _ | exact Nat.le_succ _)); have xB := hide (bk_grown (Bk.next (wc.drew.alloc (.cells #[] 78)) 78 (Sl.vals ⟨n, s, u, v, k, o, z, b, r⟩) (p := wc.heap.size + 1) (drew_alloc_size wc _)) hgrow (fun e => absurd (Option.some.inj e) (Nat.ne_of_gt (Nat.lt_succ_self _)))); clear hrow hgrow hat)
              | (refine step_app (by rfl) _ _ (by rfl) wc.heap.size (.slice (some ⟨wc.heap.size + 1, 0, none⟩) 0 0) (.slice none 0 0) [] [] (by rfl) (by rfl) (srow_empty (Bk.next (wc.drew.alloc (.cells #[.int .i64 n, .int .i64 s, .int .i64 u, .int .i64 v, .int .i64 k, .int .i64 o, .int .i64 z, .int .i64 b, .int .i64 r] 78)) 78 [] (drew_alloc_size wc _)) (Nat.le_succ _)) (.inl ⟨rfl, rfl⟩) (by simp) (((unhide K1).alloc _).alloc _).size ?_; intro v1 w1 hrow hgrow hat; have rowC := hide hrow; have K2 := hide (kp_grown (((unhide K1).alloc _).alloc _) hgrow (fun q hq => by cases hq; first | exact Nat.le_refl _ | exact Nat.le_succ _)); have xC := hide (bk_grown ((Bk.new wc.drew 78 (Sl.vals ⟨n, s, u, v, k, o, z, b, r⟩)).alloc _) hgrow (fun e => absurd (Option.some.inj e) (Nat.ne_of_lt (Nat.lt_succ_self _)))); clear hrow hgrow hat))
            all_goals
              go_wp2
              go_meet
              case rel => exact ⟨unhide K3, unhide row2⟩
          case rest =>
            obtain ⟨K4, hrow⟩ := hcut
            have c4 := (unhide hS0 _ K4).1.head.cell (i := 0) rfl
            have f4 := (unhide hS0 _ K4).1.head.frozen
            have hsz := K4.size
            replace hrow := hide hrow
            replace K4 := hide K4
            go_wp2_with (first
              | (at_builtin; refine list_app rfl _ _ rfl _ _ (.slice none 0 0) [⟨n, s, u, v, k, o, z, b, r⟩] [] rfl rfl (unhide hrow) (.inl ⟨rfl, rfl⟩) ?c3 ?c4 ?_)
              | go_in)
            case c3 => simp
            case c4 => exact (unhide K4).size
            intro v2 w2 hrow2 hgrow hat
            have ht2 := bk_grown (unhide hS0 _ (unhide K4)).1.head hgrow (fun e => by have := (World.ownsRow.lt (unhide hrow) t e.symm).1; omega)
            have K5 := kp_grown (unhide K4) hgrow (fun q hq => (World.ownsRow.lt (unhide hrow) q hq).1)
            have c5 := ht2.cell (i := 0) rfl
            have f5 := ht2.frozen
            have hrow3 := hrow2
            obtain ⟨g2, cp2, hv2, _, _⟩ := World.ownsRow.form hrow3 (by simp)
            subst hv2
            obtain ⟨a2, cap2, hR2⟩ := RT.put hrow3 (by omega) ht2 hbt (by omega) (by simp)
            have hK2 := (hK0.then K5)
            replace hR2 := hide hR2
            replace hK2 := hide hK2
            clear hrow hrow3 hrow2 hgrow hat ht2 K5 K4
            go_wp2
            go_ret
            exact ⟨rfl, a2, cap2, unhide hR2, ((unhide hK2).mono (by simp)).setCell (.inl (by simp)) _⟩
        | some ad =>
          obtain ⟨g, hg⟩ : ∃ g, ad = ⟨g, 0, none⟩ := by
            rcases hR.own.2 with ⟨e, _⟩ | ⟨g, c, cur, e, _⟩
            · rw [ha] at e; cases e
            · rw [ha] at e; cases e; exact ⟨g, rfl⟩
          subst hg ha
          have hcap := hR.cap
          have hS : ∀ w', Kp [] wc w' → w'.cell? ⟨t, 0, none⟩ = some (.slice (some ⟨g, 0, none⟩) L.length cap) ∧ w'.cell? ⟨w.heap.size, 0, none⟩ = some (.int .i64 n) ∧ w'.cell? ⟨w.heap.size, 1, none⟩ = some (.int .i64 s) ∧ w'.cell? ⟨w.heap.size + 1, 0, none⟩ = some (.int .i64 k) ∧ w'.cell? ⟨w.heap.size + 1, 1, none⟩ = some (.int .i64 o) ∧ w'.cell? ⟨w.heap.size + 1, 2, none⟩ = some (.int .i64 z) ∧ w'.cell? ⟨w.heap.size + 1, 3, none⟩ = some (.int .i64 b) ∧ w'.cell? ⟨w.heap.size + 1, 4, none⟩ = some (.int .i64 r) ∧ w'.cell? ⟨w.heap.size + 2, 0, none⟩ = some (.int .i64 u) ∧ w'.cell? ⟨w.heap.size + 2, 1, none⟩ = some (.int .i64 v) := fun w' kk => by
            obtain ⟨R', Y⟩ := unhide hS0 w' kk
            have Y' := Y.cells
            exact ⟨R'.head.cell rfl, Y'⟩
          replace hS := hide hS
          have K1 := hide ((Kp.refl [] wc).drew)
          have b1 : (kk : Int) ≤ (cap : Int) := by omega
          have b2 : ((kk : Int)).toNat = kk := Int.toNat_natCast kk
          clear hR X'
          rw [hk0]
          go_upto_region 7 with fail
          go_cut [11] (fun c wx => Kp [] wc wx ∧ SRow wc.heap.size wx c (L.take kk ++ [⟨n, s, u, v, k, o, z, b, r⟩]))
          case first =>
            go_region_held3 (fun w' => w'.cell? ⟨t, 0, none⟩ = some (.slice (some ⟨g, 0, none⟩) L.length cap) ∧ w'.cell? ⟨w.heap.size, 0, none⟩ = some (.int .i64 n) ∧ w'.cell? ⟨w.heap.size, 1, none⟩ = some (.int .i64 s) ∧ w'.cell? ⟨w.heap.size + 1, 0, none⟩ = some (.int .i64 k) ∧ w'.cell? ⟨w.heap.size + 1, 1, none⟩ = some (.int .i64 o) ∧ w'.cell? ⟨w.heap.size + 1, 2, none⟩ = some (.int .i64 z) ∧ w'.cell? ⟨w.heap.size + 1, 3, none⟩ = some (.int .i64 b) ∧ w'.cell? ⟨w.heap.size + 1, 4, none⟩ = some (.int .i64 r) ∧ w'.cell? ⟨w.heap.size + 2, 0, none⟩ = some (.int .i64 u) ∧ w'.cell? ⟨w.heap.size + 2, 1, none⟩ = some (.int .i64 v)) (first | exact unhide hS _ (unhide K3) | exact unhide hS _ ((unhide K2).alloc _) | exact unhide hS _ (unhide K2) | exact unhide hS _ (unhide K1) | exact unhide hS _ ((unhide K1).alloc _) | exact unhide hS _ (((unhide K1).alloc _).alloc _)) (first
              | (refine step_app (by rfl) _ _ (by rfl) wc.heap.size v1 (.slice (some ⟨wc.heap.size, 0, none⟩) 1 1) (L.take kk) [⟨n, s, u, v, k, o, z, b, r⟩] (by rfl) (by rfl) (unhide rowC) (src_one (unhide xC)) (by simp; omega) (unhide K2).size ?_; intro v2 w2 hrow hgrow hat; have row2 := hide hrow; have K3 := hide (kp_grown (unhide K2) hgrow (fun q hq => (World.ownsRow.lt (unhide rowC) q hq).1)); clear hrow hgrow hat)
              | (refine step_app (by rfl) _ _ (by rfl) wc.heap.size v1 (.slice (some ⟨wc.heap.size + 1, 0, none⟩) 1 1) (L.take kk) [⟨n, s, u, v, k, o, z, b, r⟩] (by rfl) (by rfl) (unhide rowB) (src_one (unhide xB)) (by simp; omega) (unhide K2).size ?_; intro v2 w2 hrow hgrow hat; have row2 := hide hrow; have K3 := hide (kp_grown (unhide K2) hgrow (fun q hq => (World.ownsRow.lt (unhide rowB) q hq).1)); clear hrow hgrow hat)
              | (refine step_app (by rfl) _ _ (by rfl) wc.heap.size v1 (.slice (some ⟨w1.heap.size, 0, none⟩) 1 1) (L.take kk) [⟨n, s, u, v, k, o, z, b, r⟩] (by rfl) (by rfl) ((unhide rowA).alloc _) (src_one (Bk.new w1 78 (Sl.vals ⟨n, s, u, v, k, o, z, b, r⟩))) (by simp; omega) ((unhide K2).alloc _).size ?_; intro v2 w2 hrow hgrow hat; have row2 := hide hrow; have K3 := hide (kp_grown ((unhide K2).alloc _) hgrow (fun q hq => (World.ownsRow.lt (unhide rowA) q hq).1)); clear hrow hgrow hat)
              | (refine step_app (by rfl) _ _ (by rfl) wc.heap.size (.slice (some ⟨wc.heap.size, 0, none⟩) 0 0) (.slice (some ⟨g, 0, none⟩) kk cap) [] (L.take kk) (by rfl) (by rfl) (srow_empty (Bk.newA wc.drew 78 #[]) (Nat.le_refl _)) ((unhide hS0 _ ((unhide K1).alloc _)).1.src 0 kk cap (by omega)) (by simp; omega) ((unhide K1).alloc _).size ?_; intro v1 w1 hrow hgrow hat; have rowA := hide hrow; have K2 := hide (kp_grown ((unhide K1).alloc _) hgrow (fun q hq => by cases hq; first | exact Nat.le_refl _ | exact Nat.le_succ _)); clear hrow hgrow hat)
              | (refine step_app (by rfl) _ _ (by rfl) wc.heap.size (.slice (some ⟨wc.heap.size, 0, none⟩) 0 0) (.slice (some ⟨g, 0, none⟩) kk cap) [] (L.take kk) (by rfl) (by rfl) (srow_empty ((Bk.newA wc.drew 78 #[]).alloc _) (Nat.le_refl _)) ((unhide hS0 _ (((unhide K1).alloc _).alloc _)).1.src 0 kk cap (by omega)) (by simp; omega) (((unhide K1).alloc _).alloc _).size ?_; intro v1 w1 hrow hgrow hat; have rowB := hide hrow; have K2 := hide (kp_grown (((unhide K1).alloc _).alloc _) hgrow (fun q hq => by cases hq; first | exact Nat.le_refl _ | exact Nat.le_succ _)); have xB := hide (bk_grown (Bk.next (wc.drew.alloc (.cells #[] 78)) 78 (Sl.vals ⟨n, s, u, v, k, o, z, b, r⟩) (p := wc.heap.size + 1) (drew_alloc_size wc _)) hgrow (fun e => absurd (Option.some.inj e) (Nat.ne_of_gt (Nat.lt_succ_self _)))); clear hrow hgrow hat)
              | (refine step_app (by rfl) _ _ (by rfl) wc.heap.size (.slice (some ⟨wc.heap.size + 1, 0, none⟩) 0 0) (.slice (some ⟨g, 0, none⟩) kk cap) [] (L.take kk) (by rfl) (by rfl) (srow_empty (Bk.next (wc.drew.alloc (.cells #[.int .i64 n, .int .i64 s, .int .i64 u, .int .i64 v, .int .i64 k, .int .i64 o, .int .i64 z, .int .i64 b, .int .i64 r] 78)) 78 [] (drew_alloc_size wc _)) (Nat.le_succ _)) ((unhide hS0 _ (((unhide K1).alloc _).alloc _)).1.src 0 kk cap (by omega)) (by simp; omega) (((unhide K1).alloc _).alloc _).size ?_; intro v1 w1 hrow hgrow hat; have rowC := hide hrow; have K2 := hide (kp_grown (((unhide K1).alloc _).alloc _) hgrow (fun q hq => by cases hq; first | exact Nat.le_refl _ | exact Nat.le_succ _)); have xC := hide (bk_grown ((Bk.new wc.drew 78 (Sl.vals ⟨n, s, u, v, k, o, z, b, r⟩)).alloc _) hgrow (fun e => absurd (Option.some.inj e) (Nat.ne_of_lt (Nat.lt_succ_self _)))); clear hrow hgrow hat))
            all_goals
              go_wp2
              go_meet
              case rel => exact ⟨unhide K3, unhide row2⟩
          case rest =>
            obtain ⟨K4, hrow⟩ := hcut
            have c4 := (unhide hS0 _ K4).1.head.cell (i := 0) rfl
            have f4 := (unhide hS0 _ K4).1.head.frozen
            have hsz := K4.size
            replace hrow := hide hrow
            replace K4 := hide K4
            have b3 : (kk : Int) ≤ (L.length : Int) := by omega
            have b4 : (L.length : Int) ≤ (cap : Int) := by omega
            by_cases hck : cap = kk
            · have hdr : L.drop kk = [] := List.drop_eq_nil_of_le (by omega)
              have hle : L.length - kk = 0 := by omega
              go_wp2_with (first
                | (at_builtin; refine list_app rfl _ _ rfl _ _ _ (L.take kk ++ [⟨n, s, u, v, k, o, z, b, r⟩]) (L.drop kk) rfl rfl (unhide hrow) (by rw [hdr]; exact src_nil (by omega)) ?c3 ?c4 ?_)
                | go_in)
              case c3 => simp; omega
              case c4 => exact (unhide K4).size
              intro v2 w2 hrow2 hgrow hat
              have ht2 := bk_grown (unhide hS0 _ (unhide K4)).1.head hgrow (fun e => by have := (World.ownsRow.lt (unhide hrow) t e.symm).1; omega)
              have K5 := kp_grown (unhide K4) hgrow (fun q hq => (World.ownsRow.lt (unhide hrow) q hq).1)
              have c5 := ht2.cell (i := 0) rfl
              have f5 := ht2.frozen
              have hrow3 := hrow2
              rw [show (L.take kk ++ [(⟨n, s, u, v, k, o, z, b, r⟩ : Sl)]) = L.take kk ++ [⟨n, s, u, v, k, o, z, b, r⟩] ++ L.drop kk from by rw [hdr, List.append_nil], ins_is (x := ⟨n, s, u, v, k, o, z, b, r⟩) (unhide hT) (unhide hD)] at hrow3
              obtain ⟨g2, cp2, hv2, _, _⟩ := World.ownsRow.form hrow3 (by rw [ins_len]; omega)
              subst hv2
              obtain ⟨a2, cap2, hR2⟩ := RT.put hrow3 (by omega) ht2 hbt (by omega) (by rw [ins_len]; omega)
              have hK2 := (hK0.then K5)
              replace hR2 := hide hR2
              replace hK2 := hide hK2
              clear hrow hrow3 hrow2 hgrow hat ht2 K5 K4 hdr hle hck b1 b3 b4 c4 f4
              go_wp2
              go_ret
              exact ⟨rfl, a2, cap2, unhide hR2, ((unhide hK2).mono (by simp)).setCell (.inl (by simp)) _⟩
            · go_wp2_with (first
                | (at_builtin; refine list_app rfl _ _ rfl _ _ _ (L.take kk ++ [⟨n, s, u, v, k, o, z, b, r⟩]) (L.drop kk) rfl rfl (unhide hrow) ((unhide hS0 _ (unhide K4)).1.src_end kk _ hkk) ?c3 ?c4 ?_)
                | go_in)
              case c3 => simp; omega
              case c4 => exact (unhide K4).size
              intro v2 w2 hrow2 hgrow hat
              have ht2 := bk_grown (unhide hS0 _ (unhide K4)).1.head hgrow (fun e => by have := (World.ownsRow.lt (unhide hrow) t e.symm).1; omega)
              have K5 := kp_grown (unhide K4) hgrow (fun q hq => (World.ownsRow.lt (unhide hrow) q hq).1)
              have c5 := ht2.cell (i := 0) rfl
              have f5 := ht2.frozen
              have hrow3 := hrow2
              rw [show (L.take kk ++ (⟨n, s, u, v, k, o, z, b, r⟩ : Sl) :: L.drop kk) = L.take kk ++ [⟨n, s, u, v, k, o, z, b, r⟩] ++ L.drop kk from by simp, ins_is (x := ⟨n, s, u, v, k, o, z, b, r⟩) (unhide hT) (unhide hD)] at hrow3
              obtain ⟨g2, cp2, hv2, _, _⟩ := World.ownsRow.form hrow3 (by rw [ins_len]; omega)
              subst hv2
              obtain ⟨a2, cap2, hR2⟩ := RT.put hrow3 (by omega) ht2 hbt (by omega) (by rw [ins_len]; omega)
              have hK2 := (hK0.then K5)
              replace hR2 := hide hR2
              replace hK2 := hide hK2
              clear hrow hrow3 hrow2 hgrow hat ht2 K5 K4
              go_wp2
              go_ret
              exact ⟨rfl, a2, cap2, unhide hR2, ((unhide hK2).mono (by simp)).setCell (.inl (by simp)) _⟩
end Go.Proofs.Ythjhpcbhkcmghaa
