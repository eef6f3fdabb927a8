/- The document's table: Put. -/
import Derived.Test.YtjjgjgncnifjmaaKApp
namespace Go.Proofs.Ytjjgjgncnifjmaa
open Go.RowKit
set_option linter.unusedVariables false
theorem rplace_to (n s : Int) (v : Bool) (w : World) (h : placeOk n s = v) :
    Calls Try.prog 34 #[.agg #[.int .i64 n, .int .i64 s]] w fun e w' => e = .returned (.bool v) ∧ Kp [] w w' := by subst h; exact rplace_calls n s w
theorem rcheckA (k o s b r : Int) (v : Bool) (w : World) (h : chk k o s b r = v) :
    Calls Try.prog 36 #[.agg #[.int .i64 k, .int .i64 o, .int .i64 s, .int .i64 b, .int .i64 r]] w fun e w' => e = .returned (.bool v) ∧ Kp [] w w' := by subst h; exact rcheck_calls k o s b r w
theorem rbefore_to (n s n' s' : Int) (v : Bool) (w : World) (h : before n s n' s' = v) :
    Calls Try.prog 37 #[.agg #[.int .i64 n, .int .i64 s], .agg #[.int .i64 n', .int .i64 s']] w fun e w' => e = .returned (.bool v) ∧ Kp [] w w' := by subst h; exact rbefore_calls n s n' s' w
theorem at_to {base : Nat} {w : World} {t : Nat} {a : Option Addr} {cap : Nat} {L : List Sl} (h : RT base w t a cap L) (n s i : Int) (hi : atI L n s = i) :
    Calls Try.prog 35 #[.pointer (some ⟨t, 0, none⟩), .agg #[.int .i64 n, .int .i64 s]] w fun e w' => e = .returned (.int .i64 i) ∧ Kp [] w w' := by subst hi; exact at_calls h n s
/-- May it be put? -/
def putP (L : List Sl) (n s k o z b r u v : Int) : Prop := placeOk n s = true ∧ atL L n s = none ∧ chk k o z b r = true ∧ ((u = 0 ∧ v = 0) ∨ atL L u v ≠ none)
/-- Put at its place. -/
def insL (L : List Sl) (x : Sl) : List Sl := L.takeWhile (fun y => before y.n y.s x.n x.s) ++ x :: L.dropWhile (fun y => before y.n y.s x.n x.s)
/-- The three that are handed in, in blocks of their own. -/
structure Bx (w wx : World) (n s k o z b r u v : Int) : Prop where
  kp : Kp [] w wx
  p : Bk wx w.heap.size 40 [.int .i64 n, .int .i64 s]
  c : Bk wx (w.heap.size + 1) 24 [.int .i64 k, .int .i64 o, .int .i64 z, .int .i64 b, .int .i64 r]
  u : Bk wx (w.heap.size + 2) 40 [.int .i64 u, .int .i64 v]
theorem Bx.kept {w wx wy : World} {n s k o z b r u v : Int} (h : Bx w wx n s k o z b r u v) (kp : Kp [] wx wy) : Bx w wy n s k o z b r u v := ⟨h.kp.then kp, h.p.kept kp (by simp), h.c.kept kp (by simp), h.u.kept kp (by simp)⟩
theorem Bx.start (w : World) (n s k o z b r u v : Int) : Bx w (((w.alloc (.cells #[.int .i64 n, .int .i64 s] 40)).alloc (.cells #[.int .i64 k, .int .i64 o, .int .i64 z, .int .i64 b, .int .i64 r] 24)).alloc (.cells #[.int .i64 u, .int .i64 v] 40)) n s k o z b r u v :=
  ⟨(((Kp.refl [] w).alloc _).alloc _).alloc _, ((Bk.new w _ [.int .i64 n, .int .i64 s]).alloc _).alloc _, (Bk.next _ _ [.int .i64 k, .int .i64 o, .int .i64 z, .int .i64 b, .int .i64 r] (by simp)).alloc _, Bk.next _ _ [.int .i64 u, .int .i64 v] (by simp)⟩
theorem Bx.cells {w wx : World} {n s k o z b r u v : Int} (h : Bx w wx n s k o z b r u v) :
    wx.cell? ⟨w.heap.size, 0, none⟩ = some (.int .i64 n) ∧ wx.cell? ⟨w.heap.size, 1, none⟩ = some (.int .i64 s) ∧ wx.cell? ⟨w.heap.size + 1, 0, none⟩ = some (.int .i64 k) ∧ wx.cell? ⟨w.heap.size + 1, 1, none⟩ = some (.int .i64 o) ∧ wx.cell? ⟨w.heap.size + 1, 2, none⟩ = some (.int .i64 z) ∧ wx.cell? ⟨w.heap.size + 1, 3, none⟩ = some (.int .i64 b) ∧ wx.cell? ⟨w.heap.size + 1, 4, none⟩ = some (.int .i64 r) ∧ wx.cell? ⟨w.heap.size + 2, 0, none⟩ = some (.int .i64 u) ∧ wx.cell? ⟨w.heap.size + 2, 1, none⟩ = some (.int .i64 v) :=
  ⟨h.p.cell rfl, h.p.cell rfl, h.c.cell rfl, h.c.cell rfl, h.c.cell rfl, h.c.cell rfl, h.c.cell rfl, h.u.cell rfl, h.u.cell rfl⟩
theorem atI_none {L : List Sl} {n s : Int} (h : atL L n s = none) : atI L n s = -1 := atL_none h
theorem atI_there {L : List Sl} {n s : Int} (h : atL L n s ≠ none) : ∃ i : Nat, atI L n s = (i : Int) := by
  cases e : atL L n s with
  | none => exact (h e).elim
  | some i => exact ⟨i, atL_atI e⟩
set_option maxHeartbeats 1000000 in
theorem rput_no {base : Nat} {w : World} {t : Nat} {a : Option Addr} {cap : Nat} {L : List Sl} (h : RT base w t a cap L) (n s k o z b r u v : Int) (hn : ¬ putP L n s k o z b r u v) :
    Calls Try.prog 20 #[.pointer (some ⟨t, 0, none⟩), .agg #[.int .i64 n, .int .i64 s], capV k o z b r, .agg #[.int .i64 u, .int .i64 v]] w fun e w' => e = .returned (.bool false) ∧ Kp [] w w' := by
  have H := hide h
  have X0 := hide (Bx.start w n s k o z b r u v)
  obtain ⟨v1, h1⟩ : ∃ q, placeOk n s = q := ⟨_, rfl⟩
  obtain ⟨v3, h3⟩ : ∃ q, chk k o z b r = q := ⟨_, rfl⟩
  replace h1 := hide h1
  replace h3 := hide h3
  clear h
  cases v1
  · clear hn h3
    go_enter Try.func20, Try.ntmps20
    go_wp2_with fail
    all_goals
      (try subst_vars)
      refine (rplace_to n s _ _ (unhide h1)).mono ?_
      rintro e W1 ⟨rfl, K1⟩
      have X1 := (unhide X0).kept K1
      have c1 := X1.cells
      replace X1 := hide X1
      clear K1
      go_wp2
      go_ret
      exact ⟨rfl, (unhide X1).kp⟩
  by_cases e2 : atL L n s = none
  · have h2 := hide (atI_none e2)
    cases v3
    · clear hn
      go_enter Try.func20, Try.ntmps20
      go_wp2_with fail
      all_goals
        (try subst_vars)
        refine (rplace_to n s _ _ (unhide h1)).mono ?_
        rintro e W1 ⟨rfl, K1⟩
        have X1 := (unhide X0).kept K1
        have c1 := X1.cells
        replace X1 := hide X1
        clear K1
        go_wp2_with fail
        refine (at_to ((unhide H).grew (unhide X1).kp) n s _ (unhide h2)).mono ?_
        rintro e W2 ⟨rfl, K2⟩
        have X2 := (unhide X1).kept K2
        have c2 := X2.cells
        replace X2 := hide X2
        clear K2 c1 X1
        go_wp2_with fail
        refine (rcheckA k o z b r _ _ (unhide h3)).mono ?_
        rintro e W3 ⟨rfl, K3⟩
        have X3 := (unhide X2).kept K3
        have c3 := X3.cells
        replace X3 := hide X3
        clear K3 c2 X2
        go_wp2
        go_ret
        exact ⟨rfl, (unhide X3).kp⟩
    have hz : ¬ (u = 0 ∧ v = 0) := fun H0 => hn ⟨unhide h1, e2, unhide h3, .inl H0⟩
    have e4 : atL L u v = none := by
      cases e : atL L u v with
      | none => rfl
      | some i => exact (hn ⟨unhide h1, e2, unhide h3, .inr (by rw [e]; exact fun q => by cases q)⟩).elim
    have h4 := hide (atI_none e4)
    clear hn e4 e2
    by_cases hu : u = 0
    · subst hu
      have hv : (v == 0) = false := beq_eq_false_iff_ne.2 (fun q => hz ⟨rfl, q⟩)
      clear hz
      go_enter Try.func20, Try.ntmps20
      go_wp2_with fail
      all_goals
        (try subst_vars)
        refine (rplace_to n s _ _ (unhide h1)).mono ?_
        rintro e W1 ⟨rfl, K1⟩
        have X1 := (unhide X0).kept K1
        have c1 := X1.cells
        replace X1 := hide X1
        clear K1
        go_wp2_with fail
        refine (at_to ((unhide H).grew (unhide X1).kp) n s _ (unhide h2)).mono ?_
        rintro e W2 ⟨rfl, K2⟩
        have X2 := (unhide X1).kept K2
        have c2 := X2.cells
        replace X2 := hide X2
        clear K2 c1 X1
        go_wp2_with fail
        refine (rcheckA k o z b r _ _ (unhide h3)).mono ?_
        rintro e W3 ⟨rfl, K3⟩
        have X3 := (unhide X2).kept K3
        have c3 := X3.cells
        replace X3 := hide X3
        clear K3 c2 X2
        go_wp2_with fail
        refine (at_to ((unhide H).grew (unhide X3).kp) _ _ _ (unhide h4)).mono ?_
        rintro e W4 ⟨rfl, K4⟩
        have X4 := hide ((unhide X3).kept K4)
        clear K4 c3 X3
        go_wp2
        go_ret
        exact ⟨rfl, (unhide X4).kp⟩
    · have hu' : (u == 0) = false := beq_eq_false_iff_ne.2 hu
      clear hz
      go_enter Try.func20, Try.ntmps20
      go_wp2_with fail
      all_goals
        (try subst_vars)
        refine (rplace_to n s _ _ (unhide h1)).mono ?_
        rintro e W1 ⟨rfl, K1⟩
        have X1 := (unhide X0).kept K1
        have c1 := X1.cells
        replace X1 := hide X1
        clear K1
        go_wp2_with fail
        refine (at_to ((unhide H).grew (unhide X1).kp) n s _ (unhide h2)).mono ?_
        rintro e W2 ⟨rfl, K2⟩
        have X2 := (unhide X1).kept K2
        have c2 := X2.cells
        replace X2 := hide X2
        clear K2 c1 X1
        go_wp2_with fail
        refine (rcheckA k o z b r _ _ (unhide h3)).mono ?_
        rintro e W3 ⟨rfl, K3⟩
        have X3 := (unhide X2).kept K3
        have c3 := X3.cells
        replace X3 := hide X3
        clear K3 c2 X2
        go_wp2_with fail
        refine (at_to ((unhide H).grew (unhide X3).kp) _ _ _ (unhide h4)).mono ?_
        rintro e W4 ⟨rfl, K4⟩
        have X4 := hide ((unhide X3).kept K4)
        clear K4 c3 X3
        go_wp2
        go_ret
        exact ⟨rfl, (unhide X4).kp⟩
  · obtain ⟨i, hi⟩ := atI_there e2
    have h2 := hide hi
    have b2 : decide (0 ≤ (i : Int)) = true := decide_eq_true (by omega)
    clear hn hi h3
    go_enter Try.func20, Try.ntmps20
    go_wp2_with fail
    all_goals
      (try subst_vars)
      refine (rplace_to n s _ _ (unhide h1)).mono ?_
      rintro e W1 ⟨rfl, K1⟩
      have X1 := (unhide X0).kept K1
      have c1 := X1.cells
      replace X1 := hide X1
      clear K1
      go_wp2_with fail
      refine (at_to ((unhide H).grew (unhide X1).kp) n s _ (unhide h2)).mono ?_
      rintro e W2 ⟨rfl, K2⟩
      have X2 := (unhide X1).kept K2
      have c2 := X2.cells
      replace X2 := hide X2
      clear K2 c1 X1
      go_wp2
      go_ret
      exact ⟨rfl, (unhide X2).kp⟩
end Go.Proofs.Ytjjgjgncnifjmaa
