/- The document's table: Move. -/
import Derived.Test.YtnkpjefbmmhjjaaKTab7
namespace Go.Proofs.Ytnkpjefbmmhjjaa
open Go.RowKit
set_option linter.unusedVariables false
/-- On the way: the table has M, both places and the slot that moves lie in blocks of their own. -/
structure Mv (base : Nat) (w : World) (Q t : Nat) (a : Option Addr) (cap : Nat) (M : List Sl) (n s n' s' : Int) (x : Sl) (wx : World) : Prop where
  rt : RT base wx t a cap M
  p : Bk wx w.heap.size 35 [.int .i64 n, .int .i64 s]
  q : Bk wx (w.heap.size + 1) 35 [.int .i64 n', .int .i64 s']
  x : Bk wx Q 66 x.vals
  kp : Kp [t] w wx
  far : ∀ g, a = some ⟨g, 0, none⟩ → Q + 1 ≤ g
def moveL (L : List Sl) (n s n' s' : Int) (i : Nat) (x : Sl) : List Sl := (insL (L.eraseIdx i) { x with n := n', s := s' }).map (reF n s n' s')
theorem two_boxes {w W1 : World} {T : TypeId} {a b c d : Value} (K1 : Kp [] ((w.alloc (.cells #[a, b] T)).alloc (.cells #[c, d] T)) W1) : Bk W1 w.heap.size T [a, b] ∧ Bk W1 (w.heap.size + 1) T [c, d] ∧ Kp [] w W1 :=
  ⟨Bk.kept ((Bk.new w T [a, b]).alloc _) K1 (by simp), Bk.kept (Bk.next (w.alloc _) T [c, d] (by simp)) K1 (by simp), (((Kp.refl [] w).alloc _).alloc _).then K1⟩
set_option maxHeartbeats 400000 in
theorem rmove_no {base : Nat} {w : World} {t : Nat} {a : Option Addr} {cap : Nat} {L : List Sl} (h : RT base w t a cap L) (n s n' s' : Int) (hn : atL L n s = none ∨ placeOk n' s' = false ∨ atL L n' s' ≠ none) :
    Calls Try.prog 14 #[.pointer (some ⟨t, 0, none⟩), .agg #[.int .i64 n, .int .i64 s], .agg #[.int .i64 n', .int .i64 s']] w fun e w' => e = .returned (.bool false) ∧ Kp [] w w' := by
  have K0 := ((Kp.refl [] w).alloc (.cells #[.int .i64 n, .int .i64 s] 35)).alloc (.cells #[.int .i64 n', .int .i64 s'] 35)
  have H := hide (h.grew K0)
  have HW := hide h
  clear K0 h
  cases e1 : atL L n s with
  | none =>
    have HA := hide (atL_none e1)
    clear hn e1
    go_enter Try.func14, Try.ntmps14
    go_wp2_with fail
    refine (at_to (unhide H) n s _ (unhide HA)).mono ?_
    rintro e W1 ⟨rfl, K1⟩
    have K1w := hide (two_boxes K1).2.2
    clear K1
    go_wp2
    go_ret
    exact ⟨rfl, unhide K1w⟩
  | some i =>
    have HA := hide (atL_atI e1)
    have b3 : decide ((i : Int) < 0) = false := decide_eq_false (by omega)
    obtain ⟨v1, h1⟩ : ∃ q, placeOk n' s' = q := ⟨_, rfl⟩
    cases v1
    · replace h1 := hide h1
      clear hn e1
      go_enter Try.func14, Try.ntmps14
      go_wp2_with fail
      refine (at_to (unhide H) n s _ (unhide HA)).mono ?_
      rintro e W1 ⟨rfl, K1⟩
      obtain ⟨B1, B2, K1w⟩ := two_boxes K1
      have p0 := B2.cell (i := 0) rfl
      have p1 := B2.cell (i := 1) rfl
      replace K1w := hide K1w
      clear K1 B1 B2
      go_wp2_with fail
      refine (rplace_to n' s' _ _ (unhide h1)).mono ?_
      rintro e W2 ⟨rfl, K2⟩
      replace K2 := hide ((unhide K1w).then K2)
      go_wp2
      go_ret
      exact ⟨rfl, unhide K2⟩
    · have e2 : atL L n' s' ≠ none := by
        rcases hn with q | q | q
        · rw [e1] at q; cases q
        · rw [h1] at q; cases q
        · exact q
      obtain ⟨i2, hi2⟩ := atI_there e2
      have b4 : decide (0 ≤ (i2 : Int)) = true := decide_eq_true (by omega)
      replace h1 := hide h1
      replace hi2 := hide hi2
      clear hn e1 e2
      go_enter Try.func14, Try.ntmps14
      go_wp2_with fail
      refine (at_to (unhide H) n s _ (unhide HA)).mono ?_
      rintro e W1 ⟨rfl, K1⟩
      obtain ⟨B1, B2, K1w⟩ := two_boxes K1
      have p0 := B2.cell (i := 0) rfl
      have p1 := B2.cell (i := 1) rfl
      replace B2 := hide B2
      replace K1w := hide K1w
      clear K1 B1
      go_wp2_with fail
      refine (rplace_to n' s' _ _ (unhide h1)).mono ?_
      rintro e W2 ⟨rfl, K2⟩
      have B3 := (unhide B2).kept K2 (by simp)
      have p2 := B3.cell (i := 0) rfl
      have p3 := B3.cell (i := 1) rfl
      replace K2 := hide ((unhide K1w).then K2)
      clear B3 p0 p1
      go_wp2_with fail
      refine (at_to ((unhide HW).grew (unhide K2)) n' s' _ (unhide hi2)).mono ?_
      rintro e W3 ⟨rfl, K3⟩
      replace K3 := hide ((unhide K2).then K3)
      go_wp2
      go_ret
      exact ⟨rfl, unhide K3⟩
end Go.Proofs.Ytnkpjefbmmhjjaa
