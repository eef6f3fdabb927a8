/- The chapter's example (ringkernlaw4.first), and the contracts by what comes out. -/
import Derived.Test.YtjjgjgncnifjmaaKAddr3
import Derived.Test.YtjjgjgncnifjmaaKRef
namespace Go.Proofs.Ytjjgjgncnifjmaa
open Go.RowKit
set_option linter.unusedVariables false
theorem join_to (v d j : Int) (w : World) (h : joinN v d = j) :
    Calls Try.prog 17 #[.int .i64 v, .int .i64 d] w fun e w' => e = .returned (.int .u32 j) ∧ ∃ k, w' = w.drewN k := by subst h; exact join_calls v d w
theorem split_to (a v d : Int) (q : Bool) (w : World) (h : 0 ≤ a ∧ a < 4294967296) (h1 : splitV a = v) (h2 : splitD a = d) (h3 : splitOk a = q) :
    Calls Try.prog 21 #[.int .u32 a] w fun e w' => e = .returned (.tuple #[.int .i64 v, .int .i64 d, .bool q]) ∧ ∃ k, w' = w.drewN k := by subst h1; subst h2; subst h3; exact split_calls a w h
theorem split_yes (v d : Int) (h1 : 4 ≤ d) (h2 : d ≤ 24) (h3 : 0 ≤ v) (h4 : v < ((2 ^ d.toNat : Nat) : Int)) : joinN v d = v * 256 + d ∧ splitOk (v * 256 + d) = true ∧ splitV (v * 256 + d) = v ∧ splitD (v * 256 + d) = d := by
  have hp := pow24 d (by omega) h2
  have e1 : (v * 256 + d) % 256 = d := by omega
  have e2 : (v * 256 + d) / 256 = v := by omega
  have h : splitOk (v * 256 + d) = true := by unfold splitOk; rw [e1, e2]; exact decide_eq_true ⟨h1, h2, h4⟩
  refine ⟨by unfold joinN; omega, h, ?_, ?_⟩
  · unfold splitV; rw [if_pos h]; exact e2
  · unfold splitD; rw [if_pos h]; exact e1
theorem split_no (a : Int) (h : ¬ (4 ≤ a % 256 ∧ a % 256 ≤ 24 ∧ a / 256 < ((2 ^ (a % 256).toNat : Nat) : Int))) : splitOk a = false ∧ splitV a = 0 ∧ splitD a = 0 := by
  have e : splitOk a = false := by unfold splitOk; exact decide_eq_false h
  exact ⟨e, by unfold splitV; rw [e]; rfl, by unfold splitD; rw [e]; rfl⟩
theorem join_kp (v d j : Int) (w : World) (h : joinN v d = j) :
    Calls Try.prog 17 #[.int .i64 v, .int .i64 d] w fun e w' => e = .returned (.int .u32 j) ∧ Kp [] w w' :=
  (join_to v d j w h).mono fun e w' ⟨h, k, hk⟩ => ⟨h, by subst hk; exact (Kp.refl [] w).drewN k⟩
theorem split_kp (a v d : Int) (q : Bool) (w : World) (h : 0 ≤ a ∧ a < 4294967296) (h1 : splitV a = v) (h2 : splitD a = d) (h3 : splitOk a = q) :
    Calls Try.prog 21 #[.int .u32 a] w fun e w' => e = .returned (.tuple #[.int .i64 v, .int .i64 d, .bool q]) ∧ Kp [] w w' :=
  (split_to a v d q w h h1 h2 h3).mono fun e w' ⟨h, k, hk⟩ => ⟨h, by subst hk; exact (Kp.refl [] w).drewN k⟩
theorem drewN_below (w : World) (k : Nat) : Below w.heap.size w (w.drewN k) := ((Kp.refl [] w).drewN k).below (Nat.le_refl _) (by simp)
theorem drewN_two (w : World) (a b : Nat) : (w.drewN a).drewN b = w.drewN (a + b) := by first | rfl | simp
end Go.Proofs.Ytjjgjgncnifjmaa
