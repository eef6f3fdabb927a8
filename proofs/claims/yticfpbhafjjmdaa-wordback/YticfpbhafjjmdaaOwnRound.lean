/- The walk of WordRound. -/
import Derived.Test.YticfpbhafjjmdaaOwnWord
namespace Go.Proofs.Yticfpbhafjjmdaa
open Go.RowKit
theorem grown_drewN (w : World) (k : Nat) : Grown w (w.drewN k) := by
  have h := World.keptBut_refl w (fun _ => False)
  exact ⟨⟨rfl, rfl, h.2.2⟩, fun _ => rfl, Nat.le_refl _⟩
theorem round_back (h n : Int) (n0 : 0 ≤ n) (n1 : n < 4294967296) : ((h + n) % 4294967296 - h) % 4294967296 = n := by omega
theorem round_sign (n : Int) (n0 : 0 ≤ n) (n1 : n < 4294967296) : wrap32 n % 4294967296 = n := by unfold wrap32; omega
theorem round_neg (n : Int) (n0 : 0 ≤ n) (n1 : n < 4294967296) : decide (wrap32 n < 0) = decide (2147483648 ≤ n) := by
  by_cases h : 2147483648 ≤ n
  · have : wrap32 n < 0 := by unfold wrap32; omega
    simp [h, this]
  · have : ¬ wrap32 n < 0 := by unfold wrap32; omega
    simp [h, this]
set_option maxHeartbeats 400000 in
theorem round_walk (h n : Int) (w0 : (Lit.int .u32 h).wf = true) (w1 : (Lit.int .u32 n).wf = true) (w : World) :
    Calls Try.prog 6 #[.int .u32 h, .int .u32 n] w fun e w' => e = .returned (.bool true) ∧ Grown w w' := by
  have b0 := bounds_u32 w0
  have b1 := bounds_u32 w1
  have e1 := round_back h n b1.1 (by omega)
  have e2 := round_sign n b1.1 (by omega)
  have e3 := round_neg n b1.1 (by omega)
  have e4 : wrap32 2147483648 = -2147483648 := by unfold wrap32; decide
  go_enter Try.func6, Try.ntmps6
  go_wp2_with fail
  refine (first_calls _).mono ?_
  rintro e w' ⟨rfl, k, rfl⟩
  go_wp2_with (first | (go_at_call 22; refine (signed_calls _ _).mono ?_; rintro e w' ⟨rfl, rfl⟩) | (go_at_call 23; refine (dist_calls _ _ _).mono ?_; rintro e w' ⟨rfl, rfl⟩))
  go_ret
  exact ⟨rfl, grown_drewN _ _⟩
end Go.Proofs.Yticfpbhafjjmdaa
