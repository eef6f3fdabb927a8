/- The chapter's examples (ringkernlaw3.first), and the contracts by what comes out. -/
import Derived.Test.YtndbmhdkckmfcaaKCaps3
namespace Go.Proofs.Ytndbmhdkckmfcaa
open Go.RowKit
set_option linter.unusedVariables false
theorem check_to (k o s b r : Int) (v : Bool) (w : World) (h : chk k o s b r = v) :
    Calls Try.prog 12 #[capV k o s b r] w fun e w' => e = .returned (.bool v) ∧ Kp [] w w' := by subst h; exact check_calls k o s b r w
theorem less_to (k o s b r m v : Int) (w : World) (h : lessR r m = v) :
    Calls Try.prog 14 #[capV k o s b r, .int .i64 m] w fun e w' => e = .returned (capV k o s b v) ∧ Kp [] w w' := by subst h; exact less_calls k o s b r m w
theorem names_to (k o s b r k' o' s' b' r' : Int) (v : Bool) (w : World) (h : namesP k o s k' o' s' = v) :
    Calls Try.prog 18 #[capV k o s b r, capV k' o' s' b' r'] w fun e w' => e = .returned (.bool v) ∧ Kp [] w w' := by subst h; exact names_calls k o s b r k' o' s' b' r' w
set_option maxHeartbeats 400000 in
theorem first_calls (w : World) : Calls Try.prog 8 #[] w fun e w' => e = .returned (.bool true) ∧ Kp [] w w' := by
  go_enter Try.func8, Try.ntmps8
  go_wp2_with fail
  refine (less_to 3 1 0 0 7 2 2 _ (by rfl)).mono ?_
  rintro e W1 ⟨rfl, K1⟩
  replace K1 := hide (K1.alloc (.cells #[.int .i64 3, .int .i64 1, .int .i64 0, .int .i64 0, .int .i64 2] 23))
  go_wp2_with fail
  refine (check_to 3 1 0 0 2 true _ (by decide)).mono ?_
  rintro e W2 ⟨rfl, K2⟩
  replace K2 := hide ((unhide K1).then K2)
  go_wp2_with fail
  refine (check_to 0 0 0 0 0 false _ (by decide)).mono ?_
  rintro e W3 ⟨rfl, K3⟩
  replace K3 := hide ((unhide K2).then K3)
  go_wp2
  go_ret
  exact ⟨rfl, unhide K3⟩
end Go.Proofs.Ytndbmhdkckmfcaa
