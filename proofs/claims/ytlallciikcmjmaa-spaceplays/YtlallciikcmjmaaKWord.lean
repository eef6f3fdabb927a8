/- Package word: what each of its functions that has no slice among its arguments does. -/
import Derived.Test.YtlallciikcmjmaaRows
import Derived.Test.YtlallciikcmjmaaKMath
namespace Go.Proofs.Ytlallciikcmjmaa
open Go.RowKit
set_option linter.unusedVariables false
set_option maxHeartbeats 400000 in
theorem width_calls (s bits : Int) (w : World) :
    Calls Try.prog 45 #[.int .i64 s, .int .i64 bits] w fun e w' => e = .returned (.int .i64 (widthOf s bits)) ∧ w' = w := by
  go_enter Try.func45, Try.ntmps45
  go_wp2
  all_goals (go_ret; exact ⟨ret_int (by unfold widthOf; split <;> (try split) <;> omega), rfl⟩)
set_option maxHeartbeats 400000 in
theorem lowest_calls (n : Int) (w : World) (h0 : 0 ≤ n) (h1 : n ≤ 32) :
    Calls Try.prog 46 #[.int .i64 n] w fun e w' => e = .returned (.int .u32 ((2 ^ n.toNat - 1) % 4294967296)) ∧ w' = w := by
  go_enter Try.func46, Try.ntmps46
  go_wp2
  go_ret
  exact ⟨ret_int (by omega), rfl⟩
set_option maxHeartbeats 400000 in
theorem field_calls (n s bits : Int) (w : World) (h0 : 0 ≤ n) (h1 : n < 4294967296) :
    Calls Try.prog 38 #[.int .u32 n, .int .i64 s, .int .i64 bits] w fun e w' => e = .returned (.int .u32 ((fldN n.toNat s.toNat (widthOf s bits).toNat : Nat) : Int)) ∧ ∃ k, w' = w.drewN k := by
  have hb := widthOf_bd s bits
  by_cases hz : widthOf s bits = 0
  · have hz' : (widthOf s bits == 0) = true := by simp [hz]
    have HF : Hid ((0 : Int) = ((fldN n.toNat s.toNat (widthOf s bits).toNat : Nat) : Int)) := by rw [hz]; exact (congrArg Int.ofNat (fldN_none n.toNat s.toNat)).symm
    clear hz
    go_enter Try.func38, Try.ntmps38
    go_wp2_with (go_at_call 45; refine (width_calls _ _ _).mono ?_; rintro e w' ⟨rfl, rfl⟩)
    go_ret
    exact ⟨ret_int HF.out, 0, rfl⟩
  · have hz' : (widthOf s bits == 0) = false := by simp [hz]
    have hs := hb.2.2 (by omega)
    clear hz
    have HF := hide (field_walk n s (widthOf s bits).toNat h0 h1 (by omega))
    go_enter Try.func38, Try.ntmps38
    go_wp2_with (go_at_call 45; refine (width_calls _ _ _).mono ?_; rintro e w' ⟨rfl, rfl⟩)
    go_quiet ((go_at_call 46; exact Calls.quiet_of_same (lowest_calls _ _ (by omega) (by omega))))
    go_wp2
    go_ret
    exact ⟨ret_int (unhide HF), _, rfl⟩
end Go.Proofs.Ytlallciikcmjmaa
