/- The statements' own helpers: a number cut to a bound, a copy of bytes, whether two lists of bytes are the same. -/
import Derived.Test.YthnpkojfkhndoaaRows
import Derived.Test.YthnpkojfkhndoaaKBase
namespace Go.Proofs.Ythnpkojfkhndoaa
open Go.RowKit
set_option linter.unusedVariables false
/-- Go's remainder, put right, is the least that is not below 0. -/
theorem number_walk (n d : Int) (hd : 0 < d) : (if n.tmod d < 0 then n.tmod d + d else n.tmod d) = n % d := by
  have h := Int.emod_nonneg n (Int.ne_of_gt hd)
  have h2 := Int.emod_lt_of_pos n hd
  have e := Int.tmod_eq_emod (a := n) (b := d)
  have ed : (d.natAbs : Int) = d := Int.natAbs_of_nonneg (by omega)
  split at e
  · rename_i hc
    rw [e]
    split <;> omega
  · rename_i hc
    have : n % d ≠ 0 := fun hz => hc (.inr (Int.dvd_of_emod_eq_zero hz))
    rw [e]
    split <;> omega
set_option maxHeartbeats 400000 in
theorem number_calls (n d : Int) (w : World) (hd : 0 < d) (hm : d ≤ 4294967296) :
    Calls Try.prog 7 #[.int .i64 n, .int .i64 d] w fun e w' => e = .returned (.int .i64 (n % d)) ∧ w' = w := by
  have HW := hide (number_walk n d hd)
  have hb1 : n.tmod d < d := Int.tmod_lt_of_pos n hd
  have hb2 : -d < n.tmod d := Int.lt_tmod_of_pos n hd
  go_enter Try.func7, Try.ntmps7
  go_wp2
  · go_ret
    exact ⟨ret_int ((if_pos ‹n.tmod d < 0›).symm.trans (unhide HW)), rfl⟩
  · go_ret
    exact ⟨ret_int ((if_neg (Int.not_lt.2 ‹0 ≤ n.tmod d›)).symm.trans (unhide HW)), rfl⟩
theorem number_to (n d m : Int) (w : World) (hd : 0 < d) (hb : d ≤ 4294967296) (hm : n % d = m) :
    Calls Try.prog 7 #[.int .i64 n, .int .i64 d] w fun e w' => e = .returned (.int .i64 m) ∧ w' = w := by
  subst hm; exact number_calls n d w hd hb
end Go.Proofs.Ythnpkojfkhndoaa
