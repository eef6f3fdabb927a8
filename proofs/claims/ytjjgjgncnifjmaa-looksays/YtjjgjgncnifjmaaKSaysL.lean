/- The walk of LookSays, all its arguments. -/
import Derived.Test.YtjjgjgncnifjmaaKSays
import Derived.Test.YtjjgjgncnifjmaaKArgs2
namespace Go.Proofs.Ytjjgjgncnifjmaa
open Go.RowKit
set_option linter.unusedVariables false
set_option maxRecDepth 20000 in
set_option maxHeartbeats 1000000 in
theorem says_out (la : Option Addr) (len cap : Nat) (rk ro rz rb rr a kind : Int) (w : World) (hl : 120 < len) (hm : len ≤ 9223372036854775807) :
    Calls Try.prog 3 #[.slice la len cap, .agg #[.int .i64 rk, .int .i64 ro, .int .i64 rz, .int .i64 rb, .int .i64 rr], .int .u32 a, .int .i64 kind] w fun e w' => e = .returned (.bool true) ∧ Below w.heap.size w w' := by
  have d1 : decide ((120 : Int) < (len : Int)) = true := decide_eq_true (by omega)
  have K1 := hide ((Kp.refl [] w).alloc (.cells #[.int .i64 rk, .int .i64 ro, .int .i64 rz, .int .i64 rb, .int .i64 rr] 24))
  go_enter Try.func3, Try.ntmps3
  go_wp2_with fail
  refine (first_calls _).mono ?_
  rintro e W0 ⟨rfl, K0⟩
  replace K0 := hide K0
  go_wp2
  go_ret
  exact ⟨rfl, ((unhide K1).then (unhide K0)).below (Nat.le_refl _) (by simp)⟩
theorem says_walk (la : Option Addr) (len cap : Nat) (zs : List Int) (rk ro rz rb rr a kind : Int) (w : World) (hl : zs.length = len) (hI : Ints .i64 w la zs) (_ : (Lit.int .i64 rk).wf = true) (_ : (Lit.int .i64 ro).wf = true) (_ : (Lit.int .i64 rz).wf = true) (_ : (Lit.int .i64 rb).wf = true) (_ : (Lit.int .i64 rr).wf = true) (ha : (Lit.int .u32 a).wf = true) (_ : (Lit.int .i64 kind).wf = true) :
    Calls Try.prog 3 #[.slice la len cap, .agg #[.int .i64 rk, .int .i64 ro, .int .i64 rz, .int .i64 rb, .int .i64 rr], .int .u32 a, .int .i64 kind] w fun e w' => e = .returned (.bool true) ∧ Below w.heap.size w w' := by
  subst hl
  by_cases h : zs.length ≤ 120
  · exact says_in la cap zs rk ro rz rb rr a kind w h hI (by have := bounds_u32 ha; omega)
  · exact says_out la _ cap rk ro rz rb rr a kind w (by omega) hI.1
end Go.Proofs.Ytjjgjgncnifjmaa
