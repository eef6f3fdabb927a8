/- The document's table: all that is below a place. -/
import Derived.Test.YtjjgjgncnifjmaaKTab3
namespace Go.Proofs.Ytjjgjgncnifjmaa
open Go.RowKit
set_option linter.unusedVariables false
/-- Up from a place, no further than the one that is asked for, or to where there is no parent. -/
def climb (L : List Sl) (n s : Int) : Nat → Int → Int → Int × Int
  | 0, u, v => (u, v)
  | m + 1, u, v => if (u = n ∧ v = s) ∨ (u = 0 ∧ v = 0) then (u, v) else climb L n s m (parL L u v).1 (parL L u v).2
theorem climb_stop {L : List Sl} {n s u v : Int} (h : (u = n ∧ v = s) ∨ (u = 0 ∧ v = 0)) (m : Nat) : climb L n s m u v = (u, v) := by
  cases m with
  | zero => rfl
  | succ m => unfold climb; rw [if_pos h]
theorem climb_up {L : List Sl} {n s u v u' v' : Int} (h : ¬ ((u = n ∧ v = s) ∨ (u = 0 ∧ v = 0))) (hp : parL L u v = (u', v')) (m : Nat) : climb L n s (m + 1) u v = climb L n s m u' v' := by
  rw [climb, if_neg h, hp]
def lowF (L : List Sl) (n s : Int) (x : Sl) : Bool := ((climb L n s (L.length + 1) x.u x.v).1 == n && (climb L n s (L.length + 1) x.u x.v).2 == s) && !(n == 0 && s == 0)
end Go.Proofs.Ytjjgjgncnifjmaa
