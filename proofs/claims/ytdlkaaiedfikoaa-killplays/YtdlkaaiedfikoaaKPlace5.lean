/- The statements' places by number. -/
import Derived.Test.YtdlkaaiedfikoaaKRefuse
namespace Go.Proofs.Ytdlkaaiedfikoaa
open Go.RowKit
set_option linter.unusedVariables false
def plN (n : Int) : Int × Int := if n < 0 ∨ 200 < n then (n, n) else (1 + n % 40 / 16, n % 16)
theorem plN_in {n : Int} (h : (Lit.int .i64 n).wf = true) : PIn (plN n) := by
  have := bounds_i64 h
  unfold plN
  split
  · exact pin_2 (by omega) (by omega) (by omega) (by omega)
  · exact pin_2 (by omega) (by omega) (by omega) (by omega)
end Go.Proofs.Ytdlkaaiedfikoaa
