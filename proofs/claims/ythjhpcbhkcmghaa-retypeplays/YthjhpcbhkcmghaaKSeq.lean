/- Numbers taken one by one (ringkernmake.Seq), and a capability made of them. -/
import Derived.Test.YthjhpcbhkcmghaaRows
import Derived.Test.YthjhpcbhkcmghaaKRef
import Derived.Test.YthjhpcbhkcmghaaKArgs
namespace Go.Proofs.Ythjhpcbhkcmghaa
open Go.RowKit
set_option linter.unusedVariables false
/-- The next number, below d. -/
def nx (zs : List Int) (n : Nat) (d : Int) : Int := zs.getD n 0 % d
theorem nx_bd (zs : List Int) (n : Nat) (d : Int) (h : 0 < d) : 0 ≤ nx zs n d ∧ nx zs n d < d := ⟨Int.emod_nonneg _ (by omega), Int.emod_lt_of_pos _ h⟩
end Go.Proofs.Ythjhpcbhkcmghaa
