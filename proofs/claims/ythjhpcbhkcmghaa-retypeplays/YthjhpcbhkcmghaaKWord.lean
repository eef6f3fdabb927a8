/- Package word: what each of its functions that has no slice among its arguments does. -/
import Derived.Test.YthjhpcbhkcmghaaRows
import Derived.Test.YthjhpcbhkcmghaaKMath
namespace Go.Proofs.Ythjhpcbhkcmghaa
open Go.RowKit
set_option linter.unusedVariables false
end Go.Proofs.Ythjhpcbhkcmghaa
