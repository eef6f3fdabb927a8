/- Package word: what each of its functions that has no slice among its arguments does. -/
import Derived.Test.YtdlkaaiedfikoaaRows
import Derived.Test.YtdlkaaiedfikoaaKMath
namespace Go.Proofs.Ytdlkaaiedfikoaa
open Go.RowKit
set_option linter.unusedVariables false
end Go.Proofs.Ytdlkaaiedfikoaa
