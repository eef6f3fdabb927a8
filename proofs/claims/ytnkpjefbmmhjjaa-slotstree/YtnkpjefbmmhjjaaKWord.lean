/- Package word: what each of its functions that has no slice among its arguments does. -/
import Derived.Test.YtnkpjefbmmhjjaaRows
import Derived.Test.YtnkpjefbmmhjjaaKMath
namespace Go.Proofs.Ytnkpjefbmmhjjaa
open Go.RowKit
set_option linter.unusedVariables false
end Go.Proofs.Ytnkpjefbmmhjjaa
