/- The document's table: Move, where it may be. -/
import Derived.Test.YthjhpcbhkcmghaaKTab7
namespace Go.Proofs.Ythjhpcbhkcmghaa
open Go.RowKit
set_option linter.unusedVariables false
end Go.Proofs.Ythjhpcbhkcmghaa
