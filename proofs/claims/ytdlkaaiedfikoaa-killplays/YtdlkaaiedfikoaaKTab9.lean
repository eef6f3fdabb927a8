/- The document's table: Move, where it may be. -/
import Derived.Test.YtdlkaaiedfikoaaKTab7
namespace Go.Proofs.Ytdlkaaiedfikoaa
open Go.RowKit
set_option linter.unusedVariables false
end Go.Proofs.Ytdlkaaiedfikoaa
