/- A capability made of numbers (ringkernmake.Cap). -/
import Derived.Test.YthjhpcbhkcmghaaKSeq
import Derived.Test.YthjhpcbhkcmghaaKCaps
import Derived.Deep.CutBlock
import Derived.Deep.DeepCutAuto
namespace Go.Proofs.Ythjhpcbhkcmghaa
open Go.RowKit
set_option linter.unusedVariables false
def capCells (k o s b r : Int) : List Value := [.int .i64 k, .int .i64 o, .int .i64 s, .int .i64 b, .int .i64 r]
/-- The bounds of one that is made. -/
def CapIn (k o s b r : Int) : Prop := (1 ≤ k ∧ k ≤ 9) ∧ (1 ≤ o ∧ o ≤ 20) ∧ (0 ≤ r ∧ r ≤ 7) ∧ (-3 ≤ s ∧ s ≤ 16) ∧ (-3 ≤ b ∧ b ≤ 98)
end Go.Proofs.Ythjhpcbhkcmghaa
