/- The program's endpoint: four cells in one block, two lines; what a line has. -/
import Derived.Test.YthnpkojfkhndoaaKEp0
namespace Go.Proofs.Ythnpkojfkhndoaa
open Go.RowKit
set_option linter.unusedVariables false
theorem Try.infoMsgP : (Try.prog.info? 47).map (fun i => (i.zero, i.size, i.bytes)) = some (some (.agg #[.int .i64 0, .int .i64 0, .int .u32 0, .int .i64 0, .bool false]), 5, 40) := by kernel_rfl
theorem Try.infoRcvP : (Try.prog.info? 42).map (fun i => (i.zero, i.size, i.bytes)) = some (some (.agg #[.int .i64 0, .int .i64 0, .int .i64 0]), 3, 24) := by kernel_rfl
/-- A line: those that came lie at v, of which the first k are gone; these wait. -/
structure Ln {α : Type} {T : TypeId} {sz : Nat} (E : Gr.Enc α T sz) (base : Nat) (w : World) (v : Value) (k : Nat) (L : List α) : Prop where
  row : ∃ C, Gr.Rw E base w v C ∧ C.drop k = L ∧ (2 * k < C.length ∨ (k = 0 ∧ C = []))
/-- A row handed out, new. -/
def RwOut {α : Type} {T : TypeId} {sz : Nat} (E : Gr.Enc α T sz) (wr : World) (L : List α) (e : Ending) (w' : World) : Prop := ∃ v, e = .returned v ∧ Gr.Rw E wr.heap.size w' v L ∧ Kp [] wr w'
end Go.Proofs.Ythnpkojfkhndoaa
