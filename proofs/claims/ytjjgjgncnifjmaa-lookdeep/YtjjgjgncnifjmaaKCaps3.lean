/- Package caps: Badge, and the document's own. -/
import Derived.Test.YtjjgjgncnifjmaaKCaps2
namespace Go.Proofs.Ytjjgjgncnifjmaa
open Go.RowKit
set_option linter.unusedVariables false
theorem box_two {w W1 : World} {T : TypeId} {a : Array Value} {vs : List Value} (K1 : Kp [] ((w.alloc (.cells a T)).alloc (.cells vs.toArray T)) W1) : Bk W1 (w.heap.size + 1) T vs ∧ Kp [] w W1 :=
  ⟨Bk.kept (Bk.next (w.alloc (.cells a T)) T vs (by simp)) K1 (by simp), (((Kp.refl [] w).alloc _).alloc _).then K1⟩
end Go.Proofs.Ytjjgjgncnifjmaa
