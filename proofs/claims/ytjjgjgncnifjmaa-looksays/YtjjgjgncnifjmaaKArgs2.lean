/- A law's argument that is a struct of fields of one cell each, handed over as a value. -/
import Derived.Test.YtjjgjgncnifjmaaKArgs
namespace Go.Proofs.Ytjjgjgncnifjmaa
open Go.RowKit
set_option linter.unusedVariables false
section
variable {H : Type} {enc : TypeId × Value → H} {P : Program} {w : World} {base : Nat} {spare : Nat → Bool} {held : Bool}
theorem struct_of {t : TypeId} {fs : Array Field} {cs : Array Value} {d : DataW H} {ps : List MemPlace} (ht : P.underlying t = some (.struct fs)) (ce : P.cellsOf t = fs.size)
    (hfs : ∀ (j : Nat) (f : Field), fs[j]? = some f → f.offset = j ∧ P.cellsOf f.type = 1) (hs : cs.size = P.cellsOf t) (h : DataW.Trod enc P w base spare held t (.agg cs) d ps) :
    cs.size = fs.size ∧ ∀ j f, fs[j]? = some f → ∃ n x, DataW.trod enc P w base spare held n f.type [cs.getD j (.bool false)] = some x := by
  refine ⟨hs.trans ce, fun j f hjf => ?_⟩
  obtain ⟨fuel, hf⟩ := h
  obtain ⟨xs, k, hk, _, _, hxl, hff⟩ := DataW.trod_struct ht hf
  have g := hff j f hjf
  obtain ⟨o1, c1⟩ := hfs j f hjf
  rw [o1, c1] at g
  have hj : j < fs.size := (Array.getElem?_eq_some_iff.1 hjf).1
  have hj2 : j < cs.size := by omega
  have hj3 : j < xs.length := by rw [hxl]; simpa using hj
  rw [List.getElem?_eq_getElem hj3] at g
  have e : ((Value.agg cs).cells.toList.drop j).take 1 = [cs.getD j (.bool false)] := by
    simp only [Value.cells]
    rw [List.drop_eq_getElem_cons (by simpa using hj2)]
    simp [Array.getD, hj2]
  rw [e] at g
  exact ⟨k, _, g⟩
end
end Go.Proofs.Ytjjgjgncnifjmaa
