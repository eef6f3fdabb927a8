/- An object's cells within a block: so many cells ahead of them, others behind. -/
import Derived.Test.YtgahekhlbcnmaaaKBase
namespace Go.Proofs.Ytgahekhlbcnmaaa
open Go.RowKit
set_option linter.unusedVariables false
/-- At cell o of block y there are these, ahead of them the block's first cells, behind them its last ones. -/
structure Hd (w : World) (y o : Nat) (U : TypeId) (pre post vs : List Value) : Prop where
  len : pre.length = o
  bk : Bk w y U (pre ++ (vs ++ post))
theorem hd_get {pre post vs : List Value} {o i : Nat} (h : pre.length = o) {v : Value} (hv : vs[i]? = some v) : (pre ++ (vs ++ post))[o + i]? = some v := by
  have hi := (List.getElem?_eq_some_iff.1 hv).1
  rw [List.getElem?_append_right (by omega), h, Nat.add_sub_cancel_left, List.getElem?_append_left hi]
  exact hv
theorem hd_set {pre post vs : List Value} {o i : Nat} (h : pre.length = o) (hi : i < vs.length) (v : Value) : (pre ++ (vs ++ post)).set (o + i) v = pre ++ (vs.set i v ++ post) := by
  rw [List.set_append_right _ _ (by omega), h, Nat.add_sub_cancel_left, List.set_append_left _ _ hi]
theorem Hd.lt {w : World} {y o : Nat} {U : TypeId} {pre post vs : List Value} (h : Hd w y o U pre post vs) : y < w.heap.size := h.bk.lt
theorem Hd.cell {w : World} {y o : Nat} {U : TypeId} {pre post vs : List Value} (h : Hd w y o U pre post vs) {i : Nat} {v : Value} (hv : vs[i]? = some v) : w.cell? ⟨y, o + i, none⟩ = some v := h.bk.cell (hd_get h.len hv)
theorem Hd.cell0 {w : World} {y o : Nat} {U : TypeId} {pre post vs : List Value} (h : Hd w y o U pre post vs) {v : Value} (hv : vs[0]? = some v) : w.cell? ⟨y, o, none⟩ = some v := h.cell (i := 0) hv
theorem Hd.frozen {w : World} {y o : Nat} {U : TypeId} {pre post vs : List Value} (h : Hd w y o U pre post vs) (i : Nat) : w.frozen? ⟨y, i, none⟩ = false := h.bk.frozen i
theorem Hd.kept {S : List Nat} {w w' : World} {y o : Nat} {U : TypeId} {pre post vs : List Value} (h : Hd w y o U pre post vs) (k : Kp S w w') (hn : y ∉ S) : Hd w' y o U pre post vs := ⟨h.len, h.bk.kept k hn⟩
theorem Hd.alloc {w : World} {y o : Nat} {U : TypeId} {pre post vs : List Value} (h : Hd w y o U pre post vs) (ob : Obj) : Hd (w.alloc ob) y o U pre post vs := ⟨h.len, h.bk.alloc ob⟩
theorem Hd.drewN {w : World} {y o : Nat} {U : TypeId} {pre post vs : List Value} (h : Hd w y o U pre post vs) (k : Nat) : Hd (w.drewN k) y o U pre post vs := ⟨h.len, h.bk.drewN k⟩
theorem Hd.set {w : World} {y o : Nat} {U : TypeId} {pre post vs : List Value} (h : Hd w y o U pre post vs) (i : Nat) (v : Value) (hi : i < vs.length) : Hd (w.setCell ⟨y, o + i, none⟩ v) y o U pre post (vs.set i v) :=
  ⟨h.len, by rw [← hd_set h.len hi v]; exact h.bk.set (o + i) v⟩
theorem Hd.set0 {w : World} {y o : Nat} {U : TypeId} {pre post vs : List Value} (h : Hd w y o U pre post vs) (v : Value) (hi : 0 < vs.length) : Hd (w.setCell ⟨y, o, none⟩ v) y o U pre post (vs.set 0 v) := h.set 0 v hi
theorem Hd.of {w : World} {y : Nat} {U : TypeId} {vs : List Value} (h : Bk w y U vs) : Hd w y 0 U [] [] vs := ⟨rfl, by rw [List.append_nil]; exact h⟩
theorem Hd.to {w : World} {y : Nat} {U : TypeId} {vs : List Value} (h : Hd w y 0 U [] [] vs) : Bk w y U vs := by have := h.bk; rwa [List.append_nil] at this
end Go.Proofs.Ytgahekhlbcnmaaa
