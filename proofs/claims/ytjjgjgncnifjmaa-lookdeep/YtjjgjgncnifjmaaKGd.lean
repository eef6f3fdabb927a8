/- The table, the root's box, and a box for a place that may be laid ahead of a call or behind it. -/
import Derived.Test.YtjjgjgncnifjmaaKLaw6
import Derived.Deep.RegionHeld3
import Derived.Deep.DeepCutAuto
import Derived.Deep.CutBlock
namespace Go.Proofs.Ytjjgjgncnifjmaa
open Go.RowKit
set_option linter.unusedVariables false
/-- The table, and the root's box. -/
structure Gd (w : World) (t C : Nat) (L : List Sl) (k o z b r : Int) (wx : World) : Prop where
  tb : Tb w t L wx
  c : Bk wx C 24 [.int .i64 k, .int .i64 o, .int .i64 z, .int .i64 b, .int .i64 r]
theorem Gd.grew {w : World} {t C : Nat} {L : List Sl} {k o z b r : Int} {wx wy : World} (h : Gd w t C L k o z b r wx) (q : Kp [] wx wy) : Gd w t C L k o z b r wy := ⟨h.tb.grew q, h.c.kept q (by simp)⟩
theorem Gd.cells {w : World} {t C : Nat} {L : List Sl} {k o z b r : Int} {wx : World} (h : Gd w t C L k o z b r wx) : wx.cell? ⟨C, 0, none⟩ = some (.int .i64 k) ∧ wx.cell? ⟨C, 1, none⟩ = some (.int .i64 o) ∧ wx.cell? ⟨C, 2, none⟩ = some (.int .i64 z) ∧ wx.cell? ⟨C, 3, none⟩ = some (.int .i64 b) ∧ wx.cell? ⟨C, 4, none⟩ = some (.int .i64 r) := ⟨h.c.cell rfl, h.c.cell rfl, h.c.cell rfl, h.c.cell rfl, h.c.cell rfl⟩
/-- Since W a place's box was laid. -/
structure Ge (W : World) (q : Nat) (wx : World) : Prop where
  kp : Kp [] W wx
  bx : Bk wx q 40 [.int .i64 0, .int .i64 0]
  nw : W.heap.size ≤ q
theorem Ge.of {W wx : World} (h : Kp [] W wx) : Ge W wx.heap.size (wx.alloc (.cells #[.int .i64 0, .int .i64 0] 40)) :=
  ⟨h.alloc _, Bk.new wx _ _, h.size⟩
theorem Ge.grew {W : World} {q : Nat} {wx wy : World} (h : Ge W q wx) (kp : Kp [] wx wy) : Ge W q wy := ⟨h.kp.then kp, h.bx.kept kp (by simp), h.nw⟩
theorem Ge.facts {W : World} {q : Nat} {wx : World} (h : Ge W q wx) : wx.cell? ⟨q, 0, none⟩ = some (.int .i64 0) ∧ wx.cell? ⟨q, 1, none⟩ = some (.int .i64 0) ∧ ∀ i, wx.frozen? ⟨q, i, none⟩ = false := ⟨h.bx.cell rfl, h.bx.cell rfl, h.bx.frozen⟩
theorem Ge.put {W : World} {q : Nat} {wx : World} (h : Ge W q wx) {x y : Value} : Kp [] W ((wx.setCell ⟨q, 0, none⟩ x).setCell ⟨q, 1, none⟩ y) := (h.kp.setCell (p := ⟨q, 0, none⟩) (.inr h.nw) _).setCell (p := ⟨q, 1, none⟩) (.inr h.nw) _
theorem Ge.boxed {W : World} {q : Nat} {wx : World} (h : Ge W q wx) {x y : Value} : Bk ((wx.setCell ⟨q, 0, none⟩ x).setCell ⟨q, 1, none⟩ y) q 40 [x, y] := bk2 h.bx
end Go.Proofs.Ytjjgjgncnifjmaa
