/- Boxes that may be laid ahead of a call or behind it. -/
import Derived.Test.YtjjgjgncnifjmaaKGd
namespace Go.Proofs.Ytjjgjgncnifjmaa
open Go.RowKit
set_option linter.unusedVariables false
/-- Since W: a place's box, a capability's. -/
structure BoxP (W : World) (q : Nat) (wx : World) : Prop where
  bx : Bk wx q 40 [.int .i64 0, .int .i64 0]
  nw : W.heap.size ≤ q
structure BoxQ (W : World) (q : Nat) (wx : World) : Prop where
  bx : Bk wx q 24 [.int .i64 0, .int .i64 0, .int .i64 0, .int .i64 0, .int .i64 0]
  nw : W.heap.size ≤ q
theorem BoxP.of {W wx : World} (h : Kp [] W wx) : BoxP W wx.heap.size (wx.alloc (.cells #[.int .i64 0, .int .i64 0] 40)) := ⟨Bk.new wx _ _, h.size⟩
theorem BoxQ.of {W wx : World} (h : Kp [] W wx) : BoxQ W wx.heap.size (wx.alloc (.cells #[.int .i64 0, .int .i64 0, .int .i64 0, .int .i64 0, .int .i64 0] 24)) := ⟨Bk.new wx _ _, h.size⟩
theorem BoxP.grew {W : World} {q : Nat} {wx wy : World} (h : BoxP W q wx) (k : Kp [] wx wy) : BoxP W q wy := ⟨h.bx.kept k (by simp), h.nw⟩
theorem BoxQ.grew {W : World} {q : Nat} {wx wy : World} (h : BoxQ W q wx) (k : Kp [] wx wy) : BoxQ W q wy := ⟨h.bx.kept k (by simp), h.nw⟩
theorem BoxP.next {W wx : World} {o : Obj} (h : Kp [] W wx) : BoxP W (wx.heap.size + 1) ((wx.alloc o).alloc (.cells #[.int .i64 0, .int .i64 0] 40)) := ⟨Bk.next (p := wx.heap.size + 1) _ _ _ (by simp), by have := h.size; omega⟩
theorem BoxQ.next {W wx : World} {o : Obj} (h : Kp [] W wx) : BoxQ W (wx.heap.size + 1) ((wx.alloc o).alloc (.cells #[.int .i64 0, .int .i64 0, .int .i64 0, .int .i64 0, .int .i64 0] 24)) := ⟨Bk.next (p := wx.heap.size + 1) _ _ _ (by simp), by have := h.size; omega⟩
theorem BoxP.ofd (W : World) : BoxP W W.heap.size (W.alloc (.cells #[.int .i64 0, .int .i64 0] 40)).drew := BoxP.of (Kp.refl [] W).drew
theorem BoxQ.ofd (W : World) : BoxQ W W.heap.size (W.alloc (.cells #[.int .i64 0, .int .i64 0, .int .i64 0, .int .i64 0, .int .i64 0] 24)).drew := BoxQ.of (Kp.refl [] W).drew
theorem BoxP.nextd (W : World) {o : Obj} : BoxP W (W.heap.size + 1) ((W.alloc o).alloc (.cells #[.int .i64 0, .int .i64 0] 40)).drew := BoxP.next (o := o) (Kp.refl [] W).drew
theorem BoxQ.nextd (W : World) {o : Obj} : BoxQ W (W.heap.size + 1) ((W.alloc o).alloc (.cells #[.int .i64 0, .int .i64 0, .int .i64 0, .int .i64 0, .int .i64 0] 24)).drew := BoxQ.next (o := o) (Kp.refl [] W).drew
theorem BoxP.oldd (W : World) {o : Obj} : BoxP W W.heap.size ((W.alloc (.cells #[.int .i64 0, .int .i64 0] 40)).alloc o).drew := ((BoxP.of (Kp.refl [] W)).grew ((Kp.refl [] _).alloc o)).grew (Kp.refl [] _).drew
theorem BoxQ.oldd (W : World) {o : Obj} : BoxQ W W.heap.size ((W.alloc (.cells #[.int .i64 0, .int .i64 0, .int .i64 0, .int .i64 0, .int .i64 0] 24)).alloc o).drew := ((BoxQ.of (Kp.refl [] W)).grew ((Kp.refl [] _).alloc o)).grew (Kp.refl [] _).drew
theorem BoxP.facts {W : World} {q : Nat} {wx : World} (h : BoxP W q wx) : wx.cell? ⟨q, 0, none⟩ = some (.int .i64 0) ∧ wx.cell? ⟨q, 1, none⟩ = some (.int .i64 0) ∧ (∀ i, wx.frozen? ⟨q, i, none⟩ = false) ∧ q < wx.heap.size := ⟨h.bx.cell rfl, h.bx.cell rfl, h.bx.frozen, h.bx.lt⟩
theorem BoxQ.facts {W : World} {q : Nat} {wx : World} (h : BoxQ W q wx) : wx.cell? ⟨q, 0, none⟩ = some (.int .i64 0) ∧ wx.cell? ⟨q, 1, none⟩ = some (.int .i64 0) ∧ wx.cell? ⟨q, 2, none⟩ = some (.int .i64 0) ∧ wx.cell? ⟨q, 3, none⟩ = some (.int .i64 0) ∧ wx.cell? ⟨q, 4, none⟩ = some (.int .i64 0) ∧ (∀ i, wx.frozen? ⟨q, i, none⟩ = false) ∧ q < wx.heap.size := ⟨h.bx.cell rfl, h.bx.cell rfl, h.bx.cell rfl, h.bx.cell rfl, h.bx.cell rfl, h.bx.frozen, h.bx.lt⟩
/-- Both boxes are written: a capability, a place. -/
structure Cp (u q : Nat) (g1 g2 g3 g4 g5 g6 g7 : Int) (W wx : World) : Prop where
  cu : Bk wx u 24 [.int .i64 g1, .int .i64 g2, .int .i64 g3, .int .i64 g4, .int .i64 g5]
  cq : Bk wx q 40 [.int .i64 g6, .int .i64 g7]
  kp : Kp [] W wx
theorem Cp.rel {u q : Nat} {g1 g2 g3 g4 g5 g6 g7 : Int} {W wx : World} (h : Cp u q g1 g2 g3 g4 g5 g6 g7 W wx) : (wx.cell? ⟨u, 0, none⟩ = some (.int .i64 g1) ∧ wx.cell? ⟨u, 1, none⟩ = some (.int .i64 g2) ∧ wx.cell? ⟨u, 2, none⟩ = some (.int .i64 g3) ∧ wx.cell? ⟨u, 3, none⟩ = some (.int .i64 g4) ∧ wx.cell? ⟨u, 4, none⟩ = some (.int .i64 g5)) ∧ (wx.cell? ⟨q, 0, none⟩ = some (.int .i64 g6) ∧ wx.cell? ⟨q, 1, none⟩ = some (.int .i64 g7)) ∧ Kp [] W wx :=
  ⟨⟨h.cu.cell rfl, h.cu.cell rfl, h.cu.cell rfl, h.cu.cell rfl, h.cu.cell rfl⟩, ⟨h.cq.cell rfl, h.cq.cell rfl⟩, h.kp⟩
theorem cpA {W W5 : World} {g1 g2 g3 g4 g5 g6 g7 : Int} (h : Kp [] W W5) : Cp W5.heap.size (W5.heap.size + 1) g1 g2 g3 g4 g5 g6 g7 W ((W5.alloc (.cells #[.int .i64 g1, .int .i64 g2, .int .i64 g3, .int .i64 g4, .int .i64 g5] 24)).alloc (.cells #[.int .i64 g6, .int .i64 g7] 40)) :=
  ⟨(Bk.new W5 _ _).alloc _, Bk.next (p := W5.heap.size + 1) _ _ _ (by simp), (h.alloc _).alloc _⟩
theorem cpB {W W5 : World} {g1 g2 g3 g4 g5 g6 g7 : Int} (h : Kp [] W W5) : Cp (W5.heap.size + 1) W5.heap.size g1 g2 g3 g4 g5 g6 g7 W ((W5.alloc (.cells #[.int .i64 g6, .int .i64 g7] 40)).alloc (.cells #[.int .i64 g1, .int .i64 g2, .int .i64 g3, .int .i64 g4, .int .i64 g5] 24)) :=
  ⟨Bk.next (p := W5.heap.size + 1) _ _ _ (by simp), (Bk.new W5 _ _).alloc _, (h.alloc _).alloc _⟩
theorem cpC {W W5 : World} {u : Nat} {g1 g2 g3 g4 g5 g6 g7 : Int} (h : Kp [] W W5) (hq : BoxQ W u W5) : Cp u W5.heap.size g1 g2 g3 g4 g5 g6 g7 W ((((((W5.setCell ⟨u, 0, none⟩ (.int .i64 g1)).setCell ⟨u, 1, none⟩ (.int .i64 g2)).setCell ⟨u, 2, none⟩ (.int .i64 g3)).setCell ⟨u, 3, none⟩ (.int .i64 g4)).setCell ⟨u, 4, none⟩ (.int .i64 g5)).alloc (.cells #[.int .i64 g6, .int .i64 g7] 40)) :=
  ⟨(bk_put5 hq.bx _ _ _ _ _).alloc _, Bk.next (p := W5.heap.size) _ _ _ (by simp), (kp_put5 h (.inr hq.nw) _ _ _ _ _).alloc _⟩
theorem cpD {W W5 : World} {q : Nat} {g1 g2 g3 g4 g5 g6 g7 : Int} (h : Kp [] W W5) (hp : BoxP W q W5) : Cp W5.heap.size q g1 g2 g3 g4 g5 g6 g7 W (((W5.setCell ⟨q, 0, none⟩ (.int .i64 g6)).setCell ⟨q, 1, none⟩ (.int .i64 g7)).alloc (.cells #[.int .i64 g1, .int .i64 g2, .int .i64 g3, .int .i64 g4, .int .i64 g5] 24)) :=
  ⟨Bk.next (p := W5.heap.size) _ _ _ (by simp), (bk2 hp.bx).alloc _, (kp_put2 h hp.nw _ _).alloc _⟩
theorem cpE {W W5 : World} {u q : Nat} {g1 g2 g3 g4 g5 g6 g7 : Int} (h : Kp [] W W5) (hq : BoxQ W u W5) (hp : BoxP W q W5) : Cp u q g1 g2 g3 g4 g5 g6 g7 W (((((((W5.setCell ⟨u, 0, none⟩ (.int .i64 g1)).setCell ⟨u, 1, none⟩ (.int .i64 g2)).setCell ⟨u, 2, none⟩ (.int .i64 g3)).setCell ⟨u, 3, none⟩ (.int .i64 g4)).setCell ⟨u, 4, none⟩ (.int .i64 g5)).setCell ⟨q, 0, none⟩ (.int .i64 g6)).setCell ⟨q, 1, none⟩ (.int .i64 g7)) := by
  have k5 : Kp [u] W5 (((((W5.setCell ⟨u, 0, none⟩ (.int .i64 g1)).setCell ⟨u, 1, none⟩ (.int .i64 g2)).setCell ⟨u, 2, none⟩ (.int .i64 g3)).setCell ⟨u, 3, none⟩ (.int .i64 g4)).setCell ⟨u, 4, none⟩ (.int .i64 g5)) := kp_put5 (Kp.refl [u] W5) (.inl (by simp)) _ _ _ _ _
  have hne : q ≠ u := hp.bx.apart hq.bx (by decide)
  exact ⟨(bk_put5 hq.bx _ _ _ _ _).kept (kp_two _ _) (by simpa using hne.symm), bk2 (hp.bx.kept k5 (by simpa using hne)), kp_put2 (kp_put5 h (.inr hq.nw) _ _ _ _ _) hp.nw _ _⟩
theorem BoxP.ne {W : World} {q : Nat} {wx : World} (h : BoxP W q wx) : ¬ q = wx.heap.size ∧ ¬ wx.heap.size = q := by have := h.bx.lt; omega
theorem BoxQ.ne {W : World} {q : Nat} {wx : World} (h : BoxQ W q wx) : ¬ q = wx.heap.size ∧ ¬ wx.heap.size = q := by have := h.bx.lt; omega
/-- The place's box alone. -/
structure Fp (q : Nat) (g6 g7 : Int) (W wx : World) : Prop where
  cq : Bk wx q 40 [.int .i64 g6, .int .i64 g7]
  kp : Kp [] W wx
theorem Fp.rel {q : Nat} {g6 g7 : Int} {W wx : World} (h : Fp q g6 g7 W wx) : (wx.cell? ⟨q, 0, none⟩ = some (.int .i64 g6) ∧ wx.cell? ⟨q, 1, none⟩ = some (.int .i64 g7)) ∧ Kp [] W wx := ⟨⟨h.cq.cell rfl, h.cq.cell rfl⟩, h.kp⟩
theorem fpA {W W5 : World} {g6 g7 : Int} (h : Kp [] W W5) : Fp W5.heap.size g6 g7 W (W5.alloc (.cells #[.int .i64 g6, .int .i64 g7] 40)) := ⟨Bk.new W5 _ _, h.alloc _⟩
theorem fpB {W W5 : World} {q : Nat} {g6 g7 : Int} (h : Kp [] W W5) (hp : BoxP W q W5) : Fp q g6 g7 W ((W5.setCell ⟨q, 0, none⟩ (.int .i64 g6)).setCell ⟨q, 1, none⟩ (.int .i64 g7)) := ⟨bk2 hp.bx, kp_put2 h hp.nw _ _⟩
end Go.Proofs.Ytjjgjgncnifjmaa
