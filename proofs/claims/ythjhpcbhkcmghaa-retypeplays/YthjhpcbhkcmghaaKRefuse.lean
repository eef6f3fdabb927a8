/- The walk of SlotsRefuse. -/
import Derived.Test.YthjhpcbhkcmghaaKLaw5
namespace Go.Proofs.Ythjhpcbhkcmghaa
open Go.RowKit
set_option linter.unusedVariables false
theorem pin_2 {n s : Int} (h1 : -9223372036854775808 ≤ n) (h2 : n ≤ 9223372036854775807) (h3 : -9223372036854775808 ≤ s) (h4 : s ≤ 9223372036854775807) : PIn (n, s) := ⟨in64_of h1 h2, in64_of h3 h4⟩
def one5 : List Sl := [⟨2, 3, 0, 0, 3, 4, 0, 0, 3⟩]
/-- The table, the three boxes, and what was there. -/
structure Rf (w : World) (t q : Nat) (m : Option Nat) (wx : World) : Prop where
  kp : Kp [] w wx
  tab : PT wx t m one5
  p : Bk wx (t + 1) 40 [.int .i64 2, .int .i64 3]
  c : Bk wx (t + 2) 38 [.int .i64 3, .int .i64 4, .int .i64 0, .int .i64 0, .int .i64 3]
  q : Bk wx q 40 [.int .i64 2, .int .i64 4]
theorem Rf.grew {w : World} {t q : Nat} {m : Option Nat} {wx wy : World} (h : Rf w t q m wx) (k : Kp [] wx wy) : Rf w t q m wy :=
  ⟨h.kp.then k, h.tab.grew k, h.p.kept k (by simp), h.c.kept k (by simp), h.q.kept k (by simp)⟩
theorem Rf.cells {w : World} {t q : Nat} {m : Option Nat} {wx : World} (h : Rf w t q m wx) : wx.cell? ⟨t + 1, 0, none⟩ = some (.int .i64 2) ∧ wx.cell? ⟨t + 1, 1, none⟩ = some (.int .i64 3) ∧ wx.cell? ⟨t + 2, 0, none⟩ = some (.int .i64 3) ∧ wx.cell? ⟨t + 2, 1, none⟩ = some (.int .i64 4) ∧ wx.cell? ⟨t + 2, 2, none⟩ = some (.int .i64 0) ∧ wx.cell? ⟨t + 2, 3, none⟩ = some (.int .i64 0) ∧ wx.cell? ⟨t + 2, 4, none⟩ = some (.int .i64 3) ∧ wx.cell? ⟨q, 0, none⟩ = some (.int .i64 2) ∧ wx.cell? ⟨q, 1, none⟩ = some (.int .i64 4) :=
  ⟨h.p.cell rfl, h.p.cell rfl, h.c.cell rfl, h.c.cell rfl, h.c.cell rfl, h.c.cell rfl, h.c.cell rfl, h.q.cell rfl, h.q.cell rfl⟩
theorem three_box (W : World) : PT (((W.alloc (.cells #[.map none] 27)).alloc (.cells #[.int .i64 2, .int .i64 3] 40)).alloc (.cells #[.int .i64 3, .int .i64 4, .int .i64 0, .int .i64 0, .int .i64 3] 38)) W.heap.size none [] ∧
    Bk (((W.alloc (.cells #[.map none] 27)).alloc (.cells #[.int .i64 2, .int .i64 3] 40)).alloc (.cells #[.int .i64 3, .int .i64 4, .int .i64 0, .int .i64 0, .int .i64 3] 38)) (W.heap.size + 1) 40 [.int .i64 2, .int .i64 3] ∧
    Bk (((W.alloc (.cells #[.map none] 27)).alloc (.cells #[.int .i64 2, .int .i64 3] 40)).alloc (.cells #[.int .i64 3, .int .i64 4, .int .i64 0, .int .i64 0, .int .i64 3] 38)) (W.heap.size + 2) 38 [.int .i64 3, .int .i64 4, .int .i64 0, .int .i64 0, .int .i64 3] ∧
    Kp [] W (((W.alloc (.cells #[.map none] 27)).alloc (.cells #[.int .i64 2, .int .i64 3] 40)).alloc (.cells #[.int .i64 3, .int .i64 4, .int .i64 0, .int .i64 0, .int .i64 3] 38)) :=
  ⟨(PT.new W).grew (((Kp.refl [] _).alloc _).alloc _), (Bk.next (p := W.heap.size + 1) _ _ [.int .i64 2, .int .i64 3] (by simp)).alloc _, Bk.next (p := W.heap.size + 2) _ _ [.int .i64 3, .int .i64 4, .int .i64 0, .int .i64 0, .int .i64 3] (by simp), (((Kp.refl [] W).alloc _).alloc _).alloc _⟩
theorem at_one {n s : Int} (h : ¬ (n = 2 ∧ s = 3)) : atL one5 n s = none := at_none_iff.2 fun x hx e => by
  unfold one5 at hx
  simp at hx
  rw [hx] at e
  exact h ⟨e.1.symm, e.2.symm⟩
end Go.Proofs.Ythjhpcbhkcmghaa
