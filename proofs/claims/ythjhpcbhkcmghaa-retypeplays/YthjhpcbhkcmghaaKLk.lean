/- What lies at a place, by the document's Get. -/
import Derived.Test.YthjhpcbhkcmghaaKTab
namespace Go.Proofs.Ythjhpcbhkcmghaa
open Go.RowKit
set_option linter.unusedVariables false
/-- What lies at a place of a list. -/
def lkS (L : List Sl) (n s : Int) : Option Sl := match atL L n s with | some i => L[i]? | none => none
theorem rget_lk {base x : Nat} {wr : World} {ra : Option Addr} {rc : Nat} {L : List Sl} (h : RT base wr x ra rc L) (n s : Int) :
    (lkS L n s = none ∧ Calls Try.prog 12 #[.pointer (some ⟨x, 0, none⟩), .agg #[.int .i64 n, .int .i64 s]] wr fun e w' => e = .returned (.tuple #[.agg #[.int .i64 0, .int .i64 0, .int .i64 0, .int .i64 0, .int .i64 0], .bool false]) ∧ Kp [] wr w') ∨
    ∃ y, lkS L n s = some y ∧ Calls Try.prog 12 #[.pointer (some ⟨x, 0, none⟩), .agg #[.int .i64 n, .int .i64 s]] wr fun e w' => e = .returned (.tuple #[.agg #[.int .i64 y.k, .int .i64 y.o, .int .i64 y.z, .int .i64 y.b, .int .i64 y.r], .bool true]) ∧ Kp [] wr w' := by
  unfold lkS
  cases ha : atL L n s with
  | none => exact .inl ⟨rfl, rget_no h n s ha⟩
  | some i =>
    obtain ⟨y, hy, _⟩ := atL_some ha
    exact .inr ⟨y, hy, rget_yes h n s ha hy⟩
theorem kp_put2 {w W : World} {q : Nat} (k : Kp [] w W) (h : w.heap.size ≤ q) (c d : Value) : Kp [] w ((W.setCell ⟨q, 0, none⟩ c).setCell ⟨q, 1, none⟩ d) := (k.setCell (p := ⟨q, 0, none⟩) (.inr h) _).setCell (p := ⟨q, 1, none⟩) (.inr h) _
theorem kp_put5 {S : List Nat} {w W : World} {q : Nat} (k : Kp S w W) (h : q ∈ S ∨ w.heap.size ≤ q) (c0 c1 c2 c3 c4 : Value) : Kp S w (((((W.setCell ⟨q, 0, none⟩ c0).setCell ⟨q, 1, none⟩ c1).setCell ⟨q, 2, none⟩ c2).setCell ⟨q, 3, none⟩ c3).setCell ⟨q, 4, none⟩ c4) :=
  ((((k.setCell (p := ⟨q, 0, none⟩) h _).setCell (p := ⟨q, 1, none⟩) h _).setCell (p := ⟨q, 2, none⟩) h _).setCell (p := ⟨q, 3, none⟩) h _).setCell (p := ⟨q, 4, none⟩) h _
theorem bk_put5 {W : World} {q : Nat} {T : TypeId} {a0 a1 a2 a3 a4 : Value} (b : Bk W q T [a0, a1, a2, a3, a4]) (c0 c1 c2 c3 c4 : Value) : Bk (((((W.setCell ⟨q, 0, none⟩ c0).setCell ⟨q, 1, none⟩ c1).setCell ⟨q, 2, none⟩ c2).setCell ⟨q, 3, none⟩ c3).setCell ⟨q, 4, none⟩ c4) q T [c0, c1, c2, c3, c4] := ((((b.set 0 c0).set 1 c1).set 2 c2).set 3 c3).set 4 c4
end Go.Proofs.Ythjhpcbhkcmghaa
