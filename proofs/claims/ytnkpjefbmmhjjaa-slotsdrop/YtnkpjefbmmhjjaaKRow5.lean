/- SlotsDrop: a row of places, each below the one ahead. -/
import Derived.Test.YtnkpjefbmmhjjaaKTabIn
import Derived.Test.YtnkpjefbmmhjjaaKRefuse
import Derived.Deep.DeepCutAuto
import Derived.Deep.CutBlock
namespace Go.Proofs.Ytnkpjefbmmhjjaa
open Go.RowKit
set_option linter.unusedVariables false
/-- The slot of number i of the row. -/
def rsl (i : Nat) : Sl := ⟨3, (i : Int), if i = 0 then 0 else 3, if i = 0 then 0 else (i : Int) - 1, 3, 1 + (i : Int), 0, 0, 0⟩
def rowS (n : Nat) : List Sl := (List.range n).map rsl
def mvL (n a : Nat) : List Sl := moveL (rowS n) 3 a 2 5 a (rsl a)
def drL (n a : Nat) : List Sl := dropL (rowS n) 3 a a (rsl a)
def putB (i : Nat) : Bool := placeOk 3 i && (atL (rowS i) 3 i).isNone && chk 3 (1 + (i : Int)) 0 0 0 && (isN (rsl i).u (rsl i).v || (atL (rowS i) (rsl i).u (rsl i).v).isSome)
theorem putB_all : (List.range 16).all putB = true := by kernel_rfl
theorem row_put (i : Nat) (h : i < 16) : putP (rowS i) 3 i 3 (1 + (i : Int)) 0 0 0 (rsl i).u (rsl i).v := by
  have := List.all_eq_true.1 putB_all i (List.mem_range.2 h)
  unfold putB at this
  rw [Bool.and_eq_true, Bool.and_eq_true, Bool.and_eq_true, Bool.or_eq_true, Option.isNone_iff_eq_none] at this
  obtain ⟨⟨⟨p1, p2⟩, p3⟩, p4⟩ := this
  exact put_is p1 p2 p3 (p4.imp id (fun q e => by rw [e] at q; cases q))
theorem row_ins (i : Nat) (h : i < 16) : insL (rowS i) (rsl i) = rowS (i + 1) := by
  have hc : i = 0 ∨ i = 1 ∨ i = 2 ∨ i = 3 ∨ i = 4 ∨ i = 5 ∨ i = 6 ∨ i = 7 ∨ i = 8 ∨ i = 9 ∨ i = 10 ∨ i = 11 ∨ i = 12 ∨ i = 13 ∨ i = 14 ∨ i = 15 := by omega
  rcases hc with rfl | rfl | rfl | rfl | rfl | rfl | rfl | rfl | rfl | rfl | rfl | rfl | rfl | rfl | rfl | rfl <;> rfl
theorem row_ins' (i : Nat) (h : i < 16) {u v : Int} (hu : (rsl i).u = u) (hv : (rsl i).v = v) : insL (rowS i) ⟨3, (i : Int), u, v, 3, 1 + (i : Int), 0, 0, 0⟩ = rowS (i + 1) := by
  rw [← row_ins i h, ← hu, ← hv]; rfl
theorem rsl_up (j : Nat) : (rsl (j + 1)).u = 3 ∧ (rsl (j + 1)).v = (j : Int) := by unfold rsl; simp
theorem row_get (n a : Nat) (h : a < n) : (rowS n)[a]? = some (rsl a) := by unfold rowS; simp [h]
def factM (n a : Nat) : Bool := (atL (rowS n) 3 a == some a) && ((atL (rowS n) 2 5).isNone && (parB (rowS n) 3 a (rsl a).u (rsl a).v && (parB (mvL n a) 2 5 (rsl a).u (rsl a).v && ((a + 1 == n || parB (mvL n a) 3 ((a : Int) + 1) 2 5) && ((sel (lowF (mvL n a) 2 5) (mvL n a)).length == n - 1 - a && (sel (fun _ => true) (mvL n a)).length == n)))))
def factD (n a : Nat) : Bool := (atL (drL n a) 3 a).isNone && ((a + 1 == n || parB (drL n a) 3 ((a : Int) + 1) (rsl a).u (rsl a).v) && ((sel (fun _ => true) (drL n a)).length == n - 1 && (a == 0 || (sel (lowF (drL n a) 3 0) (drL n a)).length == n - 2)))
theorem fact_all : (List.range 16).all (fun n => (List.range n).all (fun a => n == 0 || n == 1 || (factM n a && factD n a))) = true := by kernel_rfl
theorem facts {n a : Nat} (h1 : 2 ≤ n) (h2 : n < 16) (ha : a < n) : factM n a = true ∧ factD n a = true := by
  have := List.all_eq_true.1 (List.all_eq_true.1 fact_all n (List.mem_range.2 h2)) a (List.mem_range.2 ha)
  have e1 : (n == 0) = false := beq_eq_false_iff_ne.2 (by omega)
  have e2 : (n == 1) = false := beq_eq_false_iff_ne.2 (by omega)
  rw [e1, e2] at this
  simpa using this
end Go.Proofs.Ytnkpjefbmmhjjaa
