/- Those of so many numbers that are not gone, from a place on; bools as cells; 'make([]bool, n)'. -/
import Derived.Test.YthnpkojfkhndoaaKRow
import Derived.Test.YthnpkojfkhndoaaKArgs
namespace Go.Proofs.Ythnpkojfkhndoaa
open Go.RowKit
set_option linter.unusedVariables false
/-- Those from j on that are not gone. -/
def remN (G : Nat → Bool) (j n : Nat) : List Nat := (List.range n).filter fun i => decide (j ≤ i) && !G i
theorem remN_mem {G : Nat → Bool} {j n i : Nat} : i ∈ remN G j n ↔ i < n ∧ j ≤ i ∧ G i = false := by
  unfold remN
  rw [List.mem_filter, List.mem_range, Bool.and_eq_true, decide_eq_true_iff]
  simp
/-- One more gone. -/
def setG (G : Nat → Bool) (k : Nat) : Nat → Bool := fun i => if i = k then true else G i
theorem range_split {n j : Nat} (h : j ≤ n) : ∃ R, List.range n = List.range j ++ R ∧ ∀ i ∈ R, j ≤ i := by
  refine ⟨(List.range (n - j)).map (j + ·), ?_, fun i hi => ?_⟩
  · have e : n = j + (n - j) := by omega
    conv => lhs; rw [e]
    exact List.range_add
  · obtain ⟨k, _, rfl⟩ := List.mem_map.1 hi
    show j ≤ j + k
    omega
theorem remN_at {G : Nat → Bool} {n j : Nat} (h : j < n) : remN G j n = if G j = true then remN G (j + 1) n else j :: remN G (j + 1) n := by
  obtain ⟨R, hR, hge⟩ := range_split (n := n) (j := j + 1) (by omega)
  unfold remN
  rw [hR, List.range_succ, List.filter_append, List.filter_append, List.filter_append, List.filter_append]
  have z1 : (List.range j).filter (fun i => decide (j ≤ i) && !G i) = [] := List.filter_eq_nil_iff.2 fun i hi => by
    have := List.mem_range.1 hi
    simp; omega
  have z2 : (List.range j).filter (fun i => decide (j + 1 ≤ i) && !G i) = [] := List.filter_eq_nil_iff.2 fun i hi => by
    have := List.mem_range.1 hi
    simp; omega
  have z3 : [j].filter (fun i => decide (j + 1 ≤ i) && !G i) = [] := List.filter_eq_nil_iff.2 fun i hi => by
    rw [List.mem_singleton.1 hi, decide_eq_false (show ¬ j + 1 ≤ j by omega)]; simp
  have z4 : R.filter (fun i => decide (j ≤ i) && !G i) = R.filter (fun i => decide (j + 1 ≤ i) && !G i) := List.filter_congr fun i hi => by
    have := hge i hi
    rw [decide_eq_true this, decide_eq_true (show j ≤ i by omega)]
  rw [z1, z2, z3, z4]
  cases hg : G j <;> simp [hg]
/-- The bools as cells. -/
def bvL (G : Nat → Bool) (n : Nat) : List Value := (List.range n).map fun j : Nat => Value.bool (G j)
theorem bvL_get (G : Nat → Bool) {n j : Nat} (h : j < n) : (bvL G n)[j]? = some (.bool (G j)) := by unfold bvL; simp [h]
theorem bvL_len (G : Nat → Bool) (n : Nat) : (bvL G n).length = n := by unfold bvL; simp
theorem bvL_set (G : Nat → Bool) {n k : Nat} (h : k < n) : (bvL G n).set k (.bool true) = bvL (setG G k) n := by
  apply List.ext_getElem?
  intro j
  rw [List.getElem?_set]
  by_cases e : k = j
  · subst e
    rw [if_pos rfl, if_pos (by rw [bvL_len]; exact h), bvL_get _ h]
    unfold setG
    rw [if_pos rfl]
  · rw [if_neg e]
    by_cases hj : j < n
    · rw [bvL_get _ hj, bvL_get _ hj]
      unfold setG
      rw [if_neg (fun q => e q.symm)]
    · rw [List.getElem?_eq_none (by rw [bvL_len]; omega), List.getElem?_eq_none (by rw [bvL_len]; omega)]
theorem Try.infoBoolL : (Try.prog.info? 4).map (fun i => (i.zero, i.size, i.bytes)) = some (some (.bool false), 1, 1) := by kernel_rfl
theorem make_bools (c : Int) (n : Nat) (h : c = (n : Int)) (hn : n ≤ 100000) : ∃ C : Array Value, C.toList = bvL (fun _ => false) n ∧ ∀ w : World,
    Sem.run Try.prog (Instr.makeSlice 63 (.int .i64 c) (.int .i64 c)) w = .ok (.slice (some ⟨w.heap.size, 0, none⟩) n n) (w.alloc (.cells C 4)) := by
  subst h
  refine ⟨_, ?_, run_make_row' (P := Try.prog) 63 4 (.bool false) 1 Try.underlying63 Try.infoBoolL rfl .i64 .i64 n (by omega) (by omega)⟩
  rw [toList_madeCells_one]
  apply List.ext_getElem?
  intro j
  by_cases hj : j < n
  · rw [bvL_get _ hj, List.getElem?_replicate, if_pos hj]
  · rw [List.getElem?_eq_none (by simp; omega), List.getElem?_eq_none (by rw [bvL_len]; omega)]
theorem ints_l {w w' : World} {a : Option Addr} {zs : List Int} (h : Ints .i64 w a zs) (k : Kp [] w w') {j : Nat} (hj : j < zs.length) : ∃ b off, a = some ⟨b, off, none⟩ ∧ w'.cell? ⟨b, off + j, none⟩ = some (.int .i64 (zs.getD j 0)) := by
  obtain ⟨_, _, hz | ⟨b, off, rfl, hc⟩⟩ := h
  · omega
  · exact ⟨b, off, rfl, k.cell (hc j hj)⟩
theorem remN_end (G : Nat → Bool) (n : Nat) : remN G n n = [] := List.filter_eq_nil_iff.2 fun i hi => by
  have := List.mem_range.1 hi
  simp; omega
theorem remN_len (G : Nat → Bool) (j n : Nat) : (remN G j n).length ≤ n := by
  unfold remN
  have := List.length_filter_le (fun i => decide (j ≤ i) && !G i) (List.range n)
  rwa [List.length_range] at this
theorem remN_all (n : Nat) : remN (fun _ => false) 0 n = List.range n := by unfold remN; rw [List.filter_eq_self.2 (by simp)]
theorem remN_more (n : Nat) : remN (fun _ => false) 0 (n + 1) = remN (fun _ => false) 0 n ++ [n] := by rw [remN_all, remN_all, List.range_succ]
theorem remN_drop (G : Nat → Bool) (n k : Nat) : (remN G 0 n).filter (fun i => i != k) = remN (setG G k) 0 n := by
  unfold remN
  rw [List.filter_filter]
  refine List.filter_congr fun i _ => ?_
  unfold setG
  by_cases h : i = k
  · subst h; simp
  · rw [if_neg h]
    have e : (i != k) = true := bne_iff_ne.2 h
    rw [e]; simp
theorem remN_less {G : Nat → Bool} {n k : Nat} (hk : k < n) : decide ((remN (setG G k) 0 n).length < (remN G 0 n).length) = !G k := by
  rw [← remN_drop]
  cases h : G k with
  | true =>
    rw [List.filter_eq_self.2 (fun i hi => bne_iff_ne.2 (fun e => by have := (remN_mem.1 hi).2.2; rw [e, h] at this; cases this))]
    simp
  | false =>
    refine decide_eq_true (List.length_filter_lt_length_iff_exists.2 ⟨k, remN_mem.2 ⟨hk, Nat.zero_le _, h⟩, by simp⟩)
end Go.Proofs.Ythnpkojfkhndoaa
