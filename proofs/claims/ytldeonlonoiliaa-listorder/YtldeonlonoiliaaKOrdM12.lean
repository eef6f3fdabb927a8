/- ListOrder, reckoned: those that were put in, without those that were dropped, from a place on. -/
import Derived.Test.YtldeonlonoiliaaKLsIn
import Derived.Test.YtldeonlonoiliaaKArgs
namespace Go.Proofs.Ytldeonlonoiliaa
open Go.RowKit
set_option linter.unusedVariables false
/-- Number i's ID. -/
def oid (i : Nat) : Int × Int := ((i : Int) % 3, (i : Int))
theorem oid_inj {i k : Nat} (h : oid i = oid k) : i = k := by
  have := congrArg Prod.snd h
  simp only [oid] at this
  omega
theorem oid_in {i : Nat} (h : i < 100) : IdIn (oid i) := idIn_of (by omega) (by omega)
/-- Those from j on that are not gone. -/
def remN (G : Nat → Bool) (j n : Nat) : List Nat := (List.range n).filter fun i => decide (j ≤ i) && !G i
def remL (G : Nat → Bool) (j n : Nat) : List (Int × Int) := (remN G j n).map oid
theorem remN_mem {G : Nat → Bool} {j n i : Nat} : i ∈ remN G j n ↔ i < n ∧ j ≤ i ∧ G i = false := by
  unfold remN
  rw [List.mem_filter, List.mem_range, Bool.and_eq_true, decide_eq_true_iff]
  simp
theorem remL_mem {G : Nat → Bool} {j n i : Nat} : oid i ∈ remL G j n ↔ i < n ∧ j ≤ i ∧ G i = false := by
  unfold remL
  rw [List.mem_map]
  constructor
  · rintro ⟨k, hk, e⟩
    rw [← oid_inj e]
    exact remN_mem.1 hk
  · intro h
    exact ⟨i, remN_mem.2 h, rfl⟩
theorem remL_len (G : Nat → Bool) (j n : Nat) : (remL G j n).length ≤ n := by
  unfold remL remN
  rw [List.length_map]
  have := List.length_filter_le (fun i => decide (j ≤ i) && !G i) (List.range n)
  rwa [List.length_range] at this
/-- All that were put in so far. -/
def allL (n : Nat) : List (Int × Int) := (List.range n).map oid
theorem allL_succ (n : Nat) : allL (n + 1) = allL n ++ [oid n] := by unfold allL; rw [List.range_succ, List.map_append]; rfl
theorem allL_len (n : Nat) : (allL n).length = n := by unfold allL; simp
theorem allL_new (n : Nat) : oid n ∉ allL n := by
  unfold allL
  intro h
  obtain ⟨k, hk, e⟩ := List.mem_map.1 h
  have := List.mem_range.1 hk
  have := oid_inj e
  omega
theorem allL_push (n : Nat) : lPush (allL n) (oid n) = allL (n + 1) := by rw [lPush_yes (allL_new n), allL_succ]
theorem allL_rem (n : Nat) : allL n = remL (fun _ => false) 0 n := by
  unfold allL remL remN
  rw [List.filter_eq_self.2 (by simp)]
/-- One more gone. -/
def setG (G : Nat → Bool) (k : Nat) : Nat → Bool := fun i => if i = k then true else G i
theorem remL_drop (G : Nat → Bool) (n k : Nat) : lDel (remL G 0 n) (oid k) = remL (setG G k) 0 n := by
  unfold lDel remL
  rw [List.filter_map]
  congr 1
  unfold remN
  rw [List.filter_filter]
  refine List.filter_congr fun i _ => ?_
  unfold setG
  by_cases h : i = k
  · subst h
    have e : (oid i != oid i) = false := by simp
    simp only [Function.comp, if_pos]
    rw [e]
    simp
  · have e : (oid i != oid k) = true := bne_iff_ne.2 fun q => h (oid_inj q)
    simp only [Function.comp, if_neg h]
    rw [e]
    simp
theorem remL_has {G : Nat → Bool} {n k : Nat} (hk : k < n) : lHas (remL G 0 n) (oid k) = !G k := by
  cases h : G k with
  | true => exact lHas_no fun q => by have := (remL_mem.1 q).2.2; rw [h] at this; cases this
  | false => exact lHas_yes (remL_mem.2 ⟨hk, Nat.zero_le _, h⟩)
theorem range_split {n j : Nat} (h : j ≤ n) : ∃ R, List.range n = List.range j ++ R ∧ ∀ i ∈ R, j ≤ i := by
  refine ⟨(List.range (n - j)).map (j + ·), ?_, fun i hi => ?_⟩
  · have e : n = j + (n - j) := by omega
    conv => lhs; rw [e]
    exact List.range_add
  · obtain ⟨k, _, rfl⟩ := List.mem_map.1 hi
    show j ≤ j + k
    omega
theorem remN_at {G : Nat → Bool} {n j : Nat} (h : j < n) : remN G j n = if G j = true then remN G (j + 1) n else j :: remN G (j + 1) n := by
  obtain ⟨R, hR, hge⟩ := range_split (n := n) (j := j + 1) (by omega)
  unfold remN
  rw [hR, List.range_succ, List.filter_append, List.filter_append, List.filter_append, List.filter_append]
  have z1 : (List.range j).filter (fun i => decide (j ≤ i) && !G i) = [] := List.filter_eq_nil_iff.2 fun i hi => by
    have := List.mem_range.1 hi
    simp; omega
  have z2 : (List.range j).filter (fun i => decide (j + 1 ≤ i) && !G i) = [] := List.filter_eq_nil_iff.2 fun i hi => by
    have := List.mem_range.1 hi
    simp; omega
  have z3 : [j].filter (fun i => decide (j + 1 ≤ i) && !G i) = [] := List.filter_eq_nil_iff.2 fun i hi => by
    rw [List.mem_singleton.1 hi, decide_eq_false (show ¬ j + 1 ≤ j by omega)]; simp
  have z4 : R.filter (fun i => decide (j ≤ i) && !G i) = R.filter (fun i => decide (j + 1 ≤ i) && !G i) := List.filter_congr fun i hi => by
    have := hge i hi
    rw [decide_eq_true this, decide_eq_true (show j ≤ i by omega)]
  rw [z1, z2, z3, z4]
  cases hg : G j <;> simp [hg]
theorem remL_gone {G : Nat → Bool} {n j : Nat} (h : j < n) (hg : G j = true) : remL G j n = remL G (j + 1) n := by unfold remL; rw [remN_at h, if_pos hg]
theorem remL_here {G : Nat → Bool} {n j : Nat} (h : j < n) (hg : G j = false) : remL G j n = oid j :: remL G (j + 1) n := by unfold remL; rw [remN_at h, if_neg (by simp [hg])]; rfl
theorem remL_end (G : Nat → Bool) (n : Nat) : remL G n n = [] := by
  unfold remL
  have : remN G n n = [] := List.filter_eq_nil_iff.2 fun i hi => by
    have := List.mem_range.1 hi
    simp; omega
  rw [this]
  rfl
/-- The bools as cells. -/
def bvL (G : Nat → Bool) (n : Nat) : List Value := (List.range n).map fun j : Nat => Value.bool (G j)
theorem bvL_get (G : Nat → Bool) {n j : Nat} (h : j < n) : (bvL G n)[j]? = some (.bool (G j)) := by unfold bvL; simp [h]
theorem bvL_len (G : Nat → Bool) (n : Nat) : (bvL G n).length = n := by unfold bvL; simp
theorem bvL_set (G : Nat → Bool) {n k : Nat} (h : k < n) : (bvL G n).set k (.bool true) = bvL (setG G k) n := by
  apply List.ext_getElem?
  intro j
  rw [List.getElem?_set]
  by_cases e : k = j
  · subst e
    rw [if_pos rfl, if_pos (by rw [bvL_len]; exact h), bvL_get _ h]
    unfold setG
    rw [if_pos rfl]
  · rw [if_neg e]
    by_cases hj : j < n
    · rw [bvL_get _ hj, bvL_get _ hj]
      unfold setG
      rw [if_neg (fun q => e q.symm)]
    · rw [List.getElem?_eq_none (by rw [bvL_len]; omega), List.getElem?_eq_none (by rw [bvL_len]; omega)]
theorem Try.infoBoolL : (Try.prog.info? 4).map (fun i => (i.zero, i.size, i.bytes)) = some (some (.bool false), 1, 1) := by kernel_rfl
theorem make_bools (c : Int) (n : Nat) (h : c = (n : Int)) (hn : n ≤ 100000) : ∃ C : Array Value, C.toList = bvL (fun _ => false) n ∧ ∀ w : World,
    Sem.run Try.prog (Instr.makeSlice 43 (.int .i64 c) (.int .i64 c)) w = .ok (.slice (some ⟨w.heap.size, 0, none⟩) n n) (w.alloc (.cells C 4)) := by
  subst h
  refine ⟨_, ?_, run_make_row' (P := Try.prog) 43 4 (.bool false) 1 Try.underlying43 Try.infoBoolL rfl .i64 .i64 n (by omega) (by omega)⟩
  rw [toList_madeCells_one]
  apply List.ext_getElem?
  intro j
  by_cases hj : j < n
  · rw [bvL_get _ hj, List.getElem?_replicate, if_pos hj]
  · rw [List.getElem?_eq_none (by simp; omega), List.getElem?_eq_none (by rw [bvL_len]; omega)]
theorem ints_l {w w' : World} {a : Option Addr} {zs : List Int} (h : Ints .i64 w a zs) (k : Kp [] w w') {j : Nat} (hj : j < zs.length) : ∃ b off, a = some ⟨b, off, none⟩ ∧ w'.cell? ⟨b, off + j, none⟩ = some (.int .i64 (zs.getD j 0)) := by
  obtain ⟨_, _, hz | ⟨b, off, rfl, hc⟩⟩ := h
  · omega
  · exact ⟨b, off, rfl, k.cell (hc j hj)⟩
end Go.Proofs.Ytldeonlonoiliaa
