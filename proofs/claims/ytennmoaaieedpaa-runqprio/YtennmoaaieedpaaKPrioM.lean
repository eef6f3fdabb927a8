/- RunqPrio, reckoned: a row of threads with their priorities, one of them set to another. -/
import Derived.Test.YtennmoaaieedpaaKRndM
namespace Go.Proofs.Ytennmoaaieedpaa
open Go.RowKit
set_option linter.unusedVariables false
def prQ (p : Nat → Int) (n : Nat) : List (Int × Int) := (List.range n).map fun j : Nat => (10 + (j : Int), p j)
theorem prQ_succ (p : Nat → Int) (n : Nat) : prQ p (n + 1) = prQ p n ++ [(10 + (n : Int), p n)] := by unfold prQ; rw [List.range_succ, List.map_append]; rfl
theorem prQ_mem {p : Nat → Int} {n : Nat} {x : Int × Int} : x ∈ prQ p n ↔ ∃ j, j < n ∧ x = (10 + (j : Int), p j) := by
  unfold prQ
  rw [List.mem_map]
  constructor
  · rintro ⟨j, hj, rfl⟩; exact ⟨j, List.mem_range.1 hj, rfl⟩
  · rintro ⟨j, hj, rfl⟩; exact ⟨j, List.mem_range.2 hj, rfl⟩
theorem prQ_len (p : Nat → Int) (n : Nat) : (prQ p n).length = n := by unfold prQ; simp
theorem prQ_add {p : Nat → Int} {n : Nat} (hp : 0 ≤ p n ∧ p n < 8) : qAdd (prQ p n) (10 + (n : Int)) (p n) = some (prQ p (n + 1)) := by
  rw [prQ_succ]
  refine qAdd_new (fun x hx => ?_) hp
  obtain ⟨j, hj, rfl⟩ := prQ_mem.1 hx
  simp only
  omega
theorem prQ_nd (p : Nat → Int) (n : Nat) : ((prQ p n).map (·.1)).Nodup := by
  unfold prQ
  rw [List.map_map, List.nodup_iff_pairwise_ne, List.pairwise_map]
  refine List.Pairwise.imp_of_mem ?_ (List.nodup_range (n := n))
  intro a b _ _ hab e
  simp only [Function.comp] at e
  omega
theorem prQ_prio (p : Nat → Int) {n k : Nat} (hk : k < n) : qPr (prQ p n) (10 + (k : Int)) = some (p k) := by
  have hm : (10 + (k : Int), p k) ∈ prQ p n := prQ_mem.2 ⟨k, hk, rfl⟩
  cases e : qPr (prQ p n) (10 + (k : Int)) with
  | none => exact (qAt_none (qPr_none e) _ hm).elim
  | some z =>
    obtain ⟨i, _, hi⟩ := qPr_some e
    rw [q_one (prQ_nd p n) (List.mem_of_getElem? hi) hm]
/-- The priorities with one set. -/
def setP (p : Nat → Int) (k : Nat) (z : Int) : Nat → Int := fun j => if j = k then z else p j
/-- The queue behind the setting. -/
def aftQ (p : Nat → Int) (n k : Nat) (z : Int) : List (Int × Int) := if p k = z then prQ p n else qDel (prQ p n) (10 + (k : Int)) ++ [(10 + (k : Int), z)]
theorem aftQ_set {p : Nat → Int} {n k : Nat} (hk : k < n) {z : Int} (hz : 0 ≤ z ∧ z < 8) : qSet (prQ p n) (10 + (k : Int)) z = some (aftQ p n k z) := by
  unfold qSet aftQ
  rw [prQ_prio p hk]
  simp only
  rw [if_pos hz]
  split <;> rfl
theorem aftQ_mem {p : Nat → Int} {n k : Nat} (hk : k < n) {z : Int} {x : Int × Int} : x ∈ aftQ p n k z ↔ ∃ j, j < n ∧ x = (10 + (j : Int), setP p k z j) := by
  unfold aftQ setP
  by_cases h : p k = z
  · rw [if_pos h, prQ_mem]
    constructor
    · rintro ⟨j, hj, rfl⟩
      refine ⟨j, hj, ?_⟩
      by_cases e : j = k
      · subst e; rw [if_pos rfl, h]
      · rw [if_neg e]
    · rintro ⟨j, hj, rfl⟩
      refine ⟨j, hj, ?_⟩
      by_cases e : j = k
      · subst e; rw [if_pos rfl, h]
      · rw [if_neg e]
  · rw [if_neg h, List.mem_append]
    unfold qDel
    rw [List.mem_filter, prQ_mem, List.mem_singleton]
    constructor
    · rintro (⟨⟨j, hj, rfl⟩, h2⟩ | rfl)
      · refine ⟨j, hj, ?_⟩
        rw [if_neg]
        rintro rfl
        simp at h2
      · exact ⟨k, hk, by rw [if_pos rfl]⟩
    · rintro ⟨j, hj, rfl⟩
      by_cases e : j = k
      · subst e; rw [if_pos rfl]; exact .inr rfl
      · rw [if_neg e]
        refine .inl ⟨⟨j, hj, rfl⟩, ?_⟩
        simp only [bne_iff_ne, ne_eq]
        omega
/-- The greatest of the first ones, at least 0. -/
def mxP (p : Nat → Int) : Nat → Int
  | 0 => 0
  | n + 1 => max (mxP p n) (p n)
theorem mxP_ge (p : Nat → Int) (n : Nat) : 0 ≤ mxP p n ∧ ∀ j, j < n → p j ≤ mxP p n := by
  induction n with
  | zero => exact ⟨Int.le_refl _, fun j hj => by omega⟩
  | succ n ih =>
    obtain ⟨h1, h2⟩ := ih
    refine ⟨by unfold mxP; omega, fun j hj => ?_⟩
    by_cases e : j = n
    · subst e; unfold mxP; omega
    · have := h2 j (by omega); unfold mxP; omega
theorem mxP_at (p : Nat → Int) (n : Nat) : mxP p n = 0 ∨ ∃ j, j < n ∧ p j = mxP p n := by
  induction n with
  | zero => exact .inl rfl
  | succ n ih =>
    by_cases h : mxP p n ≤ p n
    · exact .inr ⟨n, by omega, by unfold mxP; omega⟩
    · rcases ih with e | ⟨j, hj, e⟩
      · exact .inl (by unfold mxP; omega)
      · exact .inr ⟨j, by omega, by unfold mxP; omega⟩
theorem aftQ_most {p : Nat → Int} {n k : Nat} (hk : k < n) {z : Int} (hp : ∀ j, j < n → 0 ≤ setP p k z j) : qMost (aftQ p n k z) = mxP (setP p k z) n := by
  obtain ⟨h1, h2⟩ := mxP_ge (setP p k z) n
  have hat : ∃ j, j < n ∧ setP p k z j = mxP (setP p k z) n := by
    rcases mxP_at (setP p k z) n with e | h
    · exact ⟨k, hk, by have := h2 k hk; have := hp k hk; omega⟩
    · exact h
  obtain ⟨j, hj, e⟩ := hat
  refine qMost_of (t := 10 + (j : Int)) ((aftQ_mem hk).2 ⟨j, hj, by rw [e]⟩) (fun x hx => ?_) (by omega)
  obtain ⟨i, hi, rfl⟩ := (aftQ_mem hk).1 hx
  exact h2 i hi
/-- Those that are wanted among the first ones. -/
def wantP (p' : Nat → Int) (m : Int) (k : Nat) (same : Bool) (i : Nat) : List Int := ((List.range i).filter fun j => p' j == m && (j != k || same)).map fun j : Nat => 10 + (j : Int)
theorem wantP_yes {p' : Nat → Int} {m : Int} {k : Nat} {same : Bool} {i : Nat} (h : (p' i == m && (i != k || same)) = true) : wantP p' m k same (i + 1) = wantP p' m k same i ++ [10 + (i : Int)] := by
  unfold wantP
  rw [List.range_succ, List.filter_append, List.map_append, List.filter_cons_of_pos (by simpa using h)]
  rfl
theorem wantP_no {p' : Nat → Int} {m : Int} {k : Nat} {same : Bool} {i : Nat} (h : (p' i == m && (i != k || same)) = false) : wantP p' m k same (i + 1) = wantP p' m k same i := by
  unfold wantP
  rw [List.range_succ, List.filter_append, List.map_append, List.filter_cons_of_neg (by simpa using h)]
  simp
theorem wantP_len (p' : Nat → Int) (m : Int) (k : Nat) (same : Bool) (i : Nat) : (wantP p' m k same i).length ≤ i := by
  unfold wantP
  rw [List.length_map]
  have := List.length_filter_le (fun j => p' j == m && (j != k || same)) (List.range i)
  simpa using this
def endP (p : Nat → Int) (n k : Nat) (z : Int) : List Int := wantP (setP p k z) (mxP (setP p k z) n) k (p k == z) n ++ if z = mxP (setP p k z) n ∧ p k ≠ z then [10 + (k : Int)] else []
theorem endP_is {p : Nat → Int} {n k : Nat} (hk : k < n) {z : Int} (hp : ∀ j, j < n → 0 ≤ setP p k z j) : qReady (aftQ p n k z) = endP p n k z := by
  unfold qReady
  rw [aftQ_most hk hp]
  obtain ⟨m, hm⟩ : ∃ m, mxP (setP p k z) n = m := ⟨_, rfl⟩
  unfold endP wantP
  rw [hm]
  by_cases h : p k = z
  · have e : aftQ p n k z = prQ p n := if_pos h
    rw [e, if_neg (fun H => H.2 h), List.append_nil]
    unfold prQ qRow
    rw [List.filter_map, List.map_map]
    congr 1
    refine List.filter_congr fun j _ => ?_
    have e2 : setP p k z j = p j := by
      unfold setP
      by_cases e : j = k
      · subst e; rw [if_pos rfl, h]
      · rw [if_neg e]
    simp [e2, h]
  · have e : aftQ p n k z = qDel (prQ p n) (10 + (k : Int)) ++ [(10 + (k : Int), z)] := if_neg h
    rw [e, qRow_add]
    have e1 : qRow (qDel (prQ p n) (10 + (k : Int))) m = ((List.range n).filter fun j => setP p k z j == m && (j != k || p k == z)).map fun j : Nat => 10 + (j : Int) := by
      unfold prQ qRow qDel
      rw [List.filter_map, List.filter_map, List.map_map, List.filter_filter]
      congr 1
      refine List.filter_congr fun j _ => ?_
      have hz : (p k == z) = false := beq_eq_false_iff_ne.2 h
      by_cases e : j = k
      · subst e
        simp [hz]
      · have e2 : setP p k z j = p j := if_neg e
        have e3 : (10 + (j : Int) != 10 + (k : Int)) = true := by simp only [bne_iff_ne, ne_eq]; omega
        simp [e2, e, e3]
    rw [e1]
    by_cases hzm : z = m
    · rw [if_pos hzm, if_pos ⟨hzm, h⟩]
    · rw [if_neg hzm, if_neg (fun H => hzm H.1), List.append_nil]
end Go.Proofs.Ytennmoaaieedpaa
