/- A sorted row, whatever its things' cells: what the library's sort leaves of a slice that is ours. -/
import Derived.Test.YtlallciikcmjmaaKRow
import Derived.Shelf.SlSortCmp.NoneTotal
namespace Go.Proofs.Ytlallciikcmjmaa.Gr
open Go.RowKit
set_option linter.unusedVariables false
variable {α : Type} {T : TypeId} {sz : Nat} {E : Enc α T sz}
theorem rows_at [Inhabited α] (hz : 0 < sz) (L : List α) (t : Nat) (h : t < L.length * sz) : (rows E L)[t]? = some (E.vals L.toArray[t / sz]!)[t % sz]! := by
  have h1 : t / sz < L.length := (Nat.div_lt_iff_lt_mul hz).2 h
  have h2 : t % sz < sz := Nat.mod_lt _ hz
  have h3 := rows_get (E := E) (L := L) (i := t / sz) (j := t % sz) (x := L[t / sz]) (List.getElem?_eq_getElem h1) h2
  rw [Nat.div_add_mod' t sz] at h3
  have h4 : t % sz < (E.vals L[t / sz]).length := by rw [E.len]; exact h2
  rw [h3, List.getElem?_eq_getElem h4]
  have h5 : L.toArray[t / sz]! = L[t / sz] := by simp [h1]
  rw [h5]
  simp [h4]
theorem flat_rows [Inhabited α] (hz : 0 < sz) (L : List α) : Sort.flatK E.vals sz L.toArray = (rows E L).toArray := by
  apply Array.ext_getElem?
  intro t
  by_cases h : t < L.length * sz
  · have h1 : t < (Sort.flatK E.vals sz L.toArray).size := by simpa using h
    have e := Sort.get_flatK E.vals sz L.toArray t (by simpa using h)
    rw [getElem!_pos _ t h1] at e
    rw [Array.getElem?_eq_getElem h1, e, List.getElem?_toArray, rows_at hz L t h]
  · rw [Array.getElem?_eq_none (by simp; omega), List.getElem?_toArray, List.getElem?_eq_none (by rw [rows_len]; omega)]
theorem putCells_rows {cur : Array Value} {L : List α} (h : L.length * sz ≤ cur.size) : (Sort.putCells id 0 (rows E L).toArray cur).toList.take (L.length * sz) = rows E L := by
  have hl := rows_len (E := E) L
  apply List.ext_getElem?
  intro t
  rw [List.getElem?_take]
  by_cases ht : t < L.length * sz
  · rw [if_pos ht, Array.getElem?_toList]
    unfold Sort.putCells
    rw [Array.getElem?_mapIdx, Array.getElem?_eq_getElem (by omega), Option.map_some, if_pos ⟨by omega, by simp; omega⟩]
    have h2 : t < (rows E L).length := by omega
    simp [h2]
  · rw [if_neg ht, List.getElem?_eq_none (by omega)]
/-- The slice that a row lies at, with its cells, sorted. -/
theorem sorted_world [Inhabited α] (hz : 0 < sz) {base : Nat} {w0 w : World} {g cap n : Nat} {cur : Array Value} {L M : List α} {os : Array Obj} (hl : M.length = L.length) (hg : w.heap[g]? = some (.cells cur T (0, 0))) (hc : L.length ≤ cap) (hm : cap ≤ maxLen) (hs : cur.size = cap * sz) (hb : base ≤ g) (hb0 : w0.heap.size ≤ g) (K : Kp [] w0 w) :
    Rw E base (sortWorldK E.vals sz w g 0 n M.toArray os) (.slice (some ⟨g, 0, none⟩) L.length cap) M ∧ Kp [] w0 (sortWorldK E.vals sz w g 0 n M.toArray os) := by
  have hlt := (Array.getElem?_eq_some_iff.1 hg).1
  have e1 : (Sort.putRowK E.vals sz (Sort.ahead w n) g 0 M.toArray).heap[g]? = some (.cells (Sort.putCells id 0 (rows E M).toArray cur) T (0, 0)) := by
    unfold Sort.putRowK Sort.putRow Sort.mapBlock
    rw [flat_rows hz]
    show (w.heap.modify g _)[g]? = _
    rw [Array.getElem?_modify, if_pos rfl, hg]
    rfl
  have e3 : (Sort.putRowK E.vals sz (Sort.ahead w n) g 0 M.toArray).heap.size = w.heap.size := by
    unfold Sort.putRowK Sort.putRow Sort.mapBlock
    show (w.heap.modify g _).size = _
    simp
  have e2 : ∀ k, k ≠ g → (Sort.putRowK E.vals sz (Sort.ahead w n) g 0 M.toArray).heap[k]? = w.heap[k]? := fun k hk => by
    unfold Sort.putRowK Sort.putRow Sort.mapBlock
    show (w.heap.modify g _)[k]? = _
    rw [Array.getElem?_modify, if_neg (fun e => hk e.symm)]
  have hle : M.length * sz ≤ cur.size := by rw [hs, hl]; exact Nat.mul_le_mul_right _ hc
  constructor
  · refine ⟨rows_len M, .inr ⟨g, cap, Sort.putCells id 0 (rows E M).toArray cur, by rw [hl], hb, ?_, by omega, hm, ?_, putCells_rows hle⟩⟩
    · unfold sortWorldK
      rw [Sort.heap_grow_old _ _ (by omega), e1]
    · unfold Sort.putCells
      simp [hs]
  · refine ⟨K.os, K.tape, K.output, ?_, fun k hk _ => ?_⟩
    · unfold sortWorldK
      rw [Sort.size_grow, e3]
      have := K.size
      omega
    · unfold sortWorldK
      rw [Sort.heap_grow_old _ _ (by have := K.size; omega), e2 k (by omega), K.block k hk (by simp)]
theorem holds_rows [Inhabited α] (hz : 0 < sz) {w : World} {g : Nat} {cur : Array Value} {L : List α} (hg : w.heap[g]? = some (.cells cur T (0, 0))) (ht : cur.toList.take (L.length * sz) = rows E L) : Sort.HoldsK E.vals sz w g 0 L.toArray := by
  unfold Sort.HoldsK
  rw [flat_rows hz]
  intro j hj
  have hj' : j < L.length * sz := by simpa [rows_len] using hj
  have h2 : (rows E L)[j]? = cur[j]? := by rw [← ht, List.getElem?_take, if_pos hj', Array.getElem?_toList]
  have h3 : (rows E L)[j]? = some (rows E L).toArray[j]! := by
    have : j < (rows E L).length := by rw [rows_len]; exact hj'
    simp [this]
  rw [Nat.zero_add]
  refine ⟨?_, by simp [World.frozen?, hg]⟩
  simp only [World.cell?, hg]
  rw [← h2, h3]
  rfl
end Go.Proofs.Ytlallciikcmjmaa.Gr
