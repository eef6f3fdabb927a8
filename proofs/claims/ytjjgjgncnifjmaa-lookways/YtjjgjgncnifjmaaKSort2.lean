/- The sort of places, whole. -/
import Derived.Test.YtjjgjgncnifjmaaKSort
import Derived.Test.YtjjgjgncnifjmaaKRises
namespace Go.Proofs.Ytjjgjgncnifjmaa
open Go.RowKit
set_option linter.unusedVariables false
theorem ltP (x y : Int × Int) : ltOf cfP x y = before x.1 x.2 y.1 y.2 := by
  refine Bool.eq_iff_iff.2 ?_
  rw [before_iff]
  unfold ltOf cfP orI Lib.compareInt beforeP
  rw [decide_eq_true_iff]
  by_cases h1 : x.1 < y.1
  · simp [h1]
  · by_cases h2 : x.1 > y.1
    · simp [h1, h2]; omega
    · have e : x.1 = y.1 := by omega
      by_cases h3 : x.2 < y.2
      · simp [h3, e]
      · by_cases h4 : x.2 > y.2 <;> simp [h3, h4, e]
theorem ltP_iff (x y : Int × Int) : ltOf cfP x y = true ↔ beforeP x.1 x.2 y.1 y.2 := by rw [ltP, before_iff]
theorem ltP_no (x y : Int × Int) : ltOf cfP x y = false ↔ ¬ beforeP x.1 x.2 y.1 y.2 := by rw [← ltP_iff]; simp
theorem swoP : Sort.SWO (ltOf cfP) :=
  ⟨fun x => by rw [ltP_no]; unfold beforeP; omega, fun x y z h1 h2 => by rw [ltP_iff] at *; unfold beforeP at *; omega, fun x y z h1 h2 => by rw [ltP_no] at *; unfold beforeP at *; omega⟩
theorem totP (x y : Int × Int) (h1 : ltOf cfP x y = false) (h2 : ltOf cfP y x = false) : x = y := by
  rw [ltP_no] at *
  unfold beforeP at *
  exact Prod.ext (by omega) (by omega)
/-- Places, rising. -/
def psort (ps : List (Int × Int)) : List (Int × Int) := ps.mergeSort fun x y => !(ltOf cfP) y x
theorem psort_perm (ps : List (Int × Int)) : (psort ps).Perm ps := List.mergeSort_perm _ _
theorem psort_len (ps : List (Int × Int)) : (psort ps).length = ps.length := (psort_perm ps).length_eq
theorem psort_le (ps : List (Int × Int)) : (psort ps).Pairwise fun x y => ¬ beforeP y.1 y.2 x.1 x.2 := by
  have h := List.pairwise_mergeSort (le := fun x y => !(ltOf cfP) y x) (fun a b c h1 h2 => by
    simp only [Bool.not_eq_true'] at *
    rw [ltP_no] at *
    unfold beforeP at *
    omega) (fun a b => by
    rw [Bool.or_eq_true, Bool.not_eq_true', Bool.not_eq_true', ltP_no, ltP_no]
    unfold beforeP
    omega) ps
  refine h.imp ?_
  intro a b hab
  simp only [Bool.not_eq_true'] at hab
  rw [ltP_no] at hab
  exact hab
/-- What is sorted is the rising list of the same places. -/
theorem psort_is {ps qs : List (Int × Int)} (h : ps.Perm qs) (hq : Rises qs) : psort ps = qs := rises_unique ((psort_perm ps).trans h) (psort_le ps) hq.le
def encP (q : Int × Int) : List Value := [.int .i64 q.1, .int .i64 q.2]
theorem prow_at (ps : List (Int × Int)) (t : Nat) (h : t < ps.length * 2) : (prow ps)[t]? = some (encP ps.toArray[t / 2]!)[t % 2]! := by
  induction ps generalizing t with
  | nil => simp at h
  | cons x ps ih =>
    have e : prow (x :: ps) = encP x ++ prow ps := by unfold prow; rw [List.flatMap_cons]; rfl
    rw [e]
    match t, h with
    | 0, _ => rfl
    | 1, _ => rfl
    | t + 2, h =>
      have h' : t < ps.length * 2 := by simp at h; omega
      rw [List.getElem?_append_right (by show 2 ≤ t + 2; omega)]
      have e1 : t + 2 - (encP x).length = t := rfl
      rw [e1, ih t h']
      have e2 : (t + 2) / 2 = t / 2 + 1 := by omega
      have e3 : (t + 2) % 2 = t % 2 := by omega
      have e4 : t / 2 < ps.length := by omega
      rw [e2, e3]
      simp [e4]
theorem flat_prow (ps : List (Int × Int)) : Sort.flatK encP 2 ps.toArray = (prow ps).toArray := by
  apply Array.ext_getElem?
  intro t
  by_cases h : t < ps.length * 2
  · have h1 : t < (Sort.flatK encP 2 ps.toArray).size := by simpa using h
    have e := Sort.get_flatK encP 2 ps.toArray t (by simpa using h)
    rw [getElem!_pos _ t h1] at e
    rw [Array.getElem?_eq_getElem h1, e, List.getElem?_toArray, prow_at ps t h]
  · rw [Array.getElem?_eq_none (by simp; omega), List.getElem?_toArray, List.getElem?_eq_none (by rw [prow_len]; omega)]
theorem putCells_prow {cur : Array Value} {ps : List (Int × Int)} (h : ps.length * 2 ≤ cur.size) : (Sort.putCells id 0 (prow ps).toArray cur).toList.take (ps.length * 2) = prow ps := by
  have hl := prow_len ps
  apply List.ext_getElem?
  intro t
  rw [List.getElem?_take]
  by_cases ht : t < ps.length * 2
  · rw [if_pos ht, Array.getElem?_toList]
    unfold Sort.putCells
    rw [Array.getElem?_mapIdx, Array.getElem?_eq_getElem (by omega), Option.map_some, if_pos ⟨by omega, by simp; omega⟩]
    have h2 : t < (prow ps).length := by omega
    simp [h2]
  · rw [if_neg ht, List.getElem?_eq_none (by omega)]
/-- The place that a list of places lies at, with its cells, sorted. -/
theorem sorted_world {w0 w : World} {g cap n : Nat} {cur : Array Value} {ps qs : List (Int × Int)} {os : Array Obj} (hl : qs.length = ps.length) (hg : w.heap[g]? = some (.cells cur 40 (0, 0))) (hc : ps.length ≤ cap) (hm : cap ≤ maxLen) (hs : cur.size = cap * 2) (hb : w0.heap.size ≤ g) (K : Kp [] w0 w) :
    Pl w0.heap.size (sortWorldK encP 2 w g 0 n qs.toArray os) (.slice (some ⟨g, 0, none⟩) ps.length cap) qs ∧ Kp [] w0 (sortWorldK encP 2 w g 0 n qs.toArray os) := by
  have hlt := (Array.getElem?_eq_some_iff.1 hg).1
  have e1 : (Sort.putRowK encP 2 (Sort.ahead w n) g 0 qs.toArray).heap[g]? = some (.cells (Sort.putCells id 0 (prow qs).toArray cur) 40 (0, 0)) := by
    unfold Sort.putRowK Sort.putRow Sort.mapBlock
    rw [flat_prow]
    show (w.heap.modify g _)[g]? = _
    rw [Array.getElem?_modify, if_pos rfl, hg]
    rfl
  have e3 : (Sort.putRowK encP 2 (Sort.ahead w n) g 0 qs.toArray).heap.size = w.heap.size := by
    unfold Sort.putRowK Sort.putRow Sort.mapBlock
    show (w.heap.modify g _).size = _
    simp
  have e2 : ∀ k, k ≠ g → (Sort.putRowK encP 2 (Sort.ahead w n) g 0 qs.toArray).heap[k]? = w.heap[k]? := fun k hk => by
    unfold Sort.putRowK Sort.putRow Sort.mapBlock
    show (w.heap.modify g _)[k]? = _
    rw [Array.getElem?_modify, if_neg (fun e => hk e.symm)]
  constructor
  · refine ⟨prow_len qs, .inr ⟨g, cap, Sort.putCells id 0 (prow qs).toArray cur, by rw [hl], hb, ?_, by omega, hm, ?_, putCells_prow (by omega)⟩⟩
    · unfold sortWorldK
      rw [Sort.heap_grow_old _ _ (by omega), e1]
    · unfold Sort.putCells
      simp [hs]
  · refine ⟨K.os, K.tape, K.output, ?_, fun k hk _ => ?_⟩
    · unfold sortWorldK
      rw [Sort.size_grow, e3]
      have := K.size
      omega
    · unfold sortWorldK
      rw [Sort.heap_grow_old _ _ (by have := K.size; omega), e2 k (by omega), K.block k hk (by simp)]
theorem holds_prow {w : World} {g : Nat} {cur : Array Value} {ps : List (Int × Int)} (hg : w.heap[g]? = some (.cells cur 40 (0, 0))) (ht : cur.toList.take (ps.length * 2) = prow ps) : Sort.HoldsK encP 2 w g 0 ps.toArray := by
  unfold Sort.HoldsK
  rw [flat_prow]
  intro j hj
  have hj' : j < ps.length * 2 := by simpa [prow_len] using hj
  have h2 : (prow ps)[j]? = cur[j]? := by rw [← ht, List.getElem?_take, if_pos hj', Array.getElem?_toList]
  have h3 : (prow ps)[j]? = some (prow ps).toArray[j]! := by
    have : j < (prow ps).length := by rw [prow_len]; exact hj'
    simp [this]
  rw [Nat.zero_add]
  refine ⟨?_, by simp [World.frozen?, hg]⟩
  simp only [World.cell?, hg]
  rw [← h2, h3]
  rfl
def SortP (w0 : World) (v : Value) (ps : List (Int × Int)) (e : Ending) (w' : World) : Prop := e = .returned (.tuple #[]) ∧ Pl w0.heap.size w' v (psort ps) ∧ Kp [] w0 w'
theorem gr_of {w w' : World} (h : Gr w w') : ∃ q os, w' = Sort.grow (w.drewN q) os := h
set_option maxHeartbeats 1000000 in
theorem sort_calls {w0 w : World} {v : Value} {ps : List (Int × Int)} (hP : Pl w0.heap.size w v ps) (K : Kp [] w0 w) (hs : ps.length ≤ 65536) :
    Calls Try.prog 48 #[v] w (SortP w0 v ps) := by
  rcases hP.2 with ⟨e, hz⟩ | ⟨g, cap, cur, e, hb, hg, h1, h2, h3, h4⟩
  · subst e
    have e0 : ps = [] := List.length_eq_zero_iff.1 hz
    subst e0
    have hcon := AnyF.slices_SortFunc_none Try.shSort none 0 (.func (.func 50) #[] #[]) w
    change Calls Try.prog 49 _ _ _ at hcon
    have K' := hide K
    clear K hP
    go_enter Try.func48, Try.ntmps48
    go_wp2_with fail
    refine hcon.mono ?_
    rintro e w' ⟨rfl, rfl⟩
    go_wp2
    go_end0
    exact ⟨rfl, by rw [show psort [] = [] from List.length_eq_zero_iff.1 (by rw [psort_len]; rfl)]; exact Pl.nil _ _, unhide K'⟩
  · subst e
    have eg : ∀ args w, (callFunc 50 args).run Try.prog w = .ok (.enter 50 args) w := enters_of Try.func50 (by kernel_rfl) rfl
    have hcon := AnyQ.slices_SortFunc_total Try.shSort 2 Try.isAgg40 Try.sizeOf40 encP (fun _ => rfl) (fun x v hv => by simp [encP] at hv; rcases hv with rfl | rfl <;> rfl) cfP swoP 50 #[] g 0 cap ps.toArray w eg (fun _ _ _ _ x y => (cmpP_calls x y _).mono fun _ _ h => ⟨h.1, gr_of h.2⟩) (holds_prow hg h4) (Array.getElem?_eq_some_iff.1 hg).1 (by simp; omega) totP
    change Calls Try.prog 49 _ _ _ at hcon
    have e1 : (ps.toArray).size = ps.length := by simp
    rw [e1] at hcon
    have hW : Hid (∀ n os, Pl w0.heap.size (sortWorldK encP 2 w g 0 n (psort ps).toArray os) (.slice (some ⟨g, 0, none⟩) ps.length cap) (psort ps) ∧ Kp [] w0 (sortWorldK encP 2 w g 0 n (psort ps).toArray os)) := fun n os => sorted_world (psort_len ps) hg h1 h2 h3 hb K
    clear K hP hg h1 h2 h3 h4 e1 eg
    go_enter Try.func48, Try.ntmps48
    go_wp2_with fail
    refine hcon.mono ?_
    rintro e w' ⟨rfl, n, os, hw⟩
    have hW' := hide (unhide hW n os)
    change w' = sortWorldK encP 2 w g 0 n (psort ps).toArray os at hw
    rw [← hw] at hW'
    clear hw hcon
    go_wp2
    go_end0
    exact ⟨rfl, (unhide hW').1, (unhide hW').2⟩
end Go.Proofs.Ytjjgjgncnifjmaa
