/- The sort of places: cmp.Or, the closure, sortPlaces. -/
import Derived.Test.YthjhpcbhkcmghaaKTab
import Derived.Test.YthjhpcbhkcmghaaKShelf
import Derived.Shelf.SlSortCmp.NoneTotal
import Derived.Test.YthjhpcbhkcmghaaKRises
namespace Go.Proofs.Ythjhpcbhkcmghaa
open Go.RowKit
set_option linter.unusedVariables false
def orI (a b : Int) : Int := if a = 0 then b else a
theorem compare_to (x y r : Int) (W : World) (h : Lib.compareInt x y = r) :
    Calls Try.prog 62 #[.int .i64 x, .int .i64 y] W fun e w' => e = .returned (.int .i64 r) ∧ w' = W := by
  rw [← h]
  exact AnyG.cmp_Compare_int Try.shCmp x y W
set_option maxHeartbeats 1000000 in
theorem or_calls (a b : Int) (g : Nat) (w : World) (c0 : w.cell? ⟨g, 0, none⟩ = some (.int .i64 a)) (c1 : w.cell? ⟨g, 1, none⟩ = some (.int .i64 b)) :
    Calls Try.prog 61 #[.slice (some ⟨g, 0, none⟩) 2 2] w fun e w' => e = .returned (.int .i64 (orI a b)) ∧ w' = w := by
  go_enter Try.func61, Try.ntmps61
  go_wp2_with fail
  go_loopg [8] 2 (fun m i wx => ∃ j : Nat, j ≤ 2 ∧ m = 2 - j ∧ i = .int .i64 j ∧ (1 ≤ j → a = 0) ∧ (2 ≤ j → b = 0) ∧ wx = w)
  case atStart => exact ⟨0, by omega, rfl, rfl, by omega, by omega, rfl⟩
  case round =>
    obtain ⟨j, hj, rfl, rfl, h1, h2, rfl⟩ := hrel
    match j, hj with
    | 0, _ =>
      clear h1 h2
      by_cases e : a = 0
      · subst e
        go_wp2
        go_roundg 1
        case measure => omega
        case rel => exact ⟨1, by omega, rfl, by go_num, by simp, by omega, rfl⟩
      · have e' : (a == 0) = false := beq_eq_false_iff_ne.2 e
        go_wp2
        go_ret
        exact ⟨ret_int (by unfold orI; rw [if_neg e]), rfl⟩
    | 1, _ =>
      have e := h1 (by omega)
      subst e
      clear h1 h2
      by_cases e : b = 0
      · subst e
        go_wp2
        go_roundg 0
        case measure => omega
        case rel => exact ⟨2, by omega, rfl, by go_num, by simp, by simp, rfl⟩
      · have e' : (b == 0) = false := beq_eq_false_iff_ne.2 e
        go_wp2
        go_ret
        exact ⟨ret_int (by unfold orI; rw [if_pos rfl]), rfl⟩
    | 2, _ =>
      have e := h1 (by omega)
      have e2 := h2 (by omega)
      subst e
      subst e2
      clear h1 h2
      go_wp2
      go_ret
      exact ⟨ret_int (by unfold orI; rw [if_pos rfl]), rfl⟩
/-- Some draws on, some blocks more. -/
def Gr (w w' : World) : Prop := ∃ q os, w' = Sort.grow (w.drewN q) os
theorem Gr.refl (w : World) : Gr w w := ⟨0, #[], by rw [Sort.grow_empty]; rfl⟩
theorem Gr.drew {w w' : World} (h : Gr w w') : Gr w w'.drew := by
  obtain ⟨q, os, rfl⟩ := h
  exact ⟨q + 1, os, rfl⟩
theorem Gr.alloc {w w' : World} (h : Gr w w') (o : Obj) : Gr w (w'.alloc o) := by
  obtain ⟨q, os, rfl⟩ := h
  exact ⟨q, os ++ #[o], by rw [Sort.alloc_eq_grow, Sort.grow_grow]⟩
def cfP (x y : Int × Int) : Int := orI (Lib.compareInt x.1 y.1) (Lib.compareInt x.2 y.2)
set_option maxHeartbeats 2000000 in
theorem cmpP_calls (x y : Int × Int) (W : World) :
    Calls Try.prog 60 #[.agg #[.int .i64 x.1, .int .i64 x.2], .agg #[.int .i64 y.1, .int .i64 y.2]] W fun e w' => e = .returned (.int .i64 (cfP x y)) ∧ Gr W w' := by
  obtain ⟨r0, h0⟩ : ∃ r, Lib.compareInt x.1 y.1 = r := ⟨_, rfl⟩
  obtain ⟨r1, h1⟩ : ∃ r, Lib.compareInt x.2 y.2 = r := ⟨_, rfl⟩
  have HR := hide (show cfP x y = orI r0 r1 from by unfold cfP; rw [h0, h1])
  obtain ⟨x0, x1⟩ := x
  obtain ⟨y0, y1⟩ := y
  simp only at h0 h1 ⊢
  replace h0 := hide h0
  replace h1 := hide h1
  have b0 := Bk.new W 40 [.int .i64 x0, .int .i64 x1]
  have b1 := Bk.next (p := W.heap.size + 1) (W.alloc (.cells #[.int .i64 x0, .int .i64 x1] 40)) 40 [.int .i64 y0, .int .i64 y1] (by simp)
  have G0 := hide (((Gr.refl W).alloc (.cells #[.int .i64 x0, .int .i64 x1] 40)).alloc (.cells #[.int .i64 y0, .int .i64 y1] 40))
  replace b0 := b0.alloc (.cells #[.int .i64 y0, .int .i64 y1] 40)
  have hsz : ((W.alloc (.cells #[.int .i64 x0, .int .i64 x1] 40)).alloc (.cells #[.int .i64 y0, .int .i64 y1] 40)).heap.size = W.heap.size + 2 := by simp
  replace b0 := hide b0
  replace b1 := hide b1
  go_enter Try.func60, Try.ntmps60
  go_wp2_with fail
  generalize (W.alloc (.cells #[.int .i64 x0, .int .i64 x1] 40)).alloc (.cells #[.int .i64 y0, .int .i64 y1] 40) = w2 at *
  have BN := Bk.next (p := W.heap.size + 2) w2 3 [.int .i64 r0, .int .i64 r1] hsz
  have E0 : Hid (((w2.alloc (.cells #[.int .i64 r0, .int .i64 r1] 3)).drew).cell? ⟨W.heap.size + 2, 0, none⟩ = some (.int .i64 r0)) := hide (BN.cell (i := 0) rfl)
  have E1 : Hid (((w2.alloc (.cells #[.int .i64 r0, .int .i64 r1] 3)).drew).cell? ⟨W.heap.size + 2, 1, none⟩ = some (.int .i64 r1)) := hide (BN.cell (i := 1) rfl)
  clear BN
  have c0 := (unhide b0).cell (i := 0) rfl
  have c1 := (unhide b0).cell (i := 1) rfl
  have d0 := (unhide b1).cell (i := 0) rfl
  have d1 := (unhide b1).cell (i := 1) rfl
  go_region_held3 (fun w' => w'.cell? ⟨W.heap.size, 0, none⟩ = some (.int .i64 x0) ∧ w'.cell? ⟨W.heap.size, 1, none⟩ = some (.int .i64 x1) ∧ w'.cell? ⟨W.heap.size + 1, 0, none⟩ = some (.int .i64 y0) ∧ w'.cell? ⟨W.heap.size + 1, 1, none⟩ = some (.int .i64 y1)) (go_keep) (first
    | (go_at_call 61; (with_reducible refine (or_calls r0 r1 (W.heap.size + 2) ((w2.alloc (.cells #[.int .i64 r0, .int .i64 r1] 3)).drew) (unhide E0) (unhide E1)).mono ?_); rintro e V1 ⟨rfl, rfl⟩)
    | (go_at_call 62; (with_reducible refine (compare_to x0 y0 r0 _ (unhide h0)).mono ?_); rintro e V1 ⟨rfl, rfl⟩)
    | (go_at_call 62; (with_reducible refine (compare_to x1 y1 r1 _ (unhide h1)).mono ?_); rintro e V1 ⟨rfl, rfl⟩))
  all_goals
    go_wp2
    go_ret
    exact ⟨ret_int (unhide HR).symm, ((unhide G0).alloc _).drew⟩
theorem ltP (x y : Int × Int) : ltOf cfP x y = before x.1 x.2 y.1 y.2 := by
  refine Bool.eq_iff_iff.2 ?_
  rw [before_iff]
  unfold ltOf cfP orI Lib.compareInt beforeP
  rw [decide_eq_true_iff]
  by_cases h1 : x.1 < y.1
  · simp [h1]
  · by_cases h2 : x.1 > y.1
    · simp [h1, h2]; omega
    · have e : x.1 = y.1 := by omega
      by_cases h3 : x.2 < y.2
      · simp [h3, e]
      · by_cases h4 : x.2 > y.2 <;> simp [h3, h4, e]
theorem ltP_iff (x y : Int × Int) : ltOf cfP x y = true ↔ beforeP x.1 x.2 y.1 y.2 := by rw [ltP, before_iff]
theorem ltP_no (x y : Int × Int) : ltOf cfP x y = false ↔ ¬ beforeP x.1 x.2 y.1 y.2 := by rw [← ltP_iff]; simp
theorem swoP : Sort.SWO (ltOf cfP) :=
  ⟨fun x => by rw [ltP_no]; unfold beforeP; omega, fun x y z h1 h2 => by rw [ltP_iff] at *; unfold beforeP at *; omega, fun x y z h1 h2 => by rw [ltP_no] at *; unfold beforeP at *; omega⟩
theorem totP (x y : Int × Int) (h1 : ltOf cfP x y = false) (h2 : ltOf cfP y x = false) : x = y := by
  rw [ltP_no] at *
  unfold beforeP at *
  exact Prod.ext (by omega) (by omega)
/-- Places, rising. -/
def psort (ps : List (Int × Int)) : List (Int × Int) := ps.mergeSort fun x y => !(ltOf cfP) y x
theorem psort_perm (ps : List (Int × Int)) : (psort ps).Perm ps := List.mergeSort_perm _ _
theorem psort_len (ps : List (Int × Int)) : (psort ps).length = ps.length := (psort_perm ps).length_eq
theorem psort_le (ps : List (Int × Int)) : (psort ps).Pairwise fun x y => ¬ beforeP y.1 y.2 x.1 x.2 := by
  have h := List.pairwise_mergeSort (le := fun x y => !(ltOf cfP) y x) (fun a b c h1 h2 => by
    simp only [Bool.not_eq_true'] at *
    rw [ltP_no] at *
    unfold beforeP at *
    omega) (fun a b => by
    rw [Bool.or_eq_true, Bool.not_eq_true', Bool.not_eq_true', ltP_no, ltP_no]
    unfold beforeP
    omega) ps
  refine h.imp ?_
  intro a b hab
  simp only [Bool.not_eq_true'] at hab
  rw [ltP_no] at hab
  exact hab
/-- What is sorted is the rising list of the same places. -/
theorem psort_is {ps qs : List (Int × Int)} (h : ps.Perm qs) (hq : Rises qs) : psort ps = qs := rises_unique ((psort_perm ps).trans h) (psort_le ps) hq.le
def encP (q : Int × Int) : List Value := [.int .i64 q.1, .int .i64 q.2]
theorem prow_at (ps : List (Int × Int)) (t : Nat) (h : t < ps.length * 2) : (prow ps)[t]? = some (encP ps.toArray[t / 2]!)[t % 2]! := by
  induction ps generalizing t with
  | nil => simp at h
  | cons x ps ih =>
    have e : prow (x :: ps) = encP x ++ prow ps := by unfold prow; rw [List.flatMap_cons]; rfl
    rw [e]
    match t, h with
    | 0, _ => rfl
    | 1, _ => rfl
    | t + 2, h =>
      have h' : t < ps.length * 2 := by simp at h; omega
      rw [List.getElem?_append_right (by show 2 ≤ t + 2; omega)]
      have e1 : t + 2 - (encP x).length = t := rfl
      rw [e1, ih t h']
      have e2 : (t + 2) / 2 = t / 2 + 1 := by omega
      have e3 : (t + 2) % 2 = t % 2 := by omega
      have e4 : t / 2 < ps.length := by omega
      rw [e2, e3]
      simp [e4]
theorem flat_prow (ps : List (Int × Int)) : Sort.flatK encP 2 ps.toArray = (prow ps).toArray := by
  apply Array.ext_getElem?
  intro t
  by_cases h : t < ps.length * 2
  · have h1 : t < (Sort.flatK encP 2 ps.toArray).size := by simpa using h
    have e := Sort.get_flatK encP 2 ps.toArray t (by simpa using h)
    rw [getElem!_pos _ t h1] at e
    rw [Array.getElem?_eq_getElem h1, e, List.getElem?_toArray, prow_at ps t h]
  · rw [Array.getElem?_eq_none (by simp; omega), List.getElem?_toArray, List.getElem?_eq_none (by rw [prow_len]; omega)]
theorem putCells_prow {cur : Array Value} {ps : List (Int × Int)} (h : ps.length * 2 ≤ cur.size) : (Sort.putCells id 0 (prow ps).toArray cur).toList.take (ps.length * 2) = prow ps := by
  have hl := prow_len ps
  apply List.ext_getElem?
  intro t
  rw [List.getElem?_take]
  by_cases ht : t < ps.length * 2
  · rw [if_pos ht, Array.getElem?_toList]
    unfold Sort.putCells
    rw [Array.getElem?_mapIdx, Array.getElem?_eq_getElem (by omega), Option.map_some, if_pos ⟨by omega, by simp; omega⟩]
    have h2 : t < (prow ps).length := by omega
    simp [h2]
  · rw [if_neg ht, List.getElem?_eq_none (by omega)]
/-- The place that a list of places lies at, with its cells, sorted. -/
theorem sorted_world {w0 w : World} {g cap n : Nat} {cur : Array Value} {ps qs : List (Int × Int)} {os : Array Obj} (hl : qs.length = ps.length) (hg : w.heap[g]? = some (.cells cur 40 (0, 0))) (hc : ps.length ≤ cap) (hm : cap ≤ maxLen) (hs : cur.size = cap * 2) (hb : w0.heap.size ≤ g) (K : Kp [] w0 w) :
    Pl w0.heap.size (sortWorldK encP 2 w g 0 n qs.toArray os) (.slice (some ⟨g, 0, none⟩) ps.length cap) qs ∧ Kp [] w0 (sortWorldK encP 2 w g 0 n qs.toArray os) := by
  have hlt := (Array.getElem?_eq_some_iff.1 hg).1
  have e1 : (Sort.putRowK encP 2 (Sort.ahead w n) g 0 qs.toArray).heap[g]? = some (.cells (Sort.putCells id 0 (prow qs).toArray cur) 40 (0, 0)) := by
    unfold Sort.putRowK Sort.putRow Sort.mapBlock
    rw [flat_prow]
    show (w.heap.modify g _)[g]? = _
    rw [Array.getElem?_modify, if_pos rfl, hg]
    rfl
  have e3 : (Sort.putRowK encP 2 (Sort.ahead w n) g 0 qs.toArray).heap.size = w.heap.size := by
    unfold Sort.putRowK Sort.putRow Sort.mapBlock
    show (w.heap.modify g _).size = _
    simp
  have e2 : ∀ k, k ≠ g → (Sort.putRowK encP 2 (Sort.ahead w n) g 0 qs.toArray).heap[k]? = w.heap[k]? := fun k hk => by
    unfold Sort.putRowK Sort.putRow Sort.mapBlock
    show (w.heap.modify g _)[k]? = _
    rw [Array.getElem?_modify, if_neg (fun e => hk e.symm)]
  constructor
  · refine ⟨prow_len qs, .inr ⟨g, cap, Sort.putCells id 0 (prow qs).toArray cur, by rw [hl], hb, ?_, by omega, hm, ?_, putCells_prow (by omega)⟩⟩
    · unfold sortWorldK
      rw [Sort.heap_grow_old _ _ (by omega), e1]
    · unfold Sort.putCells
      simp [hs]
  · refine ⟨K.os, K.tape, K.output, ?_, fun k hk _ => ?_⟩
    · unfold sortWorldK
      rw [Sort.size_grow, e3]
      have := K.size
      omega
    · unfold sortWorldK
      rw [Sort.heap_grow_old _ _ (by have := K.size; omega), e2 k (by omega), K.block k hk (by simp)]
theorem holds_prow {w : World} {g : Nat} {cur : Array Value} {ps : List (Int × Int)} (hg : w.heap[g]? = some (.cells cur 40 (0, 0))) (ht : cur.toList.take (ps.length * 2) = prow ps) : Sort.HoldsK encP 2 w g 0 ps.toArray := by
  unfold Sort.HoldsK
  rw [flat_prow]
  intro j hj
  have hj' : j < ps.length * 2 := by simpa [prow_len] using hj
  have h2 : (prow ps)[j]? = cur[j]? := by rw [← ht, List.getElem?_take, if_pos hj', Array.getElem?_toList]
  have h3 : (prow ps)[j]? = some (prow ps).toArray[j]! := by
    have : j < (prow ps).length := by rw [prow_len]; exact hj'
    simp [this]
  rw [Nat.zero_add]
  refine ⟨?_, by simp [World.frozen?, hg]⟩
  simp only [World.cell?, hg]
  rw [← h2, h3]
  rfl
def SortP (w0 : World) (v : Value) (ps : List (Int × Int)) (e : Ending) (w' : World) : Prop := e = .returned (.tuple #[]) ∧ Pl w0.heap.size w' v (psort ps) ∧ Kp [] w0 w'
theorem gr_of {w w' : World} (h : Gr w w') : ∃ q os, w' = Sort.grow (w.drewN q) os := h
set_option maxHeartbeats 1000000 in
theorem sort_calls {w0 w : World} {v : Value} {ps : List (Int × Int)} (hP : Pl w0.heap.size w v ps) (K : Kp [] w0 w) (hs : ps.length ≤ 65536) :
    Calls Try.prog 55 #[v] w (SortP w0 v ps) := by
  rcases hP.2 with ⟨e, hz⟩ | ⟨g, cap, cur, e, hb, hg, h1, h2, h3, h4⟩
  · subst e
    have e0 : ps = [] := List.length_eq_zero_iff.1 hz
    subst e0
    have hcon := AnyF.slices_SortFunc_none Try.shSort none 0 (.func (.func 60) #[] #[]) w
    change Calls Try.prog 59 _ _ _ at hcon
    have K' := hide K
    clear K hP
    go_enter Try.func55, Try.ntmps55
    go_wp2_with fail
    refine hcon.mono ?_
    rintro e w' ⟨rfl, rfl⟩
    go_wp2
    go_end0
    exact ⟨rfl, by rw [show psort [] = [] from List.length_eq_zero_iff.1 (by rw [psort_len]; rfl)]; exact Pl.nil _ _, unhide K'⟩
  · subst e
    have eg : ∀ args w, (callFunc 60 args).run Try.prog w = .ok (.enter 60 args) w := enters_of Try.func60 (by kernel_rfl) rfl
    have hcon := AnyQ.slices_SortFunc_total Try.shSort 2 Try.isAgg40 Try.sizeOf40 encP (fun _ => rfl) (fun x v hv => by simp [encP] at hv; rcases hv with rfl | rfl <;> rfl) cfP swoP 60 #[] g 0 cap ps.toArray w eg (fun _ _ _ _ x y => (cmpP_calls x y _).mono fun _ _ h => ⟨h.1, gr_of h.2⟩) (holds_prow hg h4) (Array.getElem?_eq_some_iff.1 hg).1 (by simp; omega) totP
    change Calls Try.prog 59 _ _ _ at hcon
    have e1 : (ps.toArray).size = ps.length := by simp
    rw [e1] at hcon
    have hW : Hid (∀ n os, Pl w0.heap.size (sortWorldK encP 2 w g 0 n (psort ps).toArray os) (.slice (some ⟨g, 0, none⟩) ps.length cap) (psort ps) ∧ Kp [] w0 (sortWorldK encP 2 w g 0 n (psort ps).toArray os)) := fun n os => sorted_world (psort_len ps) hg h1 h2 h3 hb K
    clear K hP hg h1 h2 h3 h4 e1 eg
    go_enter Try.func55, Try.ntmps55
    go_wp2_with fail
    refine hcon.mono ?_
    rintro e w' ⟨rfl, n, os, hw⟩
    have hW' := hide (unhide hW n os)
    change w' = sortWorldK encP 2 w g 0 n (psort ps).toArray os at hw
    rw [← hw] at hW'
    clear hw hcon
    go_wp2
    go_end0
    exact ⟨rfl, (unhide hW').1, (unhide hW').2⟩
end Go.Proofs.Ythjhpcbhkcmghaa
