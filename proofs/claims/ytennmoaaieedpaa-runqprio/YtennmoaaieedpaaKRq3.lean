/- The program's queue: Remove, Set. -/
import Derived.Test.YtennmoaaieedpaaKRq2
import Derived.Deep.RegionHeld3
import Derived.Sort.OwnSortedInts
namespace Go.Proofs.Ytennmoaaieedpaa
open Go.RowKit
set_option linter.unusedVariables false
theorem putCells_ints {cur : Array Value} {M : List Int} (h : M.length ≤ cur.size) : (Sort.putCells (Value.int .i64) 0 M.toArray cur).toList.take M.length = M.map (Value.int .i64) := by
  apply List.ext_getElem?
  intro t
  rw [List.getElem?_take]
  by_cases ht : t < M.length
  · rw [if_pos ht, Array.getElem?_toList]
    unfold Sort.putCells
    rw [Array.getElem?_mapIdx, Array.getElem?_eq_getElem (by omega), Option.map_some, if_pos ⟨by omega, by simp; omega⟩]
    simp [ht]
  · rw [if_neg ht, List.getElem?_eq_none (by simp; omega)]
theorem rows_int (M : List Int) : Gr.rows intE M = M.map (Value.int .i64) := by
  induction M with
  | nil => rfl
  | cons x M ih =>
    have e : Gr.rows intE (x :: M) = .int .i64 x :: Gr.rows intE M := rfl
    rw [e, ih, List.map_cons]
theorem del_to {base : Nat} {w : World} {g cap n : Nat} {M : List Int} (h : Gr.Rw intE base w (.slice (some ⟨g, 0, none⟩) n cap) M) {k j : Nat} (hk : k < M.length) (hj : j = k + 1) {m : Nat} (hm : m = M.length - 1) (hn : n = M.length) :
    Calls Try.prog 25 #[.slice (some ⟨g, 0, none⟩) n cap, .int .i64 (k : Int), .int .i64 (j : Int)] w fun e w' => e = .returned (.slice (some ⟨g, 0, none⟩) m cap) ∧ Gr.Rw intE base w' (.slice (some ⟨g, 0, none⟩) m cap) (M.eraseIdx k) ∧ Kp [g] w w' := by
  subst hj hm hn
  rcases h.2 with ⟨e, _⟩ | ⟨g', c', cur, e, hb, hg, h1, h2, h3, h4⟩
  · cases e
  cases e
  rw [Nat.mul_one, rows_int] at h4
  rw [Nat.mul_one] at h3
  have hH : Sort.Holds (Value.int .i64) w g 0 M.toArray := holds_of_blockI hg h4
  refine (AnyG.slices_Delete_int Try.shDel g 0 cap k (k + 1) M w hH h1 (by unfold maxLen at h2; omega) (by omega) (by omega)).mono ?_
  rintro e w' ⟨rfl, q, rfl⟩
  obtain ⟨M', hM'⟩ : ∃ M', M.take k ++ M.drop (k + 1) ++ List.replicate (k + 1 - k) 0 = M' := ⟨_, rfl⟩
  rw [hM']
  have hl' : M'.length = M.length := by rw [← hM']; simp; omega
  have ht' : M'.take (M.length - 1) = M.eraseIdx k := by
    rw [← hM', List.eraseIdx_eq_take_drop_succ]
    rw [List.take_append_of_le_length (by simp; omega)]
    exact List.take_of_length_le (by simp; omega)
  have e1 : (Sort.putRow (Value.int .i64) (Sort.ahead w q) g 0 M'.toArray).heap[g]? = some (.cells (Sort.putCells (Value.int .i64) 0 M'.toArray cur) 3 (0, 0)) := by
    unfold Sort.putRow Sort.mapBlock
    show (w.heap.modify g _)[g]? = _
    rw [Array.getElem?_modify, if_pos rfl, hg]
    rfl
  have e3 : (Sort.putRow (Value.int .i64) (Sort.ahead w q) g 0 M'.toArray).heap.size = w.heap.size := by
    unfold Sort.putRow Sort.mapBlock
    show (w.heap.modify g _).size = _
    simp
  have e2 : ∀ i, i ≠ g → (Sort.putRow (Value.int .i64) (Sort.ahead w q) g 0 M'.toArray).heap[i]? = w.heap[i]? := fun i hi => by
    unfold Sort.putRow Sort.mapBlock
    show (w.heap.modify g _)[i]? = _
    rw [Array.getElem?_modify, if_neg (fun e => hi e.symm)]
  have el : (M.eraseIdx k).length = M.length - 1 := by rw [List.length_eraseIdx, if_pos hk]
  refine ⟨by rw [Nat.add_sub_cancel_left], ⟨by rw [Gr.rows_len], .inr ⟨g, cap, Sort.putCells (Value.int .i64) 0 M'.toArray cur, by rw [el], hb, e1, by omega, h2, ?_, ?_⟩⟩, ⟨rfl, rfl, rfl, by rw [e3]; exact Nat.le_refl _, fun i _ hi => e2 i (fun e => hi (by rw [e]; simp))⟩⟩
  · unfold Sort.putCells
    simp [h3]
  · rw [Nat.mul_one, rows_int, el, ← ht', List.map_take, ← putCells_ints (cur := cur) (by rw [hl', h3]; exact h1), List.take_take, Nat.min_eq_left (by omega)]
theorem rows_del {L : List (Int × Int)} (hq : QOk L) {t : Int} {n : Nat} (hm : (t, (n : Int)) ∈ L) (i : Nat) : upd (rowsOf L) n ((rowsOf L n).filter fun x => x != t) i = rowsOf (qDel L t) i := by
  unfold upd rowsOf
  rw [qRow_del]
  by_cases h : i = n
  · subst h; rw [if_pos rfl]
  · rw [if_neg h, qRow_other hq hm (by omega)]
set_option maxHeartbeats 400000 in
theorem prem_no {base : Nat} {w : World} {q : Nat} {vs : List Value} {L : List (Int × Int)} (h : QR base w q vs (rowsOf L)) {t : Int} (ht : qPr L t = none) :
    Calls Try.prog 10 #[.pointer (some ⟨q, 0, none⟩), .int .i64 t] w fun e w' => e = .returned (.bool false) ∧ Kp [] w w' := by
  have HF := hide (pfind_no h ht)
  clear h ht
  go_enter Try.func10, Try.ntmps10
  go_wp2_with fail
  refine (unhide HF).mono ?_
  rintro e W1 ⟨rfl, K1⟩
  replace K1 := hide K1
  go_wp2
  go_ret
  exact ⟨rfl, unhide K1⟩
set_option maxRecDepth 4000 in
set_option maxHeartbeats 4000000 in
theorem prem_yes {base : Nat} {w : World} {q : Nat} {vs : List Value} {L : List (Int × Int)} (h : QR base w q vs (rowsOf L)) (hq : QOk L) {t p : Int} (ht : qPr L t = some p) :
    Calls Try.prog 10 #[.pointer (some ⟨q, 0, none⟩), .int .i64 t] w (QC base q vs (qDel L t) w (.bool true)) := by
  obtain ⟨n, k, rfl, hn, hk, HF⟩ := pfind_yes h hq ht
  obtain ⟨_, _, hLi⟩ := qPr_some ht
  have hmem := hide (List.mem_of_getElem? hLi)
  have hkl : k < (rowsOf L n).length := (List.getElem?_eq_some_iff.1 hk).1
  have hf := hide (filt_erase (qRow_nd hq (n : Int)) hk)
  have hlen : Hid ((rowsOf L n).length ≤ 65536) := h.small n hn
  have H := hide h
  replace HF := hide HF
  replace hq := hide hq
  clear h ht hLi hk
  go_enter Try.func10, Try.ntmps10
  go_wp2_with fail
  refine (unhide HF).mono ?_
  rintro e W1 ⟨rfl, K1⟩
  have R1 := (unhide H).grew K1.drew
  obtain ⟨v, hv, hrow, d0⟩ := R1.at hn
  have c0 : W1.cell? ⟨q, n, none⟩ = some v := d0
  rcases hrow.addr with ⟨_, e⟩ | ⟨g, cap, rfl, hbg, hlg, _⟩
  · rw [e] at hkl; simp at hkl
  have b1 : (n : Int) < 8 := by omega
  have b2 : ((n : Int)).toNat = n := Int.toNat_natCast n
  have b3 : decide ((n : Int) < 0) = false := decide_eq_false (by omega)
  have b4 : IntKind.i64.wrap ((k : Int) + 1) = ((k + 1 : Nat) : Int) := by have := unhide hlen; rw [IntKind.wrap_i64]; omega
  replace R1 := hide R1
  replace hv := hide hv
  replace hrow := hide hrow
  replace K1 := hide K1
  go_wp2_with fail
  have S0 : Hid (W1.drew.cell? ⟨q, n, none⟩ = some (.slice (some ⟨g, 0, none⟩) (rowsOf L n).length cap)) := d0
  go_region_with ((go_at_call 25; refine (del_to (unhide hrow) hkl rfl rfl rfl).mono ?_; rintro e W2 ⟨rfl, hr2, K2⟩; have hT := hide ((unhide R1).turn (unhide hv) (show Kp [g] _ _ from K2) hr2 (.inl rfl) (by have := unhide hlen; rw [List.length_eraseIdx]; split <;> omega)); have f4 := (unhide hT).1.frozen n; have c4 := (unhide hT).1.cell (unhide hv); clear hr2 K2))
  all_goals
    go_wp2
    go_ret
    obtain ⟨_, q1, q2⟩ := unhide hT
    refine ⟨rfl, _, q1.rows (fun i _ => ?_), (QT.of (unhide K1).drew).trans q2⟩
    have hf' : (rowsOf L n).eraseIdx k = (rowsOf L n).filter fun x => x != t := unhide hf
    rw [hf']
    exact rows_del (unhide hq) (unhide hmem) i
end Go.Proofs.Ytennmoaaieedpaa
