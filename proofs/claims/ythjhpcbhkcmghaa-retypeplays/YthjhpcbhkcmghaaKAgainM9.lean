/- Mathematics of RetypeAgain: frames out of one Untyped, made one by one, dropped one by one. -/
import Derived.Test.YthjhpcbhkcmghaaKLaw9
import Derived.Test.YthjhpcbhkcmghaaKNm5
namespace Go.Proofs.Ythjhpcbhkcmghaa
open Go.RowKit
set_option linter.unusedVariables false
def agR (z : Int) : Sl := ⟨1, 0, 0, 0, 1, 8, z, 0, 7⟩
def agS (i : Nat) : Sl := ⟨1, 1 + (i : Int), 1, 0, 3, 8 + (i : Int), 0, 0, 7⟩
def agL (z : Int) (l : List Nat) : List Sl := agR z :: l.map agS
theorem agL_len (z : Int) (l : List Nat) : (agL z l).length = l.length + 1 := by unfold agL; simp
theorem ag_root (z : Int) (l : List Nat) : lkS (agL z l) 1 0 = some (agR z) := by
  unfold lkS atL agL
  rw [List.findIdx?_cons]
  rfl
theorem ag_none {z : Int} {l : List Nat} {n s : Int} (h : ¬ (n = 1 ∧ s = 0)) (h2 : ∀ i ∈ l, ¬ (n = 1 ∧ s = 1 + (i : Int))) : atL (agL z l) n s = none := by
  refine at_none_iff.2 fun x hx => ?_
  unfold agL at hx
  rcases List.mem_cons.1 hx with e | e
  · subst e
    rintro ⟨e1, e2⟩
    exact h ⟨e1.symm, e2.symm⟩
  · obtain ⟨i, hi, rfl⟩ := List.mem_map.1 e
    rintro ⟨e1, e2⟩
    exact h2 i hi ⟨e1.symm, e2.symm⟩
theorem lk_of_none {L : List Sl} {n s : Int} (h : atL L n s = none) : lkS L n s = none := by unfold lkS; rw [h]
theorem ag_both {z : Int} {l : List Nat} {n s : Int} (hp : placeOk n s = true) (h : ¬ (n = 1 ∧ s = 0)) (h2 : ∀ i ∈ l, ¬ (n = 1 ∧ s = 1 + (i : Int))) : bothC (agL z l) 1 0 n s = 0 := by
  unfold bothC
  rw [ag_root]
  simp only
  rw [hp, if_neg (by simp), lk_of_none (ag_none h h2)]
  rfl
theorem ag_keep {z : Int} {i : Nat} (h : (i : Int) < z) : keepB 8 z (agS i) = true := by
  unfold keepB allB meetB unitsL agS
  simp
  omega
theorem ag_rkeep (z : Int) : keepB 8 z (agR z) = false := by
  unfold keepB allB agR
  simp
theorem ag_free (z : Int) : freeL (agL z []) 8 z = true := by
  unfold freeL agL
  simp [ag_rkeep]
theorem ag_full {z : Int} {l : List Nat} {i : Nat} (hi : i ∈ l) (h : (i : Int) < z) : freeL (agL z l) 8 z = false :=
  free_no (y := agS i) (by unfold agL; exact List.mem_cons_of_mem _ (List.mem_map.2 ⟨i, hi, rfl⟩)) (ag_keep h)
theorem ag_ins (z : Int) (m : Nat) : insL (agL z (List.range m)) (agS m) = agL z (List.range (m + 1)) := by
  rw [ins_end]
  · unfold agL
    rw [List.range_succ, List.map_append]
    rfl
  · intro y hy
    rw [before_iff]
    unfold agL at hy
    rcases List.mem_cons.1 hy with e | e
    · subst e
      exact .inr ⟨rfl, show (0 : Int) < 1 + (m : Int) by omega⟩
    · obtain ⟨j, hj, rfl⟩ := List.mem_map.1 e
      have hj' := List.mem_range.1 hj
      exact .inr ⟨rfl, show 1 + (j : Int) < 1 + (m : Int) by omega⟩
theorem ag_putR {z : Int} {m : Nat} (h : m < 12) : putR (agL z (List.range m)) 1 (1 + (m : Int)) 3 (8 + (m : Int)) 0 0 7 1 0 = agL z (List.range (m + 1)) := by
  have hp : putP (agL z (List.range m)) 1 (1 + (m : Int)) 3 (8 + (m : Int)) 0 0 7 1 0 := by
    refine ⟨?_, ag_none (by omega) (fun i hi => by have := List.mem_range.1 hi; omega), ?_, .inr ?_⟩
    · rw [placeOk_iff]; unfold placeP; omega
    · rw [chk_iff]
      unfold chkP fitP
      rw [if_neg (by decide), if_neg (by decide), if_neg (by decide)]
      omega
    · intro e
      have := ag_root z (List.range m)
      unfold lkS at this
      rw [e] at this
      cases this
  unfold putR
  rw [if_pos ((putOk_iff _ _ _ _ _ _ _ _ _ _).2 hp)]
  exact ag_ins z m
theorem ag_FG {z : Int} {l : List Nat} {F : Int × Int → Int} {m : Nat} (hl : ∀ i ∈ l, (i : Int) < z) (hm : l.length = m) (hF : F (8, z) = (m : Int)) : F1 (agL z l) F 8 z (8, z) = (m : Int) := by
  unfold F1
  cases l with
  | nil =>
    rw [if_pos (ag_free z)]
    unfold upF
    rw [if_pos rfl]
    simp at hm
    omega
  | cons i l =>
    rw [if_neg (by rw [ag_full List.mem_cons_self (hl i List.mem_cons_self)]; simp)]
    exact hF
/-- One more of them. -/
theorem ag_make {z : Int} {m : Nat} {F : Int × Int → Int} (hz : z ≤ 12) (hm : (m : Int) < z) (hF : F (8, z) = (m : Int)) (hB : FB F) : ∃ G, mkR (agL z (List.range m)) F 1 0 1 (1 + (m : Int)) 3 0 = ⟨0, 8 + (m : Int), agL z (List.range (m + 1)), G⟩ ∧ G (8, z) = ((m + 1 : Nat) : Int) ∧ FB G := by
  have hf := ag_FG (l := List.range m) (fun i hi => by have := List.mem_range.1 hi; omega) (by simp) hF
  have hb : bothC (agL z (List.range m)) 1 0 1 (1 + (m : Int)) = 0 := ag_both (by rw [placeOk_iff]; unfold placeP; omega) (by omega) (fun i hi => by have := List.mem_range.1 hi; omega)
  refine ⟨upF (F1 (agL z (List.range m)) F 8 z) (8, z) ((m : Int) + 1), ?_, ?_, ?_⟩
  · have := mkR_yes (k := 3) (z := 0) (u := (m : Int)) (v := 1) (ag_root z (List.range m)) rfl hb (un_fine (by decide) (by decide)) rfl hf rfl (by show ¬ z - (m : Int) < 1; omega)
    rw [this]
    show MkR.mk 0 (8 + (m : Int)) (putR (agL z (List.range m)) 1 (1 + (m : Int)) 3 (8 + (m : Int)) 0 0 7 1 0) _ = _
    rw [ag_putR (by omega)]
    rfl
  · show upF _ (8, z) ((m : Int) + 1) (8, z) = _
    unfold upF
    rw [if_pos rfl]
    omega
  · exact (F1_FB hB 8 z).up _ (by omega) (by omega)
/-- No more of them. -/
theorem ag_over {z : Int} {l : List Nat} {F : Int × Int → Int} {i : Nat} {k : Int} (hi : i ∈ l) (hiz : (i : Int) < z) (hF : F (8, z) = z) (hk : kindB k = false) (hs : sizeB k 0 = false) (hk1 : k ≠ 1) : mkR (agL z l) F 1 0 2 0 k 0 = ⟨8, 0, agL z l, F⟩ := by
  have hG : F1 (agL z l) F (agR z).o (agR z).z = F := by unfold F1; rw [if_neg]; show ¬ freeL (agL z l) 8 z = true; rw [ag_full hi hiz]; simp
  have hb : bothC (agL z l) 1 0 2 0 = 0 := ag_both (by kernel_rfl) (by omega) (fun i hi => by omega)
  exact mkR_mem (ag_root z l) rfl hb (un_fine hk hs) hG (by show z - F (8, z) < unN k 0; rw [hF, show unN k 0 = 1 from if_neg hk1]; omega)
/-- All gone: made anew. -/
theorem ag_anew {z : Int} {F : Int × Int → Int} (hz : 1 ≤ z) : ∃ L' G, mkR (agL z []) F 1 0 2 0 4 0 = ⟨0, 8, L', G⟩ ∧ G (8, z) = 1 := by
  have hG : F1 (agL z []) F (agR z).o (agR z).z = upF F (8, z) 0 := by unfold F1; rw [if_pos]; rfl; exact ag_free z
  have hb : bothC (agL z []) 1 0 2 0 = 0 := ag_both (by kernel_rfl) (by omega) (fun i hi => by cases hi)
  have hu : upF F (8, z) 0 ((agR z).o, (agR z).z) = 0 := by unfold upF; rw [if_pos]; rfl
  have := mkR_yes (k := 4) (z := 0) (u := 0) (v := 1) (ag_root z []) rfl hb (un_fine (by decide) (by decide)) hG hu rfl (by show ¬ z - 0 < 1; omega)
  refine ⟨_, _, this, ?_⟩
  show upF (upF F (8, z) 0) (8, z) (0 + 1) (8, z) = 1
  unfold upF
  rw [if_pos rfl]
  rfl
theorem ag_at {z : Int} {l : List Nat} (hn : l.Nodup) {k i : Nat} (h : l[k]? = some i) : atL (agL z l) 1 (1 + (i : Int)) = some (k + 1) ∧ (agL z l)[k + 1]? = some (agS i) := by
  have hg : (agL z l)[k + 1]? = some (agS i) := by unfold agL; rw [List.getElem?_cons_succ, List.getElem?_map, h]; rfl
  refine ⟨?_, hg⟩
  obtain ⟨hk, e⟩ := List.getElem?_eq_some_iff.1 h
  unfold atL
  rw [List.findIdx?_eq_some_iff_getElem]
  refine ⟨by rw [agL_len]; omega, ?_, ?_⟩
  · have := (List.getElem?_eq_some_iff.1 hg).2
    rw [this]
    simp [agS]
  · intro j hj
    cases j with
    | zero => unfold agL; simp [agR]; omega
    | succ j =>
      have hjl : j < l.length := by omega
      have : (agL z l)[j + 1]'(by rw [agL_len]; omega) = agS (l[j]) := by unfold agL; simp
      rw [this]
      have hne : l[j] ≠ i := by
        intro q
        rw [← e] at q
        exact List.pairwise_iff_getElem.1 hn j k hjl hk (by omega) q
      simp [agS]
      omega
theorem ag_drop (z : Int) (l : List Nat) (k i : Nat) : dropL (agL z l) 1 (1 + (i : Int)) (k + 1) (agS i) = agL z (l.eraseIdx k) := by
  have h0 : reF 1 (1 + (i : Int)) (agS i).u (agS i).v (agR z) = agR z := by
    unfold reF
    rw [if_neg]
    intro q
    have : (0 : Int) = 1 := q.1
    omega
  have h1 : ∀ j, reF 1 (1 + (i : Int)) (agS i).u (agS i).v (agS j) = agS j := fun j => by
    unfold reF
    rw [if_neg]
    intro q
    have : (0 : Int) = 1 + (i : Int) := q.2
    omega
  unfold dropL agL
  rw [List.eraseIdx_cons_succ, List.map_cons, h0, List.eraseIdx_eq_take_drop_succ, List.eraseIdx_eq_take_drop_succ, ← List.map_take, ← List.map_drop, ← List.map_append, List.map_map]
  congr 1
  exact List.map_congr_left fun x _ => h1 x
/-- Those that are left, in the midst of dropping. -/
def AgLeft (z : Nat) (keep : Bool) (left i : Nat) (l : List Nat) : Prop := l.Nodup ∧ l.length ≤ z ∧ ∀ j, j ∈ l ↔ j < z ∧ (i ≤ j ∨ (keep = true ∧ j = left))
theorem agleft_start (z : Nat) (keep : Bool) (left : Nat) : AgLeft z keep left 0 (List.range z) := ⟨List.nodup_range, by simp, fun j => by simp⟩
theorem agleft_skip {z : Nat} {left : Nat} {l : List Nat} (h : AgLeft z true left left l) : AgLeft z true left (left + 1) l := by
  obtain ⟨h1, h2, h3⟩ := h
  refine ⟨h1, h2, fun j => ?_⟩
  rw [h3 j]
  constructor
  · rintro ⟨q1, q2⟩
    refine ⟨q1, ?_⟩
    rcases q2 with q | ⟨_, q⟩
    · by_cases e : j = left
      · exact .inr ⟨rfl, e⟩
      · exact .inl (by omega)
    · exact .inr ⟨rfl, q⟩
  · rintro ⟨q1, q2⟩
    refine ⟨q1, ?_⟩
    rcases q2 with q | q
    · exact .inl (by omega)
    · exact .inr q
theorem agleft_next {z : Nat} {keep : Bool} {left i : Nat} {l : List Nat} (h : AgLeft z keep left i l) (hi : i < z) (hs : keep = false ∨ i ≠ left) : ∃ k, l[k]? = some i ∧ AgLeft z keep left (i + 1) (l.eraseIdx k) := by
  obtain ⟨h1, h2, h3⟩ := h
  obtain ⟨k, hk, e⟩ := List.mem_iff_getElem.1 ((h3 i).2 ⟨hi, .inl (Nat.le_refl _)⟩)
  have hne : ∀ j, j ∈ l.eraseIdx k ↔ j ∈ l ∧ j ≠ i := by
    intro j
    rw [List.mem_eraseIdx_iff_getElem]
    constructor
    · rintro ⟨p, hp, hpk, rfl⟩
      refine ⟨List.getElem_mem hp, fun q => ?_⟩
      rcases Nat.lt_trichotomy p k with a | a | a
      · exact List.pairwise_iff_getElem.1 h1 p k hp hk a (q.trans e.symm)
      · exact hpk a
      · exact List.pairwise_iff_getElem.1 h1 k p hk hp a (e.trans q.symm)
    · rintro ⟨q1, q2⟩
      obtain ⟨p, hp, rfl⟩ := List.mem_iff_getElem.1 q1
      exact ⟨p, hp, fun a => by subst a; exact q2 e, rfl⟩
  refine ⟨k, by rw [List.getElem?_eq_getElem hk, e], List.Sublist.nodup (List.eraseIdx_sublist l k) h1, by have := List.length_eraseIdx_le l k; omega, fun j => ?_⟩
  rw [hne, h3 j]
  constructor
  · rintro ⟨⟨q1, q2⟩, q3⟩
    refine ⟨q1, ?_⟩
    rcases q2 with q | q
    · exact .inl (by omega)
    · exact .inr q
  · rintro ⟨q1, q2⟩
    refine ⟨⟨q1, ?_⟩, ?_⟩
    · rcases q2 with q | q
      · exact .inl (by omega)
      · exact .inr q
    · rintro rfl
      rcases q2 with q | ⟨qa, qb⟩
      · omega
      · rcases hs with q | q
        · rw [q] at qa; cases qa
        · exact q qb
theorem agleft_end {z : Nat} {left : Nat} {l : List Nat} (h : AgLeft z false left z l) : l = [] := by
  obtain ⟨h1, h2, h3⟩ := h
  cases l with
  | nil => rfl
  | cons j l =>
    obtain ⟨q1, q2⟩ := (h3 j).1 List.mem_cons_self
    rcases q2 with q | ⟨q, _⟩
    · omega
    · cases q
end Go.Proofs.Ythjhpcbhkcmghaa
