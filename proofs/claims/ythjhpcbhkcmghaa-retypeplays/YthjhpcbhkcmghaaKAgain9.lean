/- The walk of RetypeAgain. -/
import Derived.Test.YthjhpcbhkcmghaaKLaw9
import Derived.Test.YthjhpcbhkcmghaaKNm5
import Derived.Test.YthjhpcbhkcmghaaKArgs
import Derived.Deep.DeepCutAuto
namespace Go.Proofs.Ythjhpcbhkcmghaa
open Go.RowKit
set_option linter.unusedVariables false
def agR (z : Int) : Sl := ⟨1, 0, 0, 0, 1, 8, z, 0, 7⟩
def agS (i : Nat) : Sl := ⟨1, 1 + (i : Int), 1, 0, 3, 8 + (i : Int), 0, 0, 7⟩
def agL (z : Int) (l : List Nat) : List Sl := agR z :: l.map agS
theorem agL_len (z : Int) (l : List Nat) : (agL z l).length = l.length + 1 := by unfold agL; simp
theorem ag_root (z : Int) (l : List Nat) : lkS (agL z l) 1 0 = some (agR z) := by
  unfold lkS atL agL
  rw [List.findIdx?_cons]
  rfl
theorem ag_none {z : Int} {l : List Nat} {n s : Int} (h : ¬ (n = 1 ∧ s = 0)) (h2 : ∀ i ∈ l, ¬ (n = 1 ∧ s = 1 + (i : Int))) : atL (agL z l) n s = none := by
  refine at_none_iff.2 fun x hx => ?_
  unfold agL at hx
  rcases List.mem_cons.1 hx with e | e
  · subst e
    rintro ⟨e1, e2⟩
    exact h ⟨e1.symm, e2.symm⟩
  · obtain ⟨i, hi, rfl⟩ := List.mem_map.1 e
    rintro ⟨e1, e2⟩
    exact h2 i hi ⟨e1.symm, e2.symm⟩
theorem lk_of_none {L : List Sl} {n s : Int} (h : atL L n s = none) : lkS L n s = none := by unfold lkS; rw [h]
theorem ag_both {z : Int} {l : List Nat} {n s : Int} (hp : placeOk n s = true) (h : ¬ (n = 1 ∧ s = 0)) (h2 : ∀ i ∈ l, ¬ (n = 1 ∧ s = 1 + (i : Int))) : bothC (agL z l) 1 0 n s = 0 := by
  unfold bothC
  rw [ag_root]
  simp only
  rw [hp, if_neg (by simp), lk_of_none (ag_none h h2)]
  rfl
theorem ag_keep {z : Int} {i : Nat} (h : (i : Int) < z) : keepB 8 z (agS i) = true := by
  unfold keepB allB meetB unitsL agS
  simp
  omega
theorem ag_rkeep (z : Int) : keepB 8 z (agR z) = false := by
  unfold keepB allB agR
  simp
theorem ag_free (z : Int) : freeL (agL z []) 8 z = true := by
  unfold freeL agL
  simp [ag_rkeep]
theorem ag_full {z : Int} {l : List Nat} {i : Nat} (hi : i ∈ l) (h : (i : Int) < z) : freeL (agL z l) 8 z = false :=
  free_no (y := agS i) (by unfold agL; exact List.mem_cons_of_mem _ (List.mem_map.2 ⟨i, hi, rfl⟩)) (ag_keep h)
theorem ag_ins (z : Int) (m : Nat) : insL (agL z (List.range m)) (agS m) = agL z (List.range (m + 1)) := by
  rw [ins_end]
  · unfold agL
    rw [List.range_succ, List.map_append]
    rfl
  · intro y hy
    rw [before_iff]
    unfold agL at hy
    rcases List.mem_cons.1 hy with e | e
    · subst e
      exact .inr ⟨rfl, show (0 : Int) < 1 + (m : Int) by omega⟩
    · obtain ⟨j, hj, rfl⟩ := List.mem_map.1 e
      have hj' := List.mem_range.1 hj
      exact .inr ⟨rfl, show 1 + (j : Int) < 1 + (m : Int) by omega⟩
theorem ag_putR {z : Int} {m : Nat} (h : m < 12) : putR (agL z (List.range m)) 1 (1 + (m : Int)) 3 (8 + (m : Int)) 0 0 7 1 0 = agL z (List.range (m + 1)) := by
  have hp : putP (agL z (List.range m)) 1 (1 + (m : Int)) 3 (8 + (m : Int)) 0 0 7 1 0 := by
    refine ⟨?_, ag_none (by omega) (fun i hi => by have := List.mem_range.1 hi; omega), ?_, .inr ?_⟩
    · rw [placeOk_iff]; unfold placeP; omega
    · rw [chk_iff]
      unfold chkP fitP
      rw [if_neg (by decide), if_neg (by decide), if_neg (by decide)]
      omega
    · intro e
      have := ag_root z (List.range m)
      unfold lkS at this
      rw [e] at this
      cases this
  unfold putR
  rw [if_pos ((putOk_iff _ _ _ _ _ _ _ _ _ _).2 hp)]
  exact ag_ins z m
theorem ag_FG {z : Int} {l : List Nat} {F : Int × Int → Int} {m : Nat} (hl : ∀ i ∈ l, (i : Int) < z) (hm : l.length = m) (hF : F (8, z) = (m : Int)) : F1 (agL z l) F 8 z (8, z) = (m : Int) := by
  unfold F1
  cases l with
  | nil =>
    rw [if_pos (ag_free z)]
    unfold upF
    rw [if_pos rfl]
    simp at hm
    omega
  | cons i l =>
    rw [if_neg (by rw [ag_full List.mem_cons_self (hl i List.mem_cons_self)]; simp)]
    exact hF
/-- One more of them. -/
theorem ag_make {z : Int} {m : Nat} {F : Int × Int → Int} (hz : z ≤ 12) (hm : (m : Int) < z) (hF : F (8, z) = (m : Int)) (hB : FB F) : ∃ G, mkR (agL z (List.range m)) F 1 0 1 (1 + (m : Int)) 3 0 = ⟨0, 8 + (m : Int), agL z (List.range (m + 1)), G⟩ ∧ G (8, z) = ((m + 1 : Nat) : Int) ∧ FB G := by
  have hf := ag_FG (l := List.range m) (fun i hi => by have := List.mem_range.1 hi; omega) (by simp) hF
  have hb : bothC (agL z (List.range m)) 1 0 1 (1 + (m : Int)) = 0 := ag_both (by rw [placeOk_iff]; unfold placeP; omega) (by omega) (fun i hi => by have := List.mem_range.1 hi; omega)
  refine ⟨upF (F1 (agL z (List.range m)) F 8 z) (8, z) ((m : Int) + 1), ?_, ?_, ?_⟩
  · have := mkR_yes (k := 3) (z := 0) (u := (m : Int)) (v := 1) (ag_root z (List.range m)) rfl hb (un_fine (by decide) (by decide)) rfl hf rfl (by show ¬ z - (m : Int) < 1; omega)
    rw [this]
    show MkR.mk 0 (8 + (m : Int)) (putR (agL z (List.range m)) 1 (1 + (m : Int)) 3 (8 + (m : Int)) 0 0 7 1 0) _ = _
    rw [ag_putR (by omega)]
    rfl
  · show upF _ (8, z) ((m : Int) + 1) (8, z) = _
    unfold upF
    rw [if_pos rfl]
    omega
  · exact (F1_FB hB 8 z).up _ (by omega) (by omega)
/-- No more of them. -/
theorem ag_over {z : Int} {l : List Nat} {F : Int × Int → Int} {i : Nat} {k : Int} (hi : i ∈ l) (hiz : (i : Int) < z) (hF : F (8, z) = z) (hk : kindB k = false) (hs : sizeB k 0 = false) (hk1 : k ≠ 1) : mkR (agL z l) F 1 0 2 0 k 0 = ⟨8, 0, agL z l, F⟩ := by
  have hG : F1 (agL z l) F (agR z).o (agR z).z = F := by unfold F1; rw [if_neg]; show ¬ freeL (agL z l) 8 z = true; rw [ag_full hi hiz]; simp
  have hb : bothC (agL z l) 1 0 2 0 = 0 := ag_both (by kernel_rfl) (by omega) (fun i hi => by omega)
  exact mkR_mem (ag_root z l) rfl hb (un_fine hk hs) hG (by show z - F (8, z) < unN k 0; rw [hF, show unN k 0 = 1 from if_neg hk1]; omega)
/-- All gone: made anew. -/
theorem ag_anew {z : Int} {F : Int × Int → Int} (hz : 1 ≤ z) : ∃ L' G, mkR (agL z []) F 1 0 2 0 4 0 = ⟨0, 8, L', G⟩ ∧ G (8, z) = 1 := by
  have hG : F1 (agL z []) F (agR z).o (agR z).z = upF F (8, z) 0 := by unfold F1; rw [if_pos]; rfl; exact ag_free z
  have hb : bothC (agL z []) 1 0 2 0 = 0 := ag_both (by kernel_rfl) (by omega) (fun i hi => by cases hi)
  have hu : upF F (8, z) 0 ((agR z).o, (agR z).z) = 0 := by unfold upF; rw [if_pos]; rfl
  have := mkR_yes (k := 4) (z := 0) (u := 0) (v := 1) (ag_root z []) rfl hb (un_fine (by decide) (by decide)) hG hu rfl (by show ¬ z - 0 < 1; omega)
  refine ⟨_, _, this, ?_⟩
  show upF (upF F (8, z) 0) (8, z) (0 + 1) (8, z) = 1
  unfold upF
  rw [if_pos rfl]
  rfl
theorem ag_at {z : Int} {l : List Nat} (hn : l.Nodup) {k i : Nat} (h : l[k]? = some i) : atL (agL z l) 1 (1 + (i : Int)) = some (k + 1) ∧ (agL z l)[k + 1]? = some (agS i) := by
  have hg : (agL z l)[k + 1]? = some (agS i) := by unfold agL; rw [List.getElem?_cons_succ, List.getElem?_map, h]; rfl
  refine ⟨?_, hg⟩
  obtain ⟨hk, e⟩ := List.getElem?_eq_some_iff.1 h
  unfold atL
  rw [List.findIdx?_eq_some_iff_getElem]
  refine ⟨by rw [agL_len]; omega, ?_, ?_⟩
  · have := (List.getElem?_eq_some_iff.1 hg).2
    rw [this]
    simp [agS]
  · intro j hj
    cases j with
    | zero => unfold agL; simp [agR]; omega
    | succ j =>
      have hjl : j < l.length := by omega
      have : (agL z l)[j + 1]'(by rw [agL_len]; omega) = agS (l[j]) := by unfold agL; simp
      rw [this]
      have hne : l[j] ≠ i := by
        intro q
        rw [← e] at q
        exact List.pairwise_iff_getElem.1 hn j k hjl hk (by omega) q
      simp [agS]
      omega
theorem ag_drop (z : Int) (l : List Nat) (k i : Nat) : dropL (agL z l) 1 (1 + (i : Int)) (k + 1) (agS i) = agL z (l.eraseIdx k) := by
  have h0 : reF 1 (1 + (i : Int)) (agS i).u (agS i).v (agR z) = agR z := by
    unfold reF
    rw [if_neg]
    intro q
    have : (0 : Int) = 1 := q.1
    omega
  have h1 : ∀ j, reF 1 (1 + (i : Int)) (agS i).u (agS i).v (agS j) = agS j := fun j => by
    unfold reF
    rw [if_neg]
    intro q
    have : (0 : Int) = 1 + (i : Int) := q.2
    omega
  unfold dropL agL
  rw [List.eraseIdx_cons_succ, List.map_cons, h0, List.eraseIdx_eq_take_drop_succ, List.eraseIdx_eq_take_drop_succ, ← List.map_take, ← List.map_drop, ← List.map_append, List.map_map]
  congr 1
  exact List.map_congr_left fun x _ => h1 x
/-- Those that are left, in the midst of dropping. -/
def AgLeft (z : Nat) (keep : Bool) (left i : Nat) (l : List Nat) : Prop := l.Nodup ∧ l.length ≤ z ∧ ∀ j, j ∈ l ↔ j < z ∧ (i ≤ j ∨ (keep = true ∧ j = left))
theorem agleft_start (z : Nat) (keep : Bool) (left : Nat) : AgLeft z keep left 0 (List.range z) := ⟨List.nodup_range, by simp, fun j => by simp⟩
theorem agleft_skip {z : Nat} {left : Nat} {l : List Nat} (h : AgLeft z true left left l) : AgLeft z true left (left + 1) l := by
  obtain ⟨h1, h2, h3⟩ := h
  refine ⟨h1, h2, fun j => ?_⟩
  rw [h3 j]
  constructor
  · rintro ⟨q1, q2⟩
    refine ⟨q1, ?_⟩
    rcases q2 with q | ⟨_, q⟩
    · by_cases e : j = left
      · exact .inr ⟨rfl, e⟩
      · exact .inl (by omega)
    · exact .inr ⟨rfl, q⟩
  · rintro ⟨q1, q2⟩
    refine ⟨q1, ?_⟩
    rcases q2 with q | q
    · exact .inl (by omega)
    · exact .inr q
theorem agleft_next {z : Nat} {keep : Bool} {left i : Nat} {l : List Nat} (h : AgLeft z keep left i l) (hi : i < z) (hs : keep = false ∨ i ≠ left) : ∃ k, l[k]? = some i ∧ AgLeft z keep left (i + 1) (l.eraseIdx k) := by
  obtain ⟨h1, h2, h3⟩ := h
  obtain ⟨k, hk, e⟩ := List.mem_iff_getElem.1 ((h3 i).2 ⟨hi, .inl (Nat.le_refl _)⟩)
  have hne : ∀ j, j ∈ l.eraseIdx k ↔ j ∈ l ∧ j ≠ i := by
    intro j
    rw [List.mem_eraseIdx_iff_getElem]
    constructor
    · rintro ⟨p, hp, hpk, rfl⟩
      refine ⟨List.getElem_mem hp, fun q => ?_⟩
      rcases Nat.lt_trichotomy p k with a | a | a
      · exact List.pairwise_iff_getElem.1 h1 p k hp hk a (q.trans e.symm)
      · exact hpk a
      · exact List.pairwise_iff_getElem.1 h1 k p hk hp a (e.trans q.symm)
    · rintro ⟨q1, q2⟩
      obtain ⟨p, hp, rfl⟩ := List.mem_iff_getElem.1 q1
      exact ⟨p, hp, fun a => by subst a; exact q2 e, rfl⟩
  refine ⟨k, by rw [List.getElem?_eq_getElem hk, e], List.Sublist.nodup (List.eraseIdx_sublist l k) h1, by have := List.length_eraseIdx_le l k; omega, fun j => ?_⟩
  rw [hne, h3 j]
  constructor
  · rintro ⟨⟨q1, q2⟩, q3⟩
    refine ⟨q1, ?_⟩
    rcases q2 with q | q
    · exact .inl (by omega)
    · exact .inr q
  · rintro ⟨q1, q2⟩
    refine ⟨⟨q1, ?_⟩, ?_⟩
    · rcases q2 with q | q
      · exact .inl (by omega)
      · exact .inr q
    · rintro rfl
      rcases q2 with q | ⟨qa, qb⟩
      · omega
      · rcases hs with q | q
        · rw [q] at qa; cases qa
        · exact q qb
theorem agleft_end {z : Nat} {left : Nat} {l : List Nat} (h : AgLeft z false left z l) : l = [] := by
  obtain ⟨h1, h2, h3⟩ := h
  cases l with
  | nil => rfl
  | cons j l =>
    obtain ⟨q1, q2⟩ := (h3 j).1 List.mem_cons_self
    rcases q2 with q | ⟨q, _⟩
    · omega
    · cases q
end Go.Proofs.Ythjhpcbhkcmghaa
namespace Go.Proofs.Ythjhpcbhkcmghaa
open Go.RowKit
set_option linter.unusedVariables false
set_option linter.unusedSimpArgs false
theorem ag_first (z : Int) (h1 : 1 ≤ z) (h2 : z ≤ 12) : putP [] 1 0 1 8 z 0 7 0 0 ∧ insL [] ⟨1, 0, 0, 0, 1, 8, z, 0, 7⟩ = agL z [] := by
  refine ⟨⟨by decide, rfl, ?_, .inl ⟨rfl, rfl⟩⟩, rfl⟩
  rw [chk_iff]
  unfold chkP fitP
  rw [if_pos rfl]
  omega
/-- Table and marks, a place's box. -/
structure A9 (w : World) (t y p : Nat) (L : List Sl) (F : Int × Int → Int) (wx : World) : Prop where
  tm : TM w t y L F wx
  pa : Bk wx p 40 [.int .i64 1, .int .i64 0]
theorem A9.grew {w : World} {t y p : Nat} {L : List Sl} {F : Int × Int → Int} {wx wy : World} (h : A9 w t y p L F wx) (k : Kp [] wx wy) : A9 w t y p L F wy := ⟨h.tm.grew k, h.pa.kept k (by simp)⟩
theorem TM.heads {w wr : World} {t y : Nat} {L : List Sl} {F : Int × Int → Int} (h : TM w t y L F wr) {g : Nat} {T : TypeId} {vs : List Value} (b : Bk wr g T vs) (h1 : T ≠ 27) (h2 : T ≠ 33) : g ≠ t ∧ g ≠ y := by
  obtain ⟨m, hp, _⟩ := h.tab.tab
  obtain ⟨m', hb, _⟩ := h.ma.mp
  exact ⟨b.apart hp.head h1, b.apart hb h2⟩
theorem TM.keeps {w wr wy : World} {t y : Nat} {L : List Sl} {F : Int × Int → Int} (h : TM w t y L F wr) (T : Mtc w t y wr wy) {g : Nat} {vs : List Value} (b : Bk wr g 40 vs) : Bk wy g 40 vs := T.bk b (h.heads b (by decide) (by decide)).1 (h.heads b (by decide) (by decide)).2
theorem A9.turned {w : World} {t y p : Nat} {L L' : List Sl} {F F' : Int × Int → Int} {wx wy : World} (h : A9 w t y p L F wx) (X : TM w t y L' F' wy) (T : Mtc w t y wx wy) : A9 w t y p L' F' wy := ⟨X, h.tm.keeps T h.pa⟩
set_option maxRecDepth 4000 in
set_option maxHeartbeats 4000000 in
theorem again_walk (size left : Int) (keep : Bool) (w : World) (_ : (Lit.int .i64 size).wf = true) (_ : (Lit.int .i64 left).wf = true) :
    Calls Try.prog 7 #[.int .i64 size, .int .i64 left, .bool keep] w fun e w' => e = .returned (.bool true) ∧ Below w.heap.size w w' := by
  obtain ⟨s0, hs0⟩ : ∃ x, size % 12 = x := ⟨_, rfl⟩
  obtain ⟨z, hz⟩ : ∃ z : Nat, 1 + s0 = (z : Int) := ⟨(1 + s0).toNat, by omega⟩
  obtain ⟨z1, z12⟩ : 1 ≤ z ∧ z ≤ 12 := by omega
  have wz : IntKind.i64.wrap (1 + s0) = (z : Int) := by rw [IntKind.wrap_i64]; omega
  obtain ⟨lf, hlf⟩ : ∃ lf : Nat, left % (z : Int) = (lf : Int) := ⟨(left % (z : Int)).toNat, by have := Int.emod_nonneg left (show (z : Int) ≠ 0 by omega); omega⟩
  have lfz : lf < z := by have := Int.emod_lt_of_pos left (show (0 : Int) < z by omega); omega
  have h10 : Hid (PIn (1, 0)) := pin9 (by decide) (by decide) (by decide) (by decide)
  have h20 : Hid (PIn (2, 0)) := pin9 (by decide) (by decide) (by decide) (by decide)
  have h8z : Hid (PIn (8, (z : Int))) := pin9 (by decide) (by decide) (by omega) (by omega)
  have h1i : Hid (∀ m : Nat, m < z → PIn (1, 1 + (m : Int))) := fun m hm => pin9 (by decide) (by decide) (by omega) (by omega)
  have hfirst := hide (ag_first (z : Int) (by omega) (by omega))
  replace hs0 := hide hs0
  replace hz := hide hz
  replace hlf := hide hlf
  go_enter Try.func7, Try.ntmps7
  go_wp2_with fail
  refine (first_calls _).mono ?_
  rintro e W0 ⟨rfl, K0⟩
  replace K0 := hide K0
  go_wp2_with fail
  refine (number_to _ _ _ _ (by omega) (by omega) (unhide hs0)).mono ?_
  rintro e W1 ⟨rfl, rfl⟩
  go_wp2_with fail
  refine (number_to _ _ _ _ (by omega) (by omega) (unhide hlf)).mono ?_
  rintro e W1 ⟨rfl, rfl⟩
  have TM1 := TM.start (w := w) (y := W1.heap.size + 1) (TabIn.of (T := []) (w := w) (unhide K0) rfl (Kp.refl [] _)) (by simp) (Kp.refl [] _)
  have x1 := Bk.next (p := W1.heap.size + 1 + 1) ((W1.alloc (.cells #[.map none] 27)).alloc (.cells #[.map none] 33)) 40 [.int .i64 1, .int .i64 0] (by simp)
  have X1 := hide (A9.mk (TM1.grew ((Kp.refl [] _).alloc (.cells #[.int .i64 1, .int .i64 0] 40))) x1)
  obtain ⟨t, et⟩ : ∃ t, W1.heap.size = t := ⟨_, rfl⟩
  rw [et] at X1
  clear x1 TM1
  go_wp2_with fail
  generalize ((W1.alloc (.cells #[.map none] 27)).alloc (.cells #[.map none] 33)).alloc (.cells #[.int .i64 1, .int .i64 0] 40) = W2 at *
  clear et K0
  refine (tput_yes (unhide X1).tm.tab (unhide h10) pin_zero (unhide hfirst).1 (by decide) (unhide hfirst).2).mono ?_
  rintro e W3 ⟨rfl, X3, T3⟩
  have Y3 := hide ((unhide X1).turned ((unhide X1).tm.turnT T3 X3) (Mtc.ofT T3))
  clear X3 T3 X1
  go_wp2_with fail
  go_loopg [11] z (fun m i wr => ∃ j : Nat, j ≤ z ∧ ∃ F, m = z - j ∧ i = .int .i64 j ∧ F (8, (z : Int)) = (j : Int) ∧ FB F ∧ A9 w t (t + 1) (t + 1 + 1) (agL z (List.range j)) F wr)
  case atStart => exact ⟨0, Nat.zero_le _, _, by omega, rfl, rfl, FB.zero, unhide Y3⟩
  case round =>
    obtain ⟨j, hj, F, rfl, rfl, hF, hB, hX⟩ := hrel
    clear Y3
    have X := hide hX
    clear hX
    have p0 := (unhide X).pa.cell (i := 0) rfl
    have p1 := (unhide X).pa.cell (i := 1) rfl
    by_cases hlt : j < z
    · have b1 : (j : Int) < (z : Int) := by omega
      obtain ⟨G, hR, hG, hGB⟩ := ag_make (z := (z : Int)) (m := j) (by omega) (by omega) hF hB
      have w1 : IntKind.i64.wrap (1 + (j : Int)) = 1 + (j : Int) := by rw [IntKind.wrap_i64]; omega
      have w8 : IntKind.i64.wrap (8 + (j : Int)) = 8 + (j : Int) := by rw [IntKind.wrap_i64]; omega
      have w9 : IntKind.i64.wrap ((j : Int) + 1) = (j : Int) + 1 := by rw [IntKind.wrap_i64]; omega
      have hlen : Hid ((agL (z : Int) (List.range j)).length < 65536) := by unfold Hid; rw [agL_len, List.length_range]; omega
      replace hR := hide hR
      replace hG := hide hG
      replace hGB := hide hGB
      replace hF := hide hF
      replace hB := hide hB
      go_wp2_with fail
      refine (kmake (unhide X).tm (unhide hB) (unhide h10) (unhide h1i j hlt) 3 0 (unhide hlen) (unhide hR)).mono ?_
      rintro e W4 ⟨he, Y4, T4⟩
      simp only [capR, if_true] at he
      subst he
      have X4 := hide ((unhide X).turned Y4 T4)
      have X5 := hide ((unhide X4).grew ((Kp.refl [] W4).alloc (.cells #[.int .i64 3, .int .i64 (8 + (j : Int)), .int .i64 0, .int .i64 0, .int .i64 7] 38)))
      clear Y4 T4 X p0 p1 X4
      go_wp2
      go_roundg (z - (j + 1))
      case measure => omega
      case rel => exact ⟨j + 1, by omega, G, rfl, by go_num, unhide hG, unhide hGB, unhide X5⟩
    · have b1 : decide ((j : Int) < (z : Int)) = false := decide_eq_false (by omega)
      have ej : j = z := by omega
      subst ej
      have S5 := hide (Bk.new wr 40 [.int .i64 2, .int .i64 0])
      have X5 := hide ((unhide X).grew ((Kp.refl [] wr).alloc (.cells #[.int .i64 2, .int .i64 0] 40)))
      have hR := hide (ag_over (l := List.range j) (i := 0) (k := 3) (List.mem_range.2 (by omega)) (by omega) hF (by decide) (by decide) (by decide))
      have hlen : Hid ((agL (j : Int) (List.range j)).length < 65536) := by unfold Hid; rw [agL_len, List.length_range]; omega
      obtain ⟨q, eq⟩ : ∃ q, wr.heap.size = q := ⟨_, rfl⟩
      rw [eq] at S5
      replace hF := hide hF
      replace hB := hide hB
      clear p0 p1 X
      have p0 := (unhide X5).pa.cell (i := 0) rfl
      have p1 := (unhide X5).pa.cell (i := 1) rfl
      have r0 := (unhide S5).cell (i := 0) rfl
      have r1 := (unhide S5).cell (i := 1) rfl
      go_wp2_with fail
      generalize wr.alloc (.cells #[.int .i64 2, .int .i64 0] 40) = W5 at *
      clear eq
      refine (kmake (unhide X5).tm (unhide hB) (unhide h10) (unhide h20) 3 0 (unhide hlen) (unhide hR)).mono ?_
      rintro e W6 ⟨he, Y6, T6⟩
      simp only [capR, show ¬ ((8:Int) = 0) from by decide, if_false] at he
      subst he
      have X6 := hide (((unhide X5).turned Y6 T6).grew ((Kp.refl [] W6).alloc (.cells #[.int .i64 0, .int .i64 0, .int .i64 0, .int .i64 0, .int .i64 0] 38)))
      have S6 := hide (((unhide X5).tm.keeps T6 (unhide S5)).alloc (.cells #[.int .i64 0, .int .i64 0, .int .i64 0, .int .i64 0, .int .i64 0] 38))
      clear Y6 T6 X5 S5 p0 p1 r0 r1
      go_wp2_with fail
      generalize W6.alloc (.cells #[.int .i64 0, .int .i64 0, .int .i64 0, .int .i64 0, .int .i64 0] 38) = W7 at *
      go_loopg [17] j (fun m i wr => ∃ a : Nat, a ≤ j ∧ ∃ l, m = j - a ∧ i = .int .i64 a ∧ AgLeft j keep lf a l ∧ A9 w t (t + 1) (t + 1 + 1) (agL j l) F wr ∧ Bk wr q 40 [.int .i64 2, .int .i64 0])
      case atStart => exact ⟨0, Nat.zero_le _, List.range j, by omega, rfl, agleft_start _ _ _, unhide X6, unhide S6⟩
      case round =>
        obtain ⟨a, ha, l, rfl, rfl, hL, hX, hS⟩ := hrel
        clear X6 S6
        have X := hide hX
        have S := hide hS
        clear hX hS
        by_cases hla : a < j
        · have b2 : (a : Int) < (j : Int) := by omega
          have w1 : IntKind.i64.wrap (1 + (a : Int)) = 1 + (a : Int) := by rw [IntKind.wrap_i64]; omega
          by_cases hsk : keep = true ∧ a = lf
          · obtain ⟨rfl, rfl⟩ := hsk
            have hL2 := hide (agleft_skip hL)
            replace hL := hide hL
            go_wp2
            go_roundg (j - (a + 1))
            case measure => omega
            case rel => exact ⟨a + 1, by omega, l, rfl, by go_num, unhide hL2, unhide X, unhide S⟩
          · have hs' : keep = false ∨ a ≠ lf := by
              cases keep
              · exact .inl rfl
              · exact .inr (fun e => hsk ⟨rfl, e⟩)
            obtain ⟨k, hk, hL2⟩ := agleft_next hL hla hs'
            obtain ⟨hat, hget⟩ := ag_at (z := (j : Int)) hL.1 hk
            have hdr := hide (fun wr (h : TabIn w t (agL (j : Int) l) wr) => tdrop_yes h hat hget (ag_drop (j : Int) l k a))
            replace hL := hide hL
            replace hL2 := hide hL2
            clear hk hat hget
            cases keep
            · clear hsk hs'
              go_wp2_with fail
              refine (unhide hdr _ (unhide X).tm.tab).mono ?_
              rintro e W8 ⟨rfl, X8, T8⟩
              have Y8 := hide ((unhide X).turned ((unhide X).tm.turnT T8 X8) (Mtc.ofT T8))
              have S8 := hide ((unhide X).tm.keeps (Mtc.ofT T8) (unhide S))
              clear X8 T8 X S hdr
              go_wp2
              go_roundg (j - (a + 1))
              case measure => omega
              case rel => exact ⟨a + 1, by omega, _, rfl, by go_num, unhide hL2, unhide Y8, unhide S8⟩
            · have hne : ((a : Int) != (lf : Int)) = true := bne_iff_ne.2 (fun e => hsk ⟨rfl, by omega⟩)
              clear hsk hs'
              go_wp2_with fail
              refine (unhide hdr _ (unhide X).tm.tab).mono ?_
              rintro e W8 ⟨rfl, X8, T8⟩
              have Y8 := hide ((unhide X).turned ((unhide X).tm.turnT T8 X8) (Mtc.ofT T8))
              have S8 := hide ((unhide X).tm.keeps (Mtc.ofT T8) (unhide S))
              clear X8 T8 X S hdr
              go_wp2
              go_roundg (j - (a + 1))
              case measure => omega
              case rel => exact ⟨a + 1, by omega, _, rfl, by go_num, unhide hL2, unhide Y8, unhide S8⟩
        · have b2 : decide ((a : Int) < (j : Int)) = false := decide_eq_false (by omega)
          have ea : a = j := by omega
          subst ea
          have p0 := (unhide X).pa.cell (i := 0) rfl
          have p1 := (unhide X).pa.cell (i := 1) rfl
          have r0 := (unhide S).cell (i := 0) rfl
          have r1 := (unhide S).cell (i := 1) rfl
          have hlen : Hid ((agL (a : Int) l).length < 65536) := by unfold Hid; rw [agL_len]; have := hL.2.1; omega
          cases keep
          · have hl0 := agleft_end hL
            subst hl0
            obtain ⟨L', G, hR2, hG⟩ := ag_anew (z := (a : Int)) (F := F) (by omega)
            replace hR2 := hide hR2
            replace hG := hide hG
            clear hL
            go_wp2_with fail
            refine (kmake (unhide X).tm (unhide hB) (unhide h10) (unhide h20) 4 0 (unhide hlen) (unhide hR2)).mono ?_
            rintro e W8 ⟨he, Y8, T8⟩
            simp only [capR, if_true] at he
            subst he
            have X8 := hide (Y8.grew ((Kp.refl [] W8).alloc (.cells #[.int .i64 4, .int .i64 8, .int .i64 0, .int .i64 0, .int .i64 7] 38)))
            clear Y8 T8 X S p0 p1 r0 r1
            go_wp2_with fail
            refine (mused (unhide X8).ma (unhide h8z) (unhide hG)).mono ?_
            rintro e W9 ⟨rfl, K9⟩
            have X9 := hide ((unhide X8).grew K9)
            clear K9 X8
            go_wp2
            go_ret
            exact ⟨rfl, (unhide X9).tab.kp.below (Nat.le_refl _) (by simp)⟩
          · have hR2 := hide (ag_over (z := (a : Int)) (l := l) (i := lf) (k := 4) ((hL.2.2 lf).2 ⟨lfz, .inr ⟨rfl, rfl⟩⟩) (by omega) (unhide hF) (by decide) (by decide) (by decide))
            clear hL
            go_wp2_with fail
            refine (kmake (unhide X).tm (unhide hB) (unhide h10) (unhide h20) 4 0 (unhide hlen) (unhide hR2)).mono ?_
            rintro e W8 ⟨he, Y8, T8⟩
            simp only [capR, show ¬ ((8:Int) = 0) from by decide, if_false] at he
            subst he
            have X8 := hide (Y8.grew ((Kp.refl [] W8).alloc (.cells #[.int .i64 0, .int .i64 0, .int .i64 0, .int .i64 0, .int .i64 0] 38)))
            clear Y8 T8 X S p0 p1 r0 r1
            go_wp2
            go_ret
            exact ⟨rfl, (unhide X8).tab.kp.below (Nat.le_refl _) (by simp)⟩
end Go.Proofs.Ythjhpcbhkcmghaa
