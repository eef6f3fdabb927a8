/- The sort of pages: cmp.Or, the closure of All, slices.SortFunc. -/
import Derived.Test.YtlallciikcmjmaaKShelf
import Derived.Test.YtlallciikcmjmaaKSortG
import Derived.Test.YtlallciikcmjmaaKSpc0
namespace Go.Proofs.Ytlallciikcmjmaa
open Go.RowKit
set_option linter.unusedVariables false
def orG (a b : Int) : Int := if a = 0 then b else a
theorem compareG_to (x y r : Int) (W : World) (h : Lib.compareInt x y = r) :
    Calls Try.prog 32 #[.int .i64 x, .int .i64 y] W fun e w' => e = .returned (.int .i64 r) ∧ w' = W := by
  rw [← h]
  exact AnyG.cmp_Compare_int Try.shCmp x y W
set_option maxHeartbeats 1000000 in
theorem orG_calls (a b : Int) (g : Nat) (w : World) (c0 : w.cell? ⟨g, 0, none⟩ = some (.int .i64 a)) (c1 : w.cell? ⟨g, 1, none⟩ = some (.int .i64 b)) :
    Calls Try.prog 31 #[.slice (some ⟨g, 0, none⟩) 2 2] w fun e w' => e = .returned (.int .i64 (orG a b)) ∧ w' = w := by
  go_enter Try.func31, Try.ntmps31
  go_wp2_with fail
  go_loopg [8] 2 (fun m i wx => ∃ j : Nat, j ≤ 2 ∧ m = 2 - j ∧ i = .int .i64 j ∧ (1 ≤ j → a = 0) ∧ (2 ≤ j → b = 0) ∧ wx = w)
  case atStart => exact ⟨0, by omega, rfl, rfl, by omega, by omega, rfl⟩
  case round =>
    obtain ⟨j, hj, rfl, rfl, h1, h2, rfl⟩ := hrel
    match j, hj with
    | 0, _ =>
      clear h1 h2
      by_cases e : a = 0
      · subst e
        go_wp2
        go_roundg 1
        case measure => omega
        case rel => exact ⟨1, by omega, rfl, by go_num, by simp, by omega, rfl⟩
      · have e' : (a == 0) = false := beq_eq_false_iff_ne.2 e
        go_wp2
        go_ret
        exact ⟨ret_int (by unfold orG; rw [if_neg e]), rfl⟩
    | 1, _ =>
      have e := h1 (by omega)
      subst e
      clear h1 h2
      by_cases e : b = 0
      · subst e
        go_wp2
        go_roundg 0
        case measure => omega
        case rel => exact ⟨2, by omega, rfl, by go_num, by simp, by simp, rfl⟩
      · have e' : (b == 0) = false := beq_eq_false_iff_ne.2 e
        go_wp2
        go_ret
        exact ⟨ret_int (by unfold orG; rw [if_pos rfl]), rfl⟩
    | 2, _ =>
      have e := h1 (by omega)
      have e2 := h2 (by omega)
      subst e
      subst e2
      clear h1 h2
      go_wp2
      go_ret
      exact ⟨ret_int (by unfold orG; rw [if_pos rfl]), rfl⟩
/-- Some draws on, some blocks more. -/
def Grw (w w' : World) : Prop := ∃ q os, w' = Sort.grow (w.drewN q) os
theorem Grw.refl (w : World) : Grw w w := ⟨0, #[], by rw [Sort.grow_empty]; rfl⟩
theorem Grw.drew {w w' : World} (h : Grw w w') : Grw w w'.drew := by
  obtain ⟨q, os, rfl⟩ := h
  exact ⟨q + 1, os, rfl⟩
theorem Grw.alloc {w w' : World} (h : Grw w w') (o : Obj) : Grw w (w'.alloc o) := by
  obtain ⟨q, os, rfl⟩ := h
  exact ⟨q, os ++ #[o], by rw [Sort.alloc_eq_grow, Sort.grow_grow]⟩
def cfG (x y : Int × Int) : Int := orG (Lib.compareInt x.1 y.1) (Lib.compareInt x.2 y.2)
set_option maxHeartbeats 2000000 in
theorem cmpG_calls (x y : Int × Int) (W : World) :
    Calls Try.prog 30 #[.agg #[.int .i64 x.1, .int .i64 x.2], .agg #[.int .i64 y.1, .int .i64 y.2]] W fun e w' => e = .returned (.int .i64 (cfG x y)) ∧ Grw W w' := by
  obtain ⟨r0, h0⟩ : ∃ r, Lib.compareInt x.1 y.1 = r := ⟨_, rfl⟩
  obtain ⟨r1, h1⟩ : ∃ r, Lib.compareInt x.2 y.2 = r := ⟨_, rfl⟩
  have HR := hide (show cfG x y = orG r0 r1 from by unfold cfG; rw [h0, h1])
  obtain ⟨x0, x1⟩ := x
  obtain ⟨y0, y1⟩ := y
  simp only at h0 h1 ⊢
  replace h0 := hide h0
  replace h1 := hide h1
  have b0 := Bk.new W 30 [.int .i64 x0, .int .i64 x1]
  have b1 := Gr.bk_next (p := W.heap.size + 1) (W.alloc (.cells #[.int .i64 x0, .int .i64 x1] 30)) 30 [.int .i64 y0, .int .i64 y1] (by simp)
  have G0 := hide (((Grw.refl W).alloc (.cells #[.int .i64 x0, .int .i64 x1] 30)).alloc (.cells #[.int .i64 y0, .int .i64 y1] 30))
  replace b0 := b0.alloc (.cells #[.int .i64 y0, .int .i64 y1] 30)
  have hsz : ((W.alloc (.cells #[.int .i64 x0, .int .i64 x1] 30)).alloc (.cells #[.int .i64 y0, .int .i64 y1] 30)).heap.size = W.heap.size + 2 := by simp
  replace b0 := hide b0
  replace b1 := hide b1
  go_enter Try.func30, Try.ntmps30
  go_wp2_with fail
  generalize (W.alloc (.cells #[.int .i64 x0, .int .i64 x1] 30)).alloc (.cells #[.int .i64 y0, .int .i64 y1] 30) = w2 at *
  have BN := Gr.bk_next (p := W.heap.size + 2) w2 3 [.int .i64 r0, .int .i64 r1] hsz
  have E0 : Hid (((w2.alloc (.cells #[.int .i64 r0, .int .i64 r1] 3)).drew).cell? ⟨W.heap.size + 2, 0, none⟩ = some (.int .i64 r0)) := hide (BN.cell (i := 0) rfl)
  have E1 : Hid (((w2.alloc (.cells #[.int .i64 r0, .int .i64 r1] 3)).drew).cell? ⟨W.heap.size + 2, 1, none⟩ = some (.int .i64 r1)) := hide (BN.cell (i := 1) rfl)
  clear BN
  have c0 := (unhide b0).cell (i := 0) rfl
  have c1 := (unhide b0).cell (i := 1) rfl
  have d0 := (unhide b1).cell (i := 0) rfl
  have d1 := (unhide b1).cell (i := 1) rfl
  go_region_held3 (fun w' => w'.cell? ⟨W.heap.size, 0, none⟩ = some (.int .i64 x0) ∧ w'.cell? ⟨W.heap.size, 1, none⟩ = some (.int .i64 x1) ∧ w'.cell? ⟨W.heap.size + 1, 0, none⟩ = some (.int .i64 y0) ∧ w'.cell? ⟨W.heap.size + 1, 1, none⟩ = some (.int .i64 y1)) (go_keep) (first
    | (go_at_call 31; (with_reducible refine (orG_calls r0 r1 (W.heap.size + 2) ((w2.alloc (.cells #[.int .i64 r0, .int .i64 r1] 3)).drew) (unhide E0) (unhide E1)).mono ?_); rintro e V1 ⟨rfl, rfl⟩)
    | (go_at_call 32; (with_reducible refine (compareG_to x0 y0 r0 _ (unhide h0)).mono ?_); rintro e V1 ⟨rfl, rfl⟩)
    | (go_at_call 32; (with_reducible refine (compareG_to x1 y1 r1 _ (unhide h1)).mono ?_); rintro e V1 ⟨rfl, rfl⟩))
  all_goals
    go_wp2
    go_ret
    exact ⟨ret_int (unhide HR).symm, ((unhide G0).alloc _).drew⟩
def befP (x y : Int × Int) : Prop := x.1 < y.1 ∨ x.1 = y.1 ∧ x.2 < y.2
theorem ltG_iff (x y : Int × Int) : ltOf cfG x y = true ↔ befP x y := by
  unfold ltOf cfG orG Lib.compareInt befP
  rw [decide_eq_true_iff]
  by_cases h1 : x.1 < y.1
  · simp [h1]
  · by_cases h2 : x.1 > y.1
    · simp [h1, h2]; omega
    · have e : x.1 = y.1 := by omega
      by_cases h3 : x.2 < y.2
      · simp [h3, e]
      · by_cases h4 : x.2 > y.2 <;> simp [h3, h4, e]
theorem ltG_no (x y : Int × Int) : ltOf cfG x y = false ↔ ¬ befP x y := by rw [← ltG_iff]; simp
theorem swoG : Sort.SWO (ltOf cfG) :=
  ⟨fun x => by rw [ltG_no]; unfold befP; omega, fun x y z h1 h2 => by rw [ltG_iff] at *; unfold befP at *; omega, fun x y z h1 h2 => by rw [ltG_no] at *; unfold befP at *; omega⟩
theorem totG (x y : Int × Int) (h1 : ltOf cfG x y = false) (h2 : ltOf cfG y x = false) : x = y := by
  rw [ltG_no] at *
  unfold befP at *
  exact Prod.ext (by omega) (by omega)
/-- Pages, rising. -/
def pgsort (ps : List (Int × Int)) : List (Int × Int) := ps.mergeSort fun x y => !(ltOf cfG) y x
theorem pgsort_perm (ps : List (Int × Int)) : (pgsort ps).Perm ps := List.mergeSort_perm _ _
theorem pgsort_len (ps : List (Int × Int)) : (pgsort ps).length = ps.length := (pgsort_perm ps).length_eq
theorem pgsort_le (ps : List (Int × Int)) : (pgsort ps).Pairwise fun x y => ¬ befP y x := by
  have h := List.pairwise_mergeSort (le := fun x y => !(ltOf cfG) y x) (fun a b c h1 h2 => by
    simp only [Bool.not_eq_true'] at *
    rw [ltG_no] at *
    unfold befP at *
    omega) (fun a b => by
    rw [Bool.or_eq_true, Bool.not_eq_true', Bool.not_eq_true', ltG_no, ltG_no]
    unfold befP
    omega) ps
  refine h.imp ?_
  intro a b hab
  simp only [Bool.not_eq_true'] at hab
  rw [ltG_no] at hab
  exact hab
/-- What is sorted is the rising list of the same pages. -/
theorem pgsort_is {ps qs : List (Int × Int)} (h : ps.Perm qs) (hq : qs.Pairwise befP) : pgsort ps = qs := by
  refine ((pgsort_perm ps).trans h).eq_of_pairwise (fun a b _ _ h1 h2 => ?_) (pgsort_le ps) (hq.imp fun h => ?_)
  · unfold befP at *
    exact Prod.ext (by omega) (by omega)
  · unfold befP at *
    omega
theorem pgs_rises {L : List Pg} (h : PgRises L) : (pgs L).Pairwise befP := by
  unfold pgs
  rw [List.pairwise_map]
  exact h.imp fun h => (pgBef_iff _ _ _ _).1 h
def SortG (w0 : World) (v : Value) (ps : List (Int × Int)) (e : Ending) (w' : World) : Prop := e = .returned (.tuple #[]) ∧ Gr.Rw pageE w0.heap.size w' v (pgsort ps) ∧ Kp [] w0 w'
set_option maxHeartbeats 1000000 in
/-- slices.SortFunc of pages that lie in new memory. -/
theorem sortG_calls {w0 w : World} {v : Value} {ps : List (Int × Int)} (hP : Gr.Rw pageE w0.heap.size w v ps) (K : Kp [] w0 w) (hs : ps.length ≤ 65536) :
    Calls Try.prog 41 #[v, .func (.func 30) #[] #[]] w (SortG w0 v ps) := by
  rcases hP.2 with ⟨e, hz⟩ | ⟨g, cap, cur, e, hb, hg, h1, h2, h3, h4⟩
  · subst e
    have e0 : ps = [] := List.length_eq_zero_iff.1 hz
    subst e0
    have hcon := AnyF.slices_SortFunc_none Try.shSort none 0 (.func (.func 30) #[] #[]) w
    change Calls Try.prog 41 _ _ _ at hcon
    refine hcon.mono ?_
    rintro e w' ⟨rfl, rfl⟩
    exact ⟨rfl, by rw [show pgsort [] = [] from List.length_eq_zero_iff.1 (by rw [pgsort_len]; rfl)]; exact Gr.Rw.nil _ _, K⟩
  · subst e
    have eg : ∀ args w, (callFunc 30 args).run Try.prog w = .ok (.enter 30 args) w := enters_of Try.func30 (by kernel_rfl) rfl
    have hcon := AnyQ.slices_SortFunc_total Try.shSort 2 Try.isAgg30 Try.sizeOf30 pageE.vals pageE.len pageE.one cfG swoG 30 #[] g 0 cap ps.toArray w eg (fun _ _ _ _ x y => (cmpG_calls x y _).mono fun _ _ h => ⟨h.1, h.2⟩) (Gr.holds_rows (by decide) hg h4) (Array.getElem?_eq_some_iff.1 hg).1 (by simp; omega) totG
    change Calls Try.prog 41 _ _ _ at hcon
    have e1 : (ps.toArray).size = ps.length := by simp
    rw [e1] at hcon
    refine hcon.mono ?_
    rintro e w' ⟨rfl, n, os, hw⟩
    change w' = sortWorldK pageE.vals 2 w g 0 n (pgsort ps).toArray os at hw
    subst hw
    obtain ⟨q1, q2⟩ := Gr.sorted_world (E := pageE) (base := w0.heap.size) (n := n) (os := os) (M := pgsort ps) (L := ps) (by decide) (pgsort_len ps) hg h1 h2 h3 hb hb K
    exact ⟨rfl, q1, q2⟩
end Go.Proofs.Ytlallciikcmjmaa
