/- What keeps an Untyped's units from being taken anew: the program's isFree. -/
import Derived.Test.YthjhpcbhkcmghaaKFree0
import Derived.Test.YthjhpcbhkcmghaaKTabIn
import Derived.Test.YthjhpcbhkcmghaaKDup0
namespace Go.Proofs.Ythjhpcbhkcmghaa
open Go.RowKit
set_option linter.unusedVariables false
set_option linter.unusedSimpArgs false
theorem end_to (b z S : Int) (w : World) (h : IntKind.i64.wrap (b + z) = S) :
    Calls Try.prog 63 #[.agg #[.int .i64 b, .int .i64 z]] w fun e w' => e = .returned (.int .i64 S) ∧ Kp [] w w' := by
  have K0 := hide ((Kp.refl [] w).alloc (.cells #[.int .i64 b, .int .i64 z] 45))
  go_enter Try.func63, Try.ntmps63
  go_wp2
  go_ret
  exact ⟨rfl, unhide K0⟩
/-- Two ranges' boxes. -/
theorem two_rg (w : World) (ab az bb bz : Int) : Bk ((w.alloc (.cells #[.int .i64 ab, .int .i64 az] 45)).alloc (.cells #[.int .i64 bb, .int .i64 bz] 45)) w.heap.size 45 [.int .i64 ab, .int .i64 az] ∧ Bk ((w.alloc (.cells #[.int .i64 ab, .int .i64 az] 45)).alloc (.cells #[.int .i64 bb, .int .i64 bz] 45)) (w.heap.size + 1) 45 [.int .i64 bb, .int .i64 bz] ∧ Kp [] w ((w.alloc (.cells #[.int .i64 ab, .int .i64 az] 45)).alloc (.cells #[.int .i64 bb, .int .i64 bz] 45)) :=
  ⟨(Bk.new w _ [.int .i64 ab, .int .i64 az]).alloc _, Bk.next (p := w.heap.size + 1) _ _ [.int .i64 bb, .int .i64 bz] (by simp), ((Kp.refl [] w).alloc _).alloc _⟩
theorem two_rgc {w wx : World} {ab az bb bz : Int} (k : Kp [] ((w.alloc (.cells #[.int .i64 ab, .int .i64 az] 45)).alloc (.cells #[.int .i64 bb, .int .i64 bz] 45)) wx) : wx.cell? ⟨w.heap.size, 0, none⟩ = some (.int .i64 ab) ∧ wx.cell? ⟨w.heap.size, 1, none⟩ = some (.int .i64 az) ∧ wx.cell? ⟨w.heap.size + 1, 0, none⟩ = some (.int .i64 bb) ∧ wx.cell? ⟨w.heap.size + 1, 1, none⟩ = some (.int .i64 bz) := by
  obtain ⟨h1, h2, _⟩ := two_rg w ab az bb bz
  have a := h1.kept k (by simp)
  have b := h2.kept k (by simp)
  exact ⟨a.cell rfl, a.cell rfl, b.cell rfl, b.cell rfl⟩
set_option maxRecDepth 4000 in
set_option maxHeartbeats 1000000 in
theorem within_to (ab az bb bz S T : Int) (v : Bool) (w : World) (hS1 : IntKind.i64.wrap (ab + az) = S) (hT1 : IntKind.i64.wrap (bb + bz) = T) (hv : (decide (bb ≤ ab) && decide (S ≤ T)) = v) :
    Calls Try.prog 57 #[.agg #[.int .i64 ab, .int .i64 az], .agg #[.int .i64 bb, .int .i64 bz]] w fun e w' => e = .returned (.bool v) ∧ Kp [] w w' := by
  have hS : Hid (∀ wx, Kp [] ((w.alloc (.cells #[.int .i64 ab, .int .i64 az] 45)).alloc (.cells #[.int .i64 bb, .int .i64 bz] 45)) wx → wx.cell? ⟨w.heap.size, 0, none⟩ = some (.int .i64 ab) ∧ wx.cell? ⟨w.heap.size, 1, none⟩ = some (.int .i64 az) ∧ wx.cell? ⟨w.heap.size + 1, 0, none⟩ = some (.int .i64 bb) ∧ wx.cell? ⟨w.heap.size + 1, 1, none⟩ = some (.int .i64 bz)) := fun wx k => two_rgc k
  have K0 := hide (two_rg w ab az bb bz).2.2
  have K3 := hide ((Kp.refl [] ((w.alloc (.cells #[.int .i64 ab, .int .i64 az] 45)).alloc (.cells #[.int .i64 bb, .int .i64 bz] 45))).drew)
  replace hS1 := hide hS1
  replace hT1 := hide hT1
  obtain ⟨v1, h1⟩ : ∃ x, decide (bb ≤ ab) = x := ⟨_, rfl⟩
  rw [h1] at hv
  cases v1
  · rw [Bool.false_and] at hv
    subst hv
    obtain ⟨c0, c1, c2, c3⟩ := unhide hS _ (Kp.refl [] _)
    go_enter Try.func57, Try.ntmps57
    go_wp2_with fail
    generalize (w.alloc (.cells #[.int .i64 ab, .int .i64 az] 45)).alloc (.cells #[.int .i64 bb, .int .i64 bz] 45) = w1 at *
    go_big_region
    go_wp2
    go_ret
    exact ⟨rfl, (unhide K0).drewN _⟩
  · rw [Bool.true_and] at hv
    have hv' := hide hv
    clear hv
    go_enter Try.func57, Try.ntmps57
    go_wp2_with fail
    generalize (w.alloc (.cells #[.int .i64 ab, .int .i64 az] 45)).alloc (.cells #[.int .i64 bb, .int .i64 bz] 45) = w1 at *
    go_region_held3 (fun w' => w'.cell? ⟨w.heap.size, 0, none⟩ = some (.int .i64 ab) ∧ w'.cell? ⟨w.heap.size, 1, none⟩ = some (.int .i64 az) ∧ w'.cell? ⟨w.heap.size + 1, 0, none⟩ = some (.int .i64 bb) ∧ w'.cell? ⟨w.heap.size + 1, 1, none⟩ = some (.int .i64 bz)) (first | exact unhide hS _ (unhide K5) | exact unhide hS _ (unhide K4) | exact unhide hS _ (unhide K3)) (first
      | (go_at_call 63; (with_reducible refine (end_to bb bz T _ (unhide hT1)).mono ?_); rintro e V1 ⟨rfl, kk⟩; have K5 := hide ((unhide K4).then kk); clear kk)
      | (go_at_call 63; (with_reducible refine (end_to ab az S _ (unhide hS1)).mono ?_); rintro e V1 ⟨rfl, kk⟩; have K4 := hide ((unhide K3).then kk); clear kk))
    all_goals
      go_wp2
      go_ret
      exact ⟨ret_bool (unhide hv'), (unhide K0).then (unhide K5)⟩
set_option maxRecDepth 4000 in
set_option maxHeartbeats 1000000 in
theorem meets_to (ab az bb bz S T : Int) (v : Bool) (w : World) (hS1 : IntKind.i64.wrap (ab + az) = S) (hT1 : IntKind.i64.wrap (bb + bz) = T) (hv : (decide (ab < T) && decide (bb < S)) = v) :
    Calls Try.prog 58 #[.agg #[.int .i64 ab, .int .i64 az], .agg #[.int .i64 bb, .int .i64 bz]] w fun e w' => e = .returned (.bool v) ∧ Kp [] w w' := by
  have hS : Hid (∀ wx, Kp [] ((w.alloc (.cells #[.int .i64 ab, .int .i64 az] 45)).alloc (.cells #[.int .i64 bb, .int .i64 bz] 45)) wx → wx.cell? ⟨w.heap.size, 0, none⟩ = some (.int .i64 ab) ∧ wx.cell? ⟨w.heap.size, 1, none⟩ = some (.int .i64 az) ∧ wx.cell? ⟨w.heap.size + 1, 0, none⟩ = some (.int .i64 bb) ∧ wx.cell? ⟨w.heap.size + 1, 1, none⟩ = some (.int .i64 bz)) := fun wx k => two_rgc k
  have K0 := hide (two_rg w ab az bb bz).2.2
  have K3 := hide ((Kp.refl [] ((w.alloc (.cells #[.int .i64 ab, .int .i64 az] 45)).alloc (.cells #[.int .i64 bb, .int .i64 bz] 45))).drew)
  replace hS1 := hide hS1
  replace hT1 := hide hT1
  obtain ⟨v1, h1⟩ : ∃ x, decide (ab < T) = x := ⟨_, rfl⟩
  rw [h1] at hv
  cases v1
  · rw [Bool.false_and] at hv
    subst hv
    go_enter Try.func58, Try.ntmps58
    go_wp2_with fail
    generalize (w.alloc (.cells #[.int .i64 ab, .int .i64 az] 45)).alloc (.cells #[.int .i64 bb, .int .i64 bz] 45) = w1 at *
    refine wp_region_held_drew (S := (fun w' => w'.cell? ⟨w.heap.size, 0, none⟩ = some (.int .i64 ab) ∧ w'.cell? ⟨w.heap.size, 1, none⟩ = some (.int .i64 az) ∧ w'.cell? ⟨w.heap.size + 1, 0, none⟩ = some (.int .i64 bb) ∧ w'.cell? ⟨w.heap.size + 1, 1, none⟩ = some (.int .i64 bz))) (by kernel_rfl) ?_ (fun hHeld => ?_)
    · exact unhide hS _ (unhide K3)
    refine wpAnyH_take (i := 0) (v := ?_) rfl (by kernel_rfl) (by kernel_rfl) (by kernel_rfl) (fun _ _ _ h => h) (Or.inl ⟨by rfl, ?_⟩) (by assumption) ?_
    rotate_left
    · (intro w hSw; (try dsimp only at hSw); go_simp; try with_reducible rfl)
    simp only [Act.put, List.getElem_toArray, List.getElem_cons_zero, List.setIfInBounds_toArray, List.set_cons_zero, List.set_cons_succ]
    refine wpAnyH_take (i := 1) (v := ?_) rfl (by kernel_rfl) (by kernel_rfl) (by kernel_rfl) (fun _ _ _ h => h) (Or.inl ⟨by rfl, ?_⟩) (by assumption) ?_
    rotate_left
    · (intro w hSw; (try dsimp only at hSw); go_simp; try with_reducible rfl)
    simp only [Act.put, List.getElem_toArray, List.getElem_cons_zero, List.getElem_cons_succ, List.setIfInBounds_toArray, List.set_cons_zero, List.set_cons_succ]
    refine wpAnyH_take (i := 2) (v := ?_) rfl (by kernel_rfl) (by kernel_rfl) (by kernel_rfl) (fun _ _ _ h => h) (Or.inl ⟨by rfl, ?_⟩) (by assumption) ?_
    rotate_left
    · (intro w hSw; (try dsimp only at hSw); go_simp; try with_reducible rfl)
    simp only [Act.put, List.getElem_toArray, List.getElem_cons_zero, List.getElem_cons_succ, List.setIfInBounds_toArray, List.set_cons_zero, List.set_cons_succ]
    refine wpAnyH_ready (rs := [3]) (by kernel_rfl) (by simp) ?_
    refine AllReadyH.cons rfl (fun K hK => ?_) AllReadyH.nil
    go_simp
    refine (end_to bb bz T _ (unhide hT1)).mono ?_; rintro e V1 ⟨rfl, kk⟩; have K5 := hide ((unhide K3).then kk); clear kk
    refine hK.out _ _ ?_ (fun hHeld => ?_)
    · exact unhide hS _ (unhide K5)
    clear hK K
    refine wpAnyH_take (i := 4) (v := ?_) rfl (by kernel_rfl) (by kernel_rfl) (by kernel_rfl) (fun _ _ _ h => h) (Or.inl ⟨by rfl, ?_⟩) (by assumption) ?_
    rotate_left
    · (intro w hSw; (try dsimp only at hSw); go_simp; try with_reducible rfl)
    simp only [Act.put, List.getElem_toArray, List.getElem_cons_zero, List.getElem_cons_succ, List.setIfInBounds_toArray, List.set_cons_zero, List.set_cons_succ]
    refine wpAnyH_take (i := 5) (v := ?_) rfl (by kernel_rfl) (by kernel_rfl) (by kernel_rfl) (fun _ _ _ h => h) (Or.inl ⟨by rfl, ?_⟩) (by assumption) ?_
    rotate_left
    · (intro w hSw; (try dsimp only at hSw); go_simp; try with_reducible rfl)
    simp only [Act.put, List.getElem_toArray, List.getElem_cons_zero, List.getElem_cons_succ, List.setIfInBounds_toArray, List.set_cons_zero, List.set_cons_succ]
    refine wpAnyH_take (i := 6) rfl (by kernel_rfl) (by kernel_rfl) (by kernel_rfl) (fun _ _ _ h => h) (Or.inr ⟨by rfl, rfl⟩) (by assumption) ?_
    simp only [Act.put, List.getElem_toArray, List.getElem_cons_zero, List.getElem_cons_succ, List.setIfInBounds_toArray, List.set_cons_zero, List.set_cons_succ]
    refine wpAnyH_take (i := 7) rfl (by kernel_rfl) (by kernel_rfl) (by kernel_rfl) (fun _ _ _ h => h) (Or.inr ⟨by rfl, rfl⟩) (by assumption) ?_
    simp only [Act.put, List.getElem_toArray, List.getElem_cons_zero, List.getElem_cons_succ, List.setIfInBounds_toArray, List.set_cons_zero, List.set_cons_succ]
    refine wpAnyH_take (i := 8) rfl (by kernel_rfl) (by kernel_rfl) (by kernel_rfl) (fun _ _ _ h => h) (Or.inr ⟨by rfl, rfl⟩) (by assumption) ?_
    simp only [Act.put, List.getElem_toArray, List.getElem_cons_zero, List.getElem_cons_succ, List.setIfInBounds_toArray, List.set_cons_zero, List.set_cons_succ]
    refine wpAnyH_take (i := 9) rfl (by kernel_rfl) (by kernel_rfl) (by kernel_rfl) (fun _ _ _ h => h) (Or.inr ⟨by rfl, rfl⟩) (by assumption) ?_
    simp only [Act.put, List.getElem_toArray, List.getElem_cons_zero, List.getElem_cons_succ, List.setIfInBounds_toArray, List.set_cons_zero, List.set_cons_succ]
    refine wpAnyH_take (i := 10) rfl (by kernel_rfl) (by kernel_rfl) (by kernel_rfl) (fun _ _ _ h => h) (Or.inr ⟨by rfl, rfl⟩) (by assumption) ?_
    simp only [Act.put, List.getElem_toArray, List.getElem_cons_zero, List.getElem_cons_succ, List.setIfInBounds_toArray, List.set_cons_zero, List.set_cons_succ]
    refine wpAnyH_take (i := 11) (v := ?_) rfl (by kernel_rfl) (by kernel_rfl) (by kernel_rfl) (fun _ _ _ h => h) (Or.inl ⟨by rfl, ?_⟩) (by assumption) ?_
    rotate_left
    · (intro w hSw; (try dsimp only at hSw); go_simp; try with_reducible rfl)
    simp only [Act.put, List.getElem_toArray, List.getElem_cons_zero, List.getElem_cons_succ, List.setIfInBounds_toArray, List.set_cons_zero, List.set_cons_succ]
    refine wpAnyH_take (i := 12) (v := ?_) rfl (by kernel_rfl) (by kernel_rfl) (by kernel_rfl) (fun _ _ _ h => h) (Or.inl ⟨by rfl, ?_⟩) (by assumption) ?_
    rotate_left
    · (intro w hSw; (try dsimp only at hSw); go_simp; try with_reducible rfl)
    simp only [Act.put, List.getElem_toArray, List.getElem_cons_zero, List.getElem_cons_succ, List.setIfInBounds_toArray, List.set_cons_zero, List.set_cons_succ]
    refine wpAnyH_done (by kernel_rfl) ?_ _
    all_goals
      go_wp2
      go_ret
      exact ⟨rfl, (unhide K0).then (unhide K5)⟩
  · rw [Bool.true_and] at hv
    have hv' := hide hv
    clear hv
    go_enter Try.func58, Try.ntmps58
    go_wp2_with fail
    generalize (w.alloc (.cells #[.int .i64 ab, .int .i64 az] 45)).alloc (.cells #[.int .i64 bb, .int .i64 bz] 45) = w1 at *
    go_region_held3 (fun w' => w'.cell? ⟨w.heap.size, 0, none⟩ = some (.int .i64 ab) ∧ w'.cell? ⟨w.heap.size, 1, none⟩ = some (.int .i64 az) ∧ w'.cell? ⟨w.heap.size + 1, 0, none⟩ = some (.int .i64 bb) ∧ w'.cell? ⟨w.heap.size + 1, 1, none⟩ = some (.int .i64 bz)) (first | exact unhide hS _ (unhide K5) | exact unhide hS _ (unhide K4) | exact unhide hS _ (unhide K3)) (first
      | (go_at_call 63; (with_reducible refine (end_to ab az S _ (unhide hS1)).mono ?_); rintro e V1 ⟨rfl, kk⟩; have K5 := hide ((unhide K4).then kk); clear kk)
      | (go_at_call 63; (with_reducible refine (end_to bb bz T _ (unhide hT1)).mono ?_); rintro e V1 ⟨rfl, kk⟩; have K4 := hide ((unhide K3).then kk); clear kk))
    all_goals
      go_wp2
      go_ret
      exact ⟨ret_bool (unhide hv'), (unhide K0).then (unhide K5)⟩
end Go.Proofs.Ythjhpcbhkcmghaa
