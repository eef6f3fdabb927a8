/- What keeps an Untyped's units from being taken anew: the program's keeps, isFree. -/
import Derived.Test.YthjhpcbhkcmghaaKFree0
import Derived.Test.YthjhpcbhkcmghaaKTabIn
import Derived.Test.YthjhpcbhkcmghaaKDup0
import Derived.Deep.DeepCutAuto
namespace Go.Proofs.Ythjhpcbhkcmghaa
open Go.RowKit
set_option linter.unusedVariables false
set_option linter.unusedSimpArgs false
theorem end_to (b z S : Int) (w : World) (h : IntKind.i64.wrap (b + z) = S) :
    Calls Try.prog 63 #[.agg #[.int .i64 b, .int .i64 z]] w fun e w' => e = .returned (.int .i64 S) ∧ Kp [] w w' := by
  have K0 := hide ((Kp.refl [] w).alloc (.cells #[.int .i64 b, .int .i64 z] 45))
  go_enter Try.func63, Try.ntmps63
  go_wp2
  go_ret
  exact ⟨rfl, unhide K0⟩
/-- Two ranges' boxes. -/
theorem two_rg (w : World) (ab az bb bz : Int) : Bk ((w.alloc (.cells #[.int .i64 ab, .int .i64 az] 45)).alloc (.cells #[.int .i64 bb, .int .i64 bz] 45)) w.heap.size 45 [.int .i64 ab, .int .i64 az] ∧ Bk ((w.alloc (.cells #[.int .i64 ab, .int .i64 az] 45)).alloc (.cells #[.int .i64 bb, .int .i64 bz] 45)) (w.heap.size + 1) 45 [.int .i64 bb, .int .i64 bz] ∧ Kp [] w ((w.alloc (.cells #[.int .i64 ab, .int .i64 az] 45)).alloc (.cells #[.int .i64 bb, .int .i64 bz] 45)) :=
  ⟨(Bk.new w _ [.int .i64 ab, .int .i64 az]).alloc _, Bk.next (p := w.heap.size + 1) _ _ [.int .i64 bb, .int .i64 bz] (by simp), ((Kp.refl [] w).alloc _).alloc _⟩
theorem two_rgc {w wx : World} {ab az bb bz : Int} (k : Kp [] ((w.alloc (.cells #[.int .i64 ab, .int .i64 az] 45)).alloc (.cells #[.int .i64 bb, .int .i64 bz] 45)) wx) : wx.cell? ⟨w.heap.size, 0, none⟩ = some (.int .i64 ab) ∧ wx.cell? ⟨w.heap.size, 1, none⟩ = some (.int .i64 az) ∧ wx.cell? ⟨w.heap.size + 1, 0, none⟩ = some (.int .i64 bb) ∧ wx.cell? ⟨w.heap.size + 1, 1, none⟩ = some (.int .i64 bz) := by
  obtain ⟨h1, h2, _⟩ := two_rg w ab az bb bz
  have a := h1.kept k (by simp)
  have b := h2.kept k (by simp)
  exact ⟨a.cell rfl, a.cell rfl, b.cell rfl, b.cell rfl⟩
set_option maxRecDepth 4000 in
set_option maxHeartbeats 1000000 in
theorem within_to (ab az bb bz S T : Int) (v : Bool) (w : World) (hS1 : IntKind.i64.wrap (ab + az) = S) (hT1 : IntKind.i64.wrap (bb + bz) = T) (hv : (decide (bb ≤ ab) && decide (S ≤ T)) = v) :
    Calls Try.prog 57 #[.agg #[.int .i64 ab, .int .i64 az], .agg #[.int .i64 bb, .int .i64 bz]] w fun e w' => e = .returned (.bool v) ∧ Kp [] w w' := by
  have hS : Hid (∀ wx, Kp [] ((w.alloc (.cells #[.int .i64 ab, .int .i64 az] 45)).alloc (.cells #[.int .i64 bb, .int .i64 bz] 45)) wx → wx.cell? ⟨w.heap.size, 0, none⟩ = some (.int .i64 ab) ∧ wx.cell? ⟨w.heap.size, 1, none⟩ = some (.int .i64 az) ∧ wx.cell? ⟨w.heap.size + 1, 0, none⟩ = some (.int .i64 bb) ∧ wx.cell? ⟨w.heap.size + 1, 1, none⟩ = some (.int .i64 bz)) := fun wx k => two_rgc k
  have K0 := hide (two_rg w ab az bb bz).2.2
  have K3 := hide ((Kp.refl [] ((w.alloc (.cells #[.int .i64 ab, .int .i64 az] 45)).alloc (.cells #[.int .i64 bb, .int .i64 bz] 45))).drew)
  replace hS1 := hide hS1
  replace hT1 := hide hT1
  obtain ⟨v1, h1⟩ : ∃ x, decide (bb ≤ ab) = x := ⟨_, rfl⟩
  rw [h1] at hv
  cases v1
  · rw [Bool.false_and] at hv
    subst hv
    obtain ⟨c0, c1, c2, c3⟩ := unhide hS _ (Kp.refl [] _)
    go_enter Try.func57, Try.ntmps57
    go_wp2_with fail
    generalize (w.alloc (.cells #[.int .i64 ab, .int .i64 az] 45)).alloc (.cells #[.int .i64 bb, .int .i64 bz] 45) = w1 at *
    go_big_region
    go_wp2
    go_ret
    exact ⟨rfl, (unhide K0).drewN _⟩
  · rw [Bool.true_and] at hv
    have hv' := hide hv
    clear hv
    go_enter Try.func57, Try.ntmps57
    go_wp2_with fail
    generalize (w.alloc (.cells #[.int .i64 ab, .int .i64 az] 45)).alloc (.cells #[.int .i64 bb, .int .i64 bz] 45) = w1 at *
    go_region_held3 (fun w' => w'.cell? ⟨w.heap.size, 0, none⟩ = some (.int .i64 ab) ∧ w'.cell? ⟨w.heap.size, 1, none⟩ = some (.int .i64 az) ∧ w'.cell? ⟨w.heap.size + 1, 0, none⟩ = some (.int .i64 bb) ∧ w'.cell? ⟨w.heap.size + 1, 1, none⟩ = some (.int .i64 bz)) (first | exact unhide hS _ (unhide K5) | exact unhide hS _ (unhide K4) | exact unhide hS _ (unhide K3)) (first
      | (go_at_call 63; (with_reducible refine (end_to bb bz T _ (unhide hT1)).mono ?_); rintro e V1 ⟨rfl, kk⟩; have K5 := hide ((unhide K4).then kk); clear kk)
      | (go_at_call 63; (with_reducible refine (end_to ab az S _ (unhide hS1)).mono ?_); rintro e V1 ⟨rfl, kk⟩; have K4 := hide ((unhide K3).then kk); clear kk))
    all_goals
      go_wp2
      go_ret
      exact ⟨ret_bool (unhide hv'), (unhide K0).then (unhide K5)⟩
set_option maxRecDepth 4000 in
set_option maxHeartbeats 1000000 in
theorem meets_to (ab az bb bz S T : Int) (v : Bool) (w : World) (hS1 : IntKind.i64.wrap (ab + az) = S) (hT1 : IntKind.i64.wrap (bb + bz) = T) (hv : (decide (ab < T) && decide (bb < S)) = v) :
    Calls Try.prog 58 #[.agg #[.int .i64 ab, .int .i64 az], .agg #[.int .i64 bb, .int .i64 bz]] w fun e w' => e = .returned (.bool v) ∧ Kp [] w w' := by
  have hS : Hid (∀ wx, Kp [] ((w.alloc (.cells #[.int .i64 ab, .int .i64 az] 45)).alloc (.cells #[.int .i64 bb, .int .i64 bz] 45)) wx → wx.cell? ⟨w.heap.size, 0, none⟩ = some (.int .i64 ab) ∧ wx.cell? ⟨w.heap.size, 1, none⟩ = some (.int .i64 az) ∧ wx.cell? ⟨w.heap.size + 1, 0, none⟩ = some (.int .i64 bb) ∧ wx.cell? ⟨w.heap.size + 1, 1, none⟩ = some (.int .i64 bz)) := fun wx k => two_rgc k
  have K0 := hide (two_rg w ab az bb bz).2.2
  have K3 := hide ((Kp.refl [] ((w.alloc (.cells #[.int .i64 ab, .int .i64 az] 45)).alloc (.cells #[.int .i64 bb, .int .i64 bz] 45))).drew)
  replace hS1 := hide hS1
  replace hT1 := hide hT1
  obtain ⟨v1, h1⟩ : ∃ x, decide (ab < T) = x := ⟨_, rfl⟩
  rw [h1] at hv
  cases v1
  · rw [Bool.false_and] at hv
    subst hv
    go_enter Try.func58, Try.ntmps58
    go_wp2_with fail
    generalize (w.alloc (.cells #[.int .i64 ab, .int .i64 az] 45)).alloc (.cells #[.int .i64 bb, .int .i64 bz] 45) = w1 at *
    refine wp_region_held_drew (S := (fun w' => w'.cell? ⟨w.heap.size, 0, none⟩ = some (.int .i64 ab) ∧ w'.cell? ⟨w.heap.size, 1, none⟩ = some (.int .i64 az) ∧ w'.cell? ⟨w.heap.size + 1, 0, none⟩ = some (.int .i64 bb) ∧ w'.cell? ⟨w.heap.size + 1, 1, none⟩ = some (.int .i64 bz))) (by kernel_rfl) ?_ (fun hHeld => ?_)
    · exact unhide hS _ (unhide K3)
    refine wpAnyH_take (i := 0) (v := ?_) rfl (by kernel_rfl) (by kernel_rfl) (by kernel_rfl) (fun _ _ _ h => h) (Or.inl ⟨by rfl, ?_⟩) (by assumption) ?_
    rotate_left
    · (intro w hSw; (try dsimp only at hSw); go_simp; try with_reducible rfl)
    simp only [Act.put, List.getElem_toArray, List.getElem_cons_zero, List.setIfInBounds_toArray, List.set_cons_zero, List.set_cons_succ]
    refine wpAnyH_take (i := 1) (v := ?_) rfl (by kernel_rfl) (by kernel_rfl) (by kernel_rfl) (fun _ _ _ h => h) (Or.inl ⟨by rfl, ?_⟩) (by assumption) ?_
    rotate_left
    · (intro w hSw; (try dsimp only at hSw); go_simp; try with_reducible rfl)
    simp only [Act.put, List.getElem_toArray, List.getElem_cons_zero, List.getElem_cons_succ, List.setIfInBounds_toArray, List.set_cons_zero, List.set_cons_succ]
    refine wpAnyH_take (i := 2) (v := ?_) rfl (by kernel_rfl) (by kernel_rfl) (by kernel_rfl) (fun _ _ _ h => h) (Or.inl ⟨by rfl, ?_⟩) (by assumption) ?_
    rotate_left
    · (intro w hSw; (try dsimp only at hSw); go_simp; try with_reducible rfl)
    simp only [Act.put, List.getElem_toArray, List.getElem_cons_zero, List.getElem_cons_succ, List.setIfInBounds_toArray, List.set_cons_zero, List.set_cons_succ]
    refine wpAnyH_ready (rs := [3]) (by kernel_rfl) (by simp) ?_
    refine AllReadyH.cons rfl (fun K hK => ?_) AllReadyH.nil
    go_simp
    refine (end_to bb bz T _ (unhide hT1)).mono ?_; rintro e V1 ⟨rfl, kk⟩; have K5 := hide ((unhide K3).then kk); clear kk
    refine hK.out _ _ ?_ (fun hHeld => ?_)
    · exact unhide hS _ (unhide K5)
    clear hK K
    refine wpAnyH_take (i := 4) (v := ?_) rfl (by kernel_rfl) (by kernel_rfl) (by kernel_rfl) (fun _ _ _ h => h) (Or.inl ⟨by rfl, ?_⟩) (by assumption) ?_
    rotate_left
    · (intro w hSw; (try dsimp only at hSw); go_simp; try with_reducible rfl)
    simp only [Act.put, List.getElem_toArray, List.getElem_cons_zero, List.getElem_cons_succ, List.setIfInBounds_toArray, List.set_cons_zero, List.set_cons_succ]
    refine wpAnyH_take (i := 5) (v := ?_) rfl (by kernel_rfl) (by kernel_rfl) (by kernel_rfl) (fun _ _ _ h => h) (Or.inl ⟨by rfl, ?_⟩) (by assumption) ?_
    rotate_left
    · (intro w hSw; (try dsimp only at hSw); go_simp; try with_reducible rfl)
    simp only [Act.put, List.getElem_toArray, List.getElem_cons_zero, List.getElem_cons_succ, List.setIfInBounds_toArray, List.set_cons_zero, List.set_cons_succ]
    refine wpAnyH_take (i := 6) rfl (by kernel_rfl) (by kernel_rfl) (by kernel_rfl) (fun _ _ _ h => h) (Or.inr ⟨by rfl, rfl⟩) (by assumption) ?_
    simp only [Act.put, List.getElem_toArray, List.getElem_cons_zero, List.getElem_cons_succ, List.setIfInBounds_toArray, List.set_cons_zero, List.set_cons_succ]
    refine wpAnyH_take (i := 7) rfl (by kernel_rfl) (by kernel_rfl) (by kernel_rfl) (fun _ _ _ h => h) (Or.inr ⟨by rfl, rfl⟩) (by assumption) ?_
    simp only [Act.put, List.getElem_toArray, List.getElem_cons_zero, List.getElem_cons_succ, List.setIfInBounds_toArray, List.set_cons_zero, List.set_cons_succ]
    refine wpAnyH_take (i := 8) rfl (by kernel_rfl) (by kernel_rfl) (by kernel_rfl) (fun _ _ _ h => h) (Or.inr ⟨by rfl, rfl⟩) (by assumption) ?_
    simp only [Act.put, List.getElem_toArray, List.getElem_cons_zero, List.getElem_cons_succ, List.setIfInBounds_toArray, List.set_cons_zero, List.set_cons_succ]
    refine wpAnyH_take (i := 9) rfl (by kernel_rfl) (by kernel_rfl) (by kernel_rfl) (fun _ _ _ h => h) (Or.inr ⟨by rfl, rfl⟩) (by assumption) ?_
    simp only [Act.put, List.getElem_toArray, List.getElem_cons_zero, List.getElem_cons_succ, List.setIfInBounds_toArray, List.set_cons_zero, List.set_cons_succ]
    refine wpAnyH_take (i := 10) rfl (by kernel_rfl) (by kernel_rfl) (by kernel_rfl) (fun _ _ _ h => h) (Or.inr ⟨by rfl, rfl⟩) (by assumption) ?_
    simp only [Act.put, List.getElem_toArray, List.getElem_cons_zero, List.getElem_cons_succ, List.setIfInBounds_toArray, List.set_cons_zero, List.set_cons_succ]
    refine wpAnyH_take (i := 11) (v := ?_) rfl (by kernel_rfl) (by kernel_rfl) (by kernel_rfl) (fun _ _ _ h => h) (Or.inl ⟨by rfl, ?_⟩) (by assumption) ?_
    rotate_left
    · (intro w hSw; (try dsimp only at hSw); go_simp; try with_reducible rfl)
    simp only [Act.put, List.getElem_toArray, List.getElem_cons_zero, List.getElem_cons_succ, List.setIfInBounds_toArray, List.set_cons_zero, List.set_cons_succ]
    refine wpAnyH_take (i := 12) (v := ?_) rfl (by kernel_rfl) (by kernel_rfl) (by kernel_rfl) (fun _ _ _ h => h) (Or.inl ⟨by rfl, ?_⟩) (by assumption) ?_
    rotate_left
    · (intro w hSw; (try dsimp only at hSw); go_simp; try with_reducible rfl)
    simp only [Act.put, List.getElem_toArray, List.getElem_cons_zero, List.getElem_cons_succ, List.setIfInBounds_toArray, List.set_cons_zero, List.set_cons_succ]
    refine wpAnyH_done (by kernel_rfl) ?_ _
    all_goals
      go_wp2
      go_ret
      exact ⟨rfl, (unhide K0).then (unhide K5)⟩
  · rw [Bool.true_and] at hv
    have hv' := hide hv
    clear hv
    go_enter Try.func58, Try.ntmps58
    go_wp2_with fail
    generalize (w.alloc (.cells #[.int .i64 ab, .int .i64 az] 45)).alloc (.cells #[.int .i64 bb, .int .i64 bz] 45) = w1 at *
    go_region_held3 (fun w' => w'.cell? ⟨w.heap.size, 0, none⟩ = some (.int .i64 ab) ∧ w'.cell? ⟨w.heap.size, 1, none⟩ = some (.int .i64 az) ∧ w'.cell? ⟨w.heap.size + 1, 0, none⟩ = some (.int .i64 bb) ∧ w'.cell? ⟨w.heap.size + 1, 1, none⟩ = some (.int .i64 bz)) (first | exact unhide hS _ (unhide K5) | exact unhide hS _ (unhide K4) | exact unhide hS _ (unhide K3)) (first
      | (go_at_call 63; (with_reducible refine (end_to ab az S _ (unhide hS1)).mono ?_); rintro e V1 ⟨rfl, kk⟩; have K5 := hide ((unhide K4).then kk); clear kk)
      | (go_at_call 63; (with_reducible refine (end_to bb bz T _ (unhide hT1)).mono ?_); rintro e V1 ⟨rfl, kk⟩; have K4 := hide ((unhide K3).then kk); clear kk))
    all_goals
      go_wp2
      go_ret
      exact ⟨ret_bool (unhide hv'), (unhide K0).then (unhide K5)⟩
end Go.Proofs.Ythjhpcbhkcmghaa
namespace Go.Proofs.Ythjhpcbhkcmghaa
open Go.RowKit
set_option linter.unusedVariables false
set_option linter.unusedSimpArgs false
theorem at_own {L : List Sl} (hn : (L.map ppl).Nodup) {j : Nat} {x : Sl} (hx : L[j]? = some x) : lookS L x.n x.s = some x := by
  cases h : lookS L x.n x.s with
  | none =>
    have := lookS_none h
    unfold atL at this
    have := List.findIdx?_eq_none_iff.1 this x (List.mem_of_getElem? hx)
    simp at this
  | some y =>
    obtain ⟨hy, e1, e2⟩ := lookS_some h
    obtain ⟨i, hi, rfl⟩ := List.mem_iff_getElem.1 hy
    obtain ⟨hj, rfl⟩ := List.getElem?_eq_some_iff.1 hx
    have e : (L.map ppl)[i]'(by simpa using hi) = (L.map ppl)[j]'(by simpa using hj) := by
      rw [List.getElem_map, List.getElem_map]
      exact Prod.ext e1 e2
    have hp := List.pairwise_iff_getElem.1 hn
    rcases Nat.lt_trichotomy i j with q | q | q
    · exact absurd e (hp i j (by simpa using hi) (by simpa using hj) q)
    · subst q; rfl
    · exact absurd e.symm (hp j i (by simpa using hj) (by simpa using hi) q)
def keepN (rb rz k o z : Int) : Bool := !((k == 1) && (decide (o ≤ rb) && decide (rb + rz ≤ o + z))) && (decide (o < rb + rz) && decide (rb < o + (if k = 1 then z else 1)))
theorem keepN_is (rb rz : Int) (y : Sl) : keepB rb rz y = keepN rb rz y.k y.o y.z := rfl
set_option maxRecDepth 4000 in
set_option maxHeartbeats 1000000 in
theorem keeps_to (k o z b r rb rz : Int) (v : Bool) (w : World) (hn : CapNs k o z) (h1 : 1 ≤ rb) (h2 : rb ≤ 64) (h3 : 0 ≤ rz) (h4 : rz ≤ 64) (hv : keepN rb rz k o z = v) :
    Calls Try.prog 53 #[.agg #[.int .i64 k, .int .i64 o, .int .i64 z, .int .i64 b, .int .i64 r], .agg #[.int .i64 rb, .int .i64 rz]] w fun e w' => e = .returned (.bool v) ∧ Kp [] w w' := by
  have q1 := hn.o1
  have q2 := hn.o64
  have q3 := hn.z0
  have q4 := hn.z64
  have C0 := (Bk.new w 38 [.int .i64 k, .int .i64 o, .int .i64 z, .int .i64 b, .int .i64 r]).alloc (.cells #[.int .i64 rb, .int .i64 rz] 45)
  have R0 := Bk.next (p := w.heap.size + 1) (w.alloc (.cells #[.int .i64 k, .int .i64 o, .int .i64 z, .int .i64 b, .int .i64 r] 38)) 45 [.int .i64 rb, .int .i64 rz] (by simp)
  have K0 := ((Kp.refl [] w).alloc (.cells #[.int .i64 k, .int .i64 o, .int .i64 z, .int .i64 b, .int .i64 r] 38)).alloc (.cells #[.int .i64 rb, .int .i64 rz] 45)
  have s2 : IntKind.i64.wrap (rb + rz) = rb + rz := by rw [IntKind.wrap_i64]; omega
  replace s2 := hide s2
  unfold keepN at hv
  replace C0 := hide C0
  replace R0 := hide R0
  replace K0 := hide K0
  by_cases k1 : k = 1
  · subst k1
    have s1 : IntKind.i64.wrap (o + z) = o + z := by rw [IntKind.wrap_i64]; omega
    replace s1 := hide s1
    rw [if_pos rfl] at hv
    obtain ⟨vm, hm⟩ : ∃ v, (decide (o < rb + rz) && decide (rb < o + z)) = v := ⟨_, rfl⟩
    obtain ⟨vw, hw⟩ : ∃ v, (decide (o ≤ rb) && decide (rb + rz ≤ o + z)) = v := ⟨_, rfl⟩
    rw [hm, hw] at hv
    replace hm := hide hm
    replace hw := hide hw
    have hx : (if (1:Int) = 1 then o else 0) = o := if_pos rfl
    have hy : (if (1:Int) = 1 then z else 0) = z := if_pos rfl
    replace hx := hide hx
    replace hy := hide hy
    clear hn q1 q2 q3 q4 h1 h2 h3 h4
    go_enter Try.func53, Try.ntmps53
    go_wp2_with fail
    refine (range_calls 1 o z b r _ o z (unhide hx) (unhide hy)).mono ?_
    rintro e W1 ⟨rfl, K1⟩
    have K2 := hide (((unhide K0).then K1).alloc (.cells #[.int .i64 o, .int .i64 z] 45))
    have U2 := hide (Bk.new W1 45 [.int .i64 o, .int .i64 z])
    have R2 := hide (((unhide R0).kept K1 (by simp)).alloc (.cells #[.int .i64 o, .int .i64 z] 45))
    have u0 := (unhide U2).cell (i := 0) rfl
    have u1 := (unhide U2).cell (i := 1) rfl
    have r0 := (unhide R2).cell (i := 0) rfl
    have r1 := (unhide R2).cell (i := 1) rfl
    clear K1
    go_wp2_with fail
    refine (meets_to o z rb rz _ _ vm _ (unhide s1) (unhide s2) (unhide hm)).mono ?_
    rintro e W3 ⟨rfl, K3⟩
    have K4 := hide ((unhide K2).then K3)
    have U4 := hide ((unhide U2).kept K3 (by simp))
    have R4 := hide ((unhide R2).kept K3 (by simp))
    clear K3 u0 u1 r0 r1
    have u0 := (unhide U4).cell (i := 0) rfl
    have u1 := (unhide U4).cell (i := 1) rfl
    have r0 := (unhide R4).cell (i := 0) rfl
    have r1 := (unhide R4).cell (i := 1) rfl
    cases vm
    · simp only [Bool.and_false] at hv
      subst hv
      go_wp2
      go_ret
      exact ⟨rfl, unhide K4⟩
    · simp only [Bool.and_true, beq_self_eq_true, Bool.true_and] at hv
      have hv' := hide hv
      clear hv
      go_wp2_with fail
      refine (within_to rb rz o z _ _ vw _ (unhide s2) (unhide s1) (unhide hw)).mono ?_
      rintro e W5 ⟨rfl, K5⟩
      have K6 := hide ((unhide K4).then K5)
      clear K5
      go_wp2
      go_ret
      exact ⟨ret_bool (unhide hv'), unhide K6⟩
  · have k1' : (k == 1) = false := by simp [k1]
    have s1 : IntKind.i64.wrap (o + 1) = o + 1 := by rw [IntKind.wrap_i64]; omega
    replace s1 := hide s1
    have hv2 : (decide (rb ≤ o) && decide (o + 1 ≤ rb + rz)) = v := by
      rw [← hv, k1', if_neg k1, Bool.false_and, Bool.not_false, Bool.true_and, Bool.and_comm]
      congr 1
      exact decide_eq_decide.2 (by omega)
    replace hv2 := hide hv2
    have k1'' : (k != 1) = true := by simp [k1]
    clear hn q1 q2 q3 q4 h1 h2 h3 h4 hv k1'
    replace k1 := hide k1
    go_enter Try.func53, Try.ntmps53
    go_wp2_with fail
    refine (within_to o 1 rb rz _ _ v _ (unhide s1) (unhide s2) (unhide hv2)).mono ?_
    rintro e W1 ⟨rfl, K1⟩
    have K2 := hide ((unhide K0).then K1)
    clear K1
    go_wp2
    go_ret
    exact ⟨rfl, unhide K2⟩
theorem capns_all {w wr : World} {t : Nat} {L : List Sl} (h : TabIn w t L wr) : ∀ y ∈ L, CapNs y.k y.o y.z := fun y hy => capns_of (h.cp y hy)
set_option maxRecDepth 4000 in
set_option maxHeartbeats 2000000 in
theorem isfree_to {w wr : World} {t : Nat} {L : List Sl} (h : TabIn w t L wr) (rb rz : Int) (h1 : 1 ≤ rb) (h2 : rb ≤ 64) (h3 : 0 ≤ rz) (h4 : rz ≤ 64) {v : Bool} (hv : freeL L rb rz = v) :
    Calls Try.prog 42 #[.pointer (some ⟨t, 0, none⟩), .agg #[.int .i64 rb, .int .i64 rz]] wr fun e w' => e = .returned (.bool v) ∧ Kp [] wr w' := by
  have hc := hide (capns_all h)
  have hnd := hide h.fo.nd
  have hok := hide h.fo.ok
  have H := hide h
  have K0 := hide ((Kp.refl [] wr).alloc (.cells #[.int .i64 rb, .int .i64 rz] 45))
  have R0 := hide (Bk.new wr 45 [.int .i64 rb, .int .i64 rz])
  have hl : (sel (fun _ => true) L).length = L.length := by unfold sel; simp
  have hg : Hid (∀ (j : Nat) (x : Sl), L[j]? = some x → (sel (fun _ => true) L)[j]? = some (x.n, x.s)) := fun j x e => by unfold sel; rw [List.filter_eq_self.2 (fun _ _ => rfl), List.getElem?_map, e]; rfl
  have hsm := (by obtain ⟨m, hp, _⟩ := h.tab; exact hp.small : L.length ≤ 65536)
  replace h1 := hide h1
  replace h2 := hide h2
  replace h3 := hide h3
  replace h4 := hide h4
  replace hv := hide hv
  clear h
  go_enter Try.func42, Try.ntmps42
  go_wp2_with fail
  refine (tall ((unhide H).grew (unhide K0))).mono ?_
  rintro e W1 ⟨vl, rfl, P1, K1⟩
  obtain ⟨a1, c1, e1⟩ := P1.form
  obtain ⟨N, hN⟩ : ∃ N, (sel (fun _ => true) L).length = N := ⟨_, rfl⟩
  rw [hN] at e1 hl
  subst e1 hl
  replace P1 := hide P1
  have K2 := hide ((unhide K0).then K1)
  have R2 := hide ((unhide R0).kept K1 (by simp))
  replace hN := hide hN
  clear K1 K0 R0
  go_wp2_with fail
  go_loopg [12] L.length (fun m i wx => ∃ j : Nat, j ≤ L.length ∧ m = L.length - j ∧ i = .int .i64 j ∧ (∀ l, l < j → ∀ y, L[l]? = some y → keepB rb rz y = false) ∧ Kp [] W1 wx)
  case atStart => exact ⟨0, Nat.zero_le _, rfl, rfl, fun l hl => by omega, Kp.refl _ _⟩
  case round =>
    obtain ⟨j, hj, rfl, rfl, hnot, hK⟩ := hrel
    by_cases hlt : j < L.length
    · obtain ⟨x, hx⟩ : ∃ x, L[j]? = some x := ⟨_, List.getElem?_eq_getElem hlt⟩
      have b1 : (j : Int) < (L.length : Int) := by omega
      have b2 : ((j : Int)).toNat = j := Int.toNat_natCast j
      obtain ⟨g, hga⟩ : ∃ g, a1 = some ⟨g, 0, none⟩ := by
        rcases (unhide P1).addr with ⟨e, _⟩ | ⟨g, cap, e, _⟩
        · simp only [Value.slice.injEq] at e; omega
        · simp only [Value.slice.injEq] at e; exact ⟨g, e.1⟩
      subst hga
      have hxn := hide (unhide hc x (List.mem_of_getElem? hx))
      have hpi := hide (pin_ok (unhide hok x (List.mem_of_getElem? hx)))
      have hlk := hide (at_own (unhide hnd) hx)
      obtain ⟨y0, y1⟩ := (unhide P1).at (unhide hg j x hx)
      have x0 := hK.cell y0
      have x1 := hK.cell y1
      obtain ⟨kb, hkb⟩ : ∃ v, keepB rb rz x = v := ⟨_, rfl⟩
      have hkn := hide ((keepN_is rb rz x).symm.trans hkb)
      replace hx := hide hx
      replace hkb := hide hkb
      obtain ⟨xn, xs, xu, xv, xk, xo, xz, xb, xr⟩ := x
      simp only at x0 x1
      have KK := hide hK
      replace hnot := hide hnot
      clear hK y0 y1
      go_wp2_with fail
      have hgt := tget ((unhide H).grew (((unhide K2).then (unhide KK)).alloc (.cells #[.int .i64 xn, .int .i64 xs] 40))) (unhide hpi)
      rw [unhide hlk] at hgt
      simp only [capO, capV, Option.isSome_some] at hgt
      refine hgt.mono ?_
      rintro e W3 ⟨rfl, K3⟩
      have K4 := hide (((unhide KK).alloc (.cells #[.int .i64 xn, .int .i64 xs] 40)).then K3)
      have K5 := hide ((unhide K4).alloc (.cells #[.int .i64 xk, .int .i64 xo, .int .i64 xz, .int .i64 xb, .int .i64 xr] 38))
      have R5 := (unhide R2).kept (unhide K5) (by simp)
      have r0 := R5.cell (i := 0) rfl
      have r1 := R5.cell (i := 1) rfl
      clear K3 hgt R5 x0 x1
      go_wp2_with fail
      refine (keeps_to xk xo xz xb xr rb rz kb _ (unhide hxn) (unhide h1) (unhide h2) (unhide h3) (unhide h4) (unhide hkn)).mono ?_
      rintro e W6 ⟨rfl, K6⟩
      have K7 := hide ((unhide K5).then K6)
      clear K6 r0 r1
      cases kb
      · have hm := hide (keep_more (unhide hnot) (unhide hx) (unhide hkb))
        go_wp2
        go_roundg (L.length - (j + 1))
        case measure => omega
        case rel => exact ⟨j + 1, by omega, rfl, by go_num, unhide hm, unhide K7⟩
      · have hm := hide ((unhide hv).symm.trans (free_no (List.mem_of_getElem? (unhide hx)) (unhide hkb)))
        go_wp2
        go_ret
        exact ⟨ret_bool (unhide hm).symm, (unhide K2).then (unhide K7)⟩
    · have b1 : decide ((j : Int) < (L.length : Int)) = false := decide_eq_false (by omega)
      have hfy : freeL L rb rz = true := free_yes (fun l hl => hnot l (Nat.lt_of_lt_of_le hl (Nat.le_of_not_lt hlt)))
      have hf := hide ((unhide hv).symm.trans hfy)
      replace hK := hide hK
      clear hnot
      go_wp2
      go_ret
      exact ⟨ret_bool (unhide hf).symm, (unhide K2).then (unhide hK)⟩
end Go.Proofs.Ythjhpcbhkcmghaa
