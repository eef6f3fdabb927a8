/- The walk of SlotsRefuse. -/
import Derived.Test.YtnkpjefbmmhjjaaKLaw5
namespace Go.Proofs.Ytnkpjefbmmhjjaa
open Go.RowKit
set_option linter.unusedVariables false
theorem pin_2 {n s : Int} (h1 : -9223372036854775808 ≤ n) (h2 : n ≤ 9223372036854775807) (h3 : -9223372036854775808 ≤ s) (h4 : s ≤ 9223372036854775807) : PIn (n, s) := ⟨in64_of h1 h2, in64_of h3 h4⟩
def one5 : List Sl := [⟨2, 3, 0, 0, 3, 4, 0, 0, 3⟩]
/-- The table, the three boxes, and what was there. -/
structure Rf (w : World) (t q : Nat) (m : Option Nat) (wx : World) : Prop where
  kp : Kp [] w wx
  tab : PT wx t m one5
  p : Bk wx (t + 1) 35 [.int .i64 2, .int .i64 3]
  c : Bk wx (t + 2) 43 [.int .i64 3, .int .i64 4, .int .i64 0, .int .i64 0, .int .i64 3]
  q : Bk wx q 35 [.int .i64 2, .int .i64 4]
theorem Rf.grew {w : World} {t q : Nat} {m : Option Nat} {wx wy : World} (h : Rf w t q m wx) (k : Kp [] wx wy) : Rf w t q m wy :=
  ⟨h.kp.then k, h.tab.grew k, h.p.kept k (by simp), h.c.kept k (by simp), h.q.kept k (by simp)⟩
theorem Rf.cells {w : World} {t q : Nat} {m : Option Nat} {wx : World} (h : Rf w t q m wx) : wx.cell? ⟨t + 1, 0, none⟩ = some (.int .i64 2) ∧ wx.cell? ⟨t + 1, 1, none⟩ = some (.int .i64 3) ∧ wx.cell? ⟨t + 2, 0, none⟩ = some (.int .i64 3) ∧ wx.cell? ⟨t + 2, 1, none⟩ = some (.int .i64 4) ∧ wx.cell? ⟨t + 2, 2, none⟩ = some (.int .i64 0) ∧ wx.cell? ⟨t + 2, 3, none⟩ = some (.int .i64 0) ∧ wx.cell? ⟨t + 2, 4, none⟩ = some (.int .i64 3) ∧ wx.cell? ⟨q, 0, none⟩ = some (.int .i64 2) ∧ wx.cell? ⟨q, 1, none⟩ = some (.int .i64 4) :=
  ⟨h.p.cell rfl, h.p.cell rfl, h.c.cell rfl, h.c.cell rfl, h.c.cell rfl, h.c.cell rfl, h.c.cell rfl, h.q.cell rfl, h.q.cell rfl⟩
theorem three_box (W : World) : PT (((W.alloc (.cells #[.map none] 27)).alloc (.cells #[.int .i64 2, .int .i64 3] 35)).alloc (.cells #[.int .i64 3, .int .i64 4, .int .i64 0, .int .i64 0, .int .i64 3] 43)) W.heap.size none [] ∧
    Bk (((W.alloc (.cells #[.map none] 27)).alloc (.cells #[.int .i64 2, .int .i64 3] 35)).alloc (.cells #[.int .i64 3, .int .i64 4, .int .i64 0, .int .i64 0, .int .i64 3] 43)) (W.heap.size + 1) 35 [.int .i64 2, .int .i64 3] ∧
    Bk (((W.alloc (.cells #[.map none] 27)).alloc (.cells #[.int .i64 2, .int .i64 3] 35)).alloc (.cells #[.int .i64 3, .int .i64 4, .int .i64 0, .int .i64 0, .int .i64 3] 43)) (W.heap.size + 2) 43 [.int .i64 3, .int .i64 4, .int .i64 0, .int .i64 0, .int .i64 3] ∧
    Kp [] W (((W.alloc (.cells #[.map none] 27)).alloc (.cells #[.int .i64 2, .int .i64 3] 35)).alloc (.cells #[.int .i64 3, .int .i64 4, .int .i64 0, .int .i64 0, .int .i64 3] 43)) :=
  ⟨(PT.new W).grew (((Kp.refl [] _).alloc _).alloc _), (Bk.next (p := W.heap.size + 1) _ _ [.int .i64 2, .int .i64 3] (by simp)).alloc _, Bk.next (p := W.heap.size + 2) _ _ [.int .i64 3, .int .i64 4, .int .i64 0, .int .i64 0, .int .i64 3] (by simp), (((Kp.refl [] W).alloc _).alloc _).alloc _⟩
theorem at_one {n s : Int} (h : ¬ (n = 2 ∧ s = 3)) : atL one5 n s = none := at_none_iff.2 fun x hx e => by
  unfold one5 at hx
  simp at hx
  rw [hx] at e
  exact h ⟨e.1.symm, e.2.symm⟩
set_option maxRecDepth 4000 in
set_option maxHeartbeats 4000000 in
theorem refuse_walk (which n : Int) (w : World) (_ : (Lit.int .i64 which).wf = true) (_ : (Lit.int .i64 n).wf = true) :
    Calls Try.prog 6 #[.int .i64 which, .int .i64 n] w fun e w' => e = .returned (.bool true) ∧ Below w.heap.size w w' := by
  obtain ⟨k, hk⟩ : ∃ x, n % 1000 = x := ⟨_, rfl⟩
  obtain ⟨j, hj⟩ : ∃ x, which % 8 = x := ⟨_, rfl⟩
  have k1 : 0 ≤ k ∧ k < 1000 := by omega
  have j1 : 0 ≤ j ∧ j < 8 := by omega
  replace hk := hide hk
  replace hj := hide hj
  go_enter Try.func6, Try.ntmps6
  go_wp2_with fail
  refine (first_calls _).mono ?_
  rintro e W0 ⟨rfl, K0⟩
  replace K0 := hide K0
  go_wp2_with fail
  refine (number_to _ _ _ _ (by omega) (by omega) (unhide hk)).mono ?_
  rintro e w0 ⟨rfl, rfl⟩
  obtain ⟨b0, b1, b2, b3⟩ := three_box w0
  have H0 := hide b0
  have B1 := hide b1
  have B2 := hide b2
  have K1 := hide ((unhide K0).then b3)
  clear b0 b1 b2 b3
  go_wp2_with fail
  refine (put_to (L' := one5) (unhide H0) (pin_ok (by kernel_rfl)) pin_zero (put_is (by kernel_rfl) (by kernel_rfl) (by kernel_rfl) (.inl (by kernel_rfl))) (by simp) (by rfl)).mono ?_
  rintro e W2 ⟨rfl, m2, hT2, hK2, hm2⟩
  have X := Rf.mk (w := w) (q := W2.heap.size) ((((unhide K1).trans hK2 (T := []) (by simp) (by have := (unhide K0).size; simp; omega))).alloc (.cells #[.int .i64 2, .int .i64 4] 35)) (hT2.grew ((Kp.refl [] _).alloc _)) (((unhide B1).kept hK2 (by simp)).alloc _) (((unhide B2).kept hK2 (by simp)).alloc _) (Bk.new W2 35 [.int .i64 2, .int .i64 4])
  replace X := hide X
  clear hT2 hK2 hm2 H0 B1 B2 K1 K0
  go_wp2_with fail
  refine (number_to _ _ _ _ (by omega) (by omega) (unhide hj)).mono ?_
  rintro e wy ⟨rfl, rfl⟩
  obtain ⟨c0, c1, c2, c3, c4, c5, c6, c7, c8⟩ := (unhide X).cells
  go_upto_block 0 with fail
  go_cut [10] (fun v wx => v = .bool false ∧ Rf w w0.heap.size W2.heap.size m2 wx)
  case first =>
    have hcase : j = 0 ∨ j = 1 ∨ j = 2 ∨ j = 3 ∨ j = 4 ∨ j = 5 ∨ j = 6 ∨ j = 7 := by omega
    rcases hcase with rfl | rfl | rfl | rfl | rfl | rfl | rfl | rfl
    · go_wp2_with fail
      refine (put_no (unhide X).tab ?hi ?hu ?hn).mono ?_
      case hi => exact pin_2 (by omega) (by omega) (by omega) (by omega)
      case hu => exact pin_2 (by omega) (by omega) (by omega) (by omega)
      case hn => exact fun q => absurd q.2.1 (by unfold one5; simp [atL])
      rintro e W3 ⟨rfl, K3⟩
      have X3 := hide ((unhide X).grew K3)
      clear K3
      go_wp2
      go_meet
      case rel => exact ⟨rfl, unhide X3⟩
    · go_wp2_with fail
      refine (put_no (unhide X).tab ?hi ?hu ?hn).mono ?_
      case hi => exact pin_2 (by omega) (by omega) (by omega) (by omega)
      case hu => exact pin_2 (by omega) (by omega) (by omega) (by omega)
      case hn => exact fun q => by have := (placeOk_iff _ _).1 q.1; unfold placeP at this; omega
      rintro e W3 ⟨rfl, K3⟩
      have X3 := hide ((unhide X).grew K3)
      clear K3
      go_wp2
      go_meet
      case rel => exact ⟨rfl, unhide X3⟩
    · go_wp2_with fail
      refine (put_no (unhide X).tab ?hi ?hu ?hn).mono ?_
      case hi => exact pin_2 (by omega) (by omega) (by omega) (by omega)
      case hu => exact pin_2 (by omega) (by omega) (by omega) (by omega)
      case hn => exact fun q => by have := (placeOk_iff _ _).1 q.1; unfold placeP at this; omega
      rintro e W3 ⟨rfl, K3⟩
      have X3 := hide ((unhide X).grew K3)
      clear K3
      go_wp2
      go_meet
      case rel => exact ⟨rfl, unhide X3⟩
    · go_wp2_with fail
      refine (put_no (unhide X).tab ?hi ?hu ?hn).mono ?_
      case hi => exact pin_2 (by omega) (by omega) (by omega) (by omega)
      case hu => exact pin_2 (by omega) (by omega) (by omega) (by omega)
      case hn => exact fun q => by have := (placeOk_iff _ _).1 q.1; unfold placeP at this; omega
      rintro e W3 ⟨rfl, K3⟩
      have X3 := hide ((unhide X).grew K3)
      clear K3
      go_wp2
      go_meet
      case rel => exact ⟨rfl, unhide X3⟩
    · go_wp2_with fail
      refine (put_no (unhide X).tab ?hi ?hu ?hn).mono ?_
      case hi => exact pin_2 (by omega) (by omega) (by omega) (by omega)
      case hu => exact pin_2 (by omega) (by omega) (by omega) (by omega)
      case hn => exact fun q => q.2.2.2.elim (fun z => by omega) (fun z => z (at_one (by omega)))
      rintro e W3 ⟨rfl, K3⟩
      have X3 := hide ((unhide X).grew K3)
      clear K3
      go_wp2
      go_meet
      case rel => exact ⟨rfl, unhide X3⟩
    · go_wp2_with fail
      refine (put_no (unhide X).tab ?hi ?hu ?hn).mono ?_
      case hi => exact pin_2 (by omega) (by omega) (by omega) (by omega)
      case hu => exact pin_2 (by omega) (by omega) (by omega) (by omega)
      case hn => exact fun q => by have := (chk_iff _ _ _ _ _).1 q.2.2.1; unfold chkP at this; omega
      rintro e W3 ⟨rfl, K3⟩
      have X3 := hide ((unhide X).grew K3)
      clear K3
      go_wp2
      go_meet
      case rel => exact ⟨rfl, unhide X3⟩
    · go_wp2_with fail
      refine (move_no (unhide X).tab (pin_2 (by omega) (by omega) (by omega) (by omega)) (pin_2 (by omega) (by omega) (by omega) (by omega)) ?hn).mono ?_
      case hn => exact .inr (.inl (by rw [← Bool.not_eq_true, placeOk_iff]; unfold placeP; omega))
      rintro e W3 ⟨rfl, K3⟩
      have X3 := hide ((unhide X).grew K3)
      clear K3 c0 c1 c2 c3 c4 c5 c6 c7 c8
      obtain ⟨c0, c1, c2, c3, c4, c5, c6, c7, c8⟩ := (unhide X3).cells
      go_wp2_with fail
      refine (move_no (unhide X3).tab (pin_2 (by omega) (by omega) (by omega) (by omega)) (pin_2 (by omega) (by omega) (by omega) (by omega)) ?hn).mono ?_
      case hn => exact .inl (at_one (by omega))
      rintro e W4 ⟨rfl, K3⟩
      have X4 := hide ((unhide X3).grew K3)
      clear K3 c0 c1 c2 c3 c4 c5 c6 c7 c8 X3
      obtain ⟨c0, c1, c2, c3, c4, c5, c6, c7, c8⟩ := (unhide X4).cells
      go_wp2_with fail
      refine (move_no (unhide X4).tab (pin_2 (by omega) (by omega) (by omega) (by omega)) (pin_2 (by omega) (by omega) (by omega) (by omega)) ?hn).mono ?_
      case hn => exact .inr (.inr (by unfold one5; simp [atL]))
      rintro e W5 ⟨rfl, K3⟩
      have X5 := hide ((unhide X4).grew K3)
      clear K3 c0 c1 c2 c3 c4 c5 c6 c7 c8 X4
      go_wp2
      go_meet
      case rel => exact ⟨rfl, unhide X5⟩
    · go_wp2_with fail
      refine (drop_no (unhide X).tab (pin_2 (by omega) (by omega) (by omega) (by omega)) (at_one (by omega))).mono ?_
      rintro e W3 ⟨rfl, K3⟩
      have X3 := hide ((unhide X).grew K3)
      clear K3
      go_wp2
      go_meet
      case rel => exact ⟨rfl, unhide X3⟩
  case rest =>
    obtain ⟨rfl, X3⟩ := hcut
    have X' := hide X3
    clear X X3 c0 c1 c2 c3 c4 c5 c6 c7 c8
    go_wp2_with fail
    refine (all_calls (unhide X').tab).mono ?_
    rintro e W4 ⟨v4, rfl, hP4, hK4⟩
    have X4 := hide ((unhide X').grew hK4)
    obtain ⟨ag, ac, ea⟩ : ∃ ag ac, v4 = .slice (some ⟨ag, 0, none⟩) 1 ac := by
      rcases hP4.addr with ⟨_, e⟩ | ⟨g, cap, e, _⟩
      · cases e
      · exact ⟨g, cap, e⟩
    subst ea
    obtain ⟨c0, c1, c2, c3, c4, c5, c6, c7, c8⟩ := (unhide X4).cells
    have hP := hide hP4
    clear hP4 hK4 X'
    go_wp2_with fail
    refine (get_calls (unhide X4).tab (pin_2 (by omega) (by omega) (by omega) (by omega))).mono ?_
    rintro e wd ⟨he, hK5⟩
    have he' : e = .returned (.tuple #[.agg #[.int .i64 3, .int .i64 4, .int .i64 0, .int .i64 0, .int .i64 3], .bool true]) := he
    subst he'
    have X5 := hide ((unhide X4).grew hK5)
    have hP5 := hide ((unhide hP).kept hK5 (by simp))
    clear he hK5 X4 hP c0 c1 c2 c3 c4 c5 c6 c7 c8
    go_wp2_with fail
    have X6 := hide ((unhide X5).grew ((Kp.refl [] wd).alloc (.cells #[.int .i64 3, .int .i64 4, .int .i64 0, .int .i64 0, .int .i64 3] 43)))
    have hP6 := hide ((unhide hP5).kept ((Kp.refl [] wd).alloc (.cells #[.int .i64 3, .int .i64 4, .int .i64 0, .int .i64 0, .int .i64 3] 43)) (by simp))
    have D6 := hide (Bk.new wd 43 [.int .i64 3, .int .i64 4, .int .i64 0, .int .i64 0, .int .i64 3])
    generalize wd.alloc (.cells #[.int .i64 3, .int .i64 4, .int .i64 0, .int .i64 0, .int .i64 3] 43) = wz at *
    have hS : Hid (∀ w', Kp [] wz w' → (fun w' => w'.cell? ⟨w0.heap.size + 1, 0, none⟩ = some (.int .i64 2) ∧ w'.cell? ⟨w0.heap.size + 1, 1, none⟩ = some (.int .i64 3) ∧ w'.cell? ⟨w0.heap.size + 2, 0, none⟩ = some (.int .i64 3) ∧ w'.cell? ⟨w0.heap.size + 2, 1, none⟩ = some (.int .i64 4) ∧ w'.cell? ⟨w0.heap.size + 2, 2, none⟩ = some (.int .i64 0) ∧ w'.cell? ⟨w0.heap.size + 2, 3, none⟩ = some (.int .i64 0) ∧ w'.cell? ⟨w0.heap.size + 2, 4, none⟩ = some (.int .i64 3) ∧ w'.cell? ⟨ag, 0, none⟩ = some (.int .i64 2) ∧ w'.cell? ⟨ag, 1, none⟩ = some (.int .i64 3) ∧ w'.cell? ⟨wd.heap.size, 0, none⟩ = some (.int .i64 3) ∧ w'.cell? ⟨wd.heap.size, 1, none⟩ = some (.int .i64 4) ∧ w'.cell? ⟨wd.heap.size, 2, none⟩ = some (.int .i64 0) ∧ w'.cell? ⟨wd.heap.size, 3, none⟩ = some (.int .i64 0) ∧ w'.cell? ⟨wd.heap.size, 4, none⟩ = some (.int .i64 3)) w') := fun w' kk => by
      obtain ⟨c0, c1, c2, c3, c4, c5, c6, _, _⟩ := ((unhide X6).grew kk).cells
      obtain ⟨a0, a1⟩ := ((unhide hP6).kept kk (by simp)).at (j := 0) rfl
      have D := (unhide D6).kept kk (by simp)
      exact ⟨c0, c1, c2, c3, c4, c5, c6, a0, a1, D.cell rfl, D.cell rfl, D.cell rfl, D.cell rfl, D.cell rfl⟩
    have K1 := hide ((Kp.refl [] wz).drew)
    clear X5 hP5
    go_region_held3 (fun w' => w'.cell? ⟨w0.heap.size + 1, 0, none⟩ = some (.int .i64 2) ∧ w'.cell? ⟨w0.heap.size + 1, 1, none⟩ = some (.int .i64 3) ∧ w'.cell? ⟨w0.heap.size + 2, 0, none⟩ = some (.int .i64 3) ∧ w'.cell? ⟨w0.heap.size + 2, 1, none⟩ = some (.int .i64 4) ∧ w'.cell? ⟨w0.heap.size + 2, 2, none⟩ = some (.int .i64 0) ∧ w'.cell? ⟨w0.heap.size + 2, 3, none⟩ = some (.int .i64 0) ∧ w'.cell? ⟨w0.heap.size + 2, 4, none⟩ = some (.int .i64 3) ∧ w'.cell? ⟨ag, 0, none⟩ = some (.int .i64 2) ∧ w'.cell? ⟨ag, 1, none⟩ = some (.int .i64 3) ∧ w'.cell? ⟨wd.heap.size, 0, none⟩ = some (.int .i64 3) ∧ w'.cell? ⟨wd.heap.size, 1, none⟩ = some (.int .i64 4) ∧ w'.cell? ⟨wd.heap.size, 2, none⟩ = some (.int .i64 0) ∧ w'.cell? ⟨wd.heap.size, 3, none⟩ = some (.int .i64 0) ∧ w'.cell? ⟨wd.heap.size, 4, none⟩ = some (.int .i64 3)) (first | exact unhide hS _ (unhide K2) | exact unhide hS _ (unhide K1)) (first
      | (go_at_call 23; refine (parent_calls (n := 2) (s := 3) ((unhide X6).tab.grew (unhide K1)) (pin_2 (by omega) (by omega) (by omega) (by omega))).mono ?_; rintro e V1 ⟨he, kk⟩; have he' : e = .returned (.agg #[.int .i64 0, .int .i64 0]) := he; subst he'; have K2 := hide ((unhide K1).then kk); clear kk he))
    all_goals
      go_wp2
      go_ret
      exact ⟨rfl, (((unhide X6).kp.then (unhide K2))).below (Nat.le_refl _) (by simp)⟩
end Go.Proofs.Ytnkpjefbmmhjjaa
