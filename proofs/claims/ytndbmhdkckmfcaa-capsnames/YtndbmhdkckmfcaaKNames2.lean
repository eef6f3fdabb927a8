/- The walk of CapsNames, the rest. -/
import Derived.Test.YtndbmhdkckmfcaaKNames
namespace Go.Proofs.Ytndbmhdkckmfcaa
open Go.RowKit
set_option linter.unusedVariables false
set_option maxHeartbeats 1000000 in
theorem names_nine (kind a b size other rights : Int) (w : World) (hk : kind % 9 = 8) :
    Calls Try.prog 7 #[.int .i64 kind, .int .i64 a, .int .i64 b, .int .i64 size, .int .i64 other, .int .i64 rights] w fun e w' => e = .returned (.bool true) ∧ Below w.heap.size w w' := by
  obtain ⟨a', ha⟩ : ∃ x, a % 4 = x := ⟨_, rfl⟩
  obtain ⟨b', hb⟩ : ∃ x, b % 4 = x := ⟨_, rfl⟩
  obtain ⟨s', hs⟩ : ∃ x, size % 3 = x := ⟨_, rfl⟩
  obtain ⟨t', ht⟩ : ∃ x, other % 3 = x := ⟨_, rfl⟩
  obtain ⟨r', hr⟩ : ∃ x, rights % 8 = x := ⟨_, rfl⟩
  have a1 : 0 ≤ a' ∧ a' < 4 := by omega
  have b1 : 0 ≤ b' ∧ b' < 4 := by omega
  have s1 : 0 ≤ s' ∧ s' < 3 := by omega
  have t1 : 0 ≤ t' ∧ t' < 3 := by omega
  replace ha := hide ha
  replace hb := hide hb
  replace hs := hide hs
  replace ht := hide ht
  replace hr := hide hr
  replace hk := hide hk
  obtain ⟨A, hA⟩ : ∃ A, 1 + a' = A := ⟨_, rfl⟩
  obtain ⟨B, hB⟩ : ∃ A, 1 + b' = A := ⟨_, rfl⟩
  obtain ⟨S, hS⟩ : ∃ A, 1 + s' = A := ⟨_, rfl⟩
  obtain ⟨T, hT⟩ : ∃ A, 1 + t' = A := ⟨_, rfl⟩
  obtain ⟨v1, h1⟩ : ∃ v, (A == B) = v := ⟨_, rfl⟩
  have HN := hide (show namesP 9 A 0 9 B 0 = v1 from by rw [← h1]; refine Bool.eq_iff_iff.2 ?_; simp [namesP])
  have HM := hide (show namesP 9 B 0 9 A 0 = v1 from by rw [← h1]; refine Bool.eq_iff_iff.2 ?_; simp [namesP]; exact eq_comm)
  have HZ := hide (show namesP 9 A 0 1 B 1 = false from by simp [namesP])
  cases v1 <;>
  · go_enter Try.func7, Try.ntmps7
    go_wp2_with fail
    refine (first_calls _).mono ?_
    rintro e W0 ⟨rfl, K0⟩
    replace K0 := hide K0
    go_wp2_with fail
    refine (number_to _ _ _ _ (by omega) (by omega) (unhide hk)).mono ?_
    rintro e w' ⟨rfl, rfl⟩
    go_wp2_with fail
    refine (number_to _ _ _ _ (by omega) (by omega) (unhide ha)).mono ?_
    rintro e w' ⟨rfl, rfl⟩
    go_wp2_with fail
    refine (number_to _ _ _ _ (by omega) (by omega) (unhide hb)).mono ?_
    rintro e w' ⟨rfl, rfl⟩
    go_wp2_with fail
    refine (number_to _ _ _ _ (by omega) (by omega) (unhide hs)).mono ?_
    rintro e w' ⟨rfl, rfl⟩
    go_wp2_with fail
    refine (number_to _ _ _ _ (by omega) (by omega) (unhide ht)).mono ?_
    rintro e w' ⟨rfl, rfl⟩
    go_wp2_with fail
    refine (number_to _ _ _ _ (by omega) (by omega) (unhide hr)).mono ?_
    rintro e w' ⟨rfl, rfl⟩
    go_wp2_with fail
    refine (names_to 9 A 0 0 r' 9 B 0 0 7 _ _ (unhide HN)).mono ?_
    rintro e W1 ⟨rfl, K1⟩
    have X1 := (((CapAt.next _ 9 A 0 0 r' rfl).alloc _).alloc _).kept K1 (by simp)
    have Y1 := ((CapAt.next _ 9 B 0 0 7 (by simp; rfl)).alloc _).kept K1 (by simp)
    have Z1 := (CapAt.next _ 1 B 1 0 7 (by simp; rfl)).kept K1 (by simp)
    replace K1 := hide (((((unhide K0).alloc _).alloc _).alloc _).then K1)
    have x1 := X1.cells
    have y1 := Y1.cells
    have z1 := Z1.cells
    go_wp2_with fail
    refine (names_to 9 B 0 0 7 9 A 0 0 r' _ _ (unhide HM)).mono ?_
    rintro e W2 ⟨rfl, K2⟩
    have X2 := X1.kept K2 (by simp)
    have Z2 := Z1.kept K2 (by simp)
    replace K2 := hide ((unhide K1).then K2)
    have x2 := X2.cells
    have z2 := Z2.cells
    clear X1 x1 Y1 y1 Z1 z1
    go_wp2_with fail
    refine (names_to 9 A 0 0 r' 1 B 1 0 7 _ _ (unhide HZ)).mono ?_
    rintro e W3 ⟨rfl, K3⟩
    have X3 := X2.kept K3 (by simp)
    replace K3 := hide ((unhide K2).then K3)
    have x3 := X3.cells
    clear X2 x2 Z2 z2
    go_wp2_with fail
    refine (range_calls 9 A 0 0 r' _ 0 0 (by simp [*]) (by simp [*])).mono ?_
    rintro e W4 ⟨rfl, K4⟩
    replace K4 := hide ((unhide K3).then K4)
    go_wp2
    go_ret
    exact ⟨rfl, (unhide K4).below (Nat.le_refl _) (by simp)⟩
set_option maxHeartbeats 1000000 in
theorem names_rest (kind a b size other rights : Int) (w : World) (k' : Int) (hk : kind % 9 = k') (h0 : k' ≠ 0) (h3 : k' ≠ 3) (h8 : k' ≠ 8) :
    Calls Try.prog 7 #[.int .i64 kind, .int .i64 a, .int .i64 b, .int .i64 size, .int .i64 other, .int .i64 rights] w fun e w' => e = .returned (.bool true) ∧ Below w.heap.size w w' := by
  obtain ⟨a', ha⟩ : ∃ x, a % 4 = x := ⟨_, rfl⟩
  obtain ⟨b', hb⟩ : ∃ x, b % 4 = x := ⟨_, rfl⟩
  obtain ⟨s', hs⟩ : ∃ x, size % 3 = x := ⟨_, rfl⟩
  obtain ⟨t', ht⟩ : ∃ x, other % 3 = x := ⟨_, rfl⟩
  obtain ⟨r', hr⟩ : ∃ x, rights % 8 = x := ⟨_, rfl⟩
  have a1 : 0 ≤ a' ∧ a' < 4 := by omega
  have b1 : 0 ≤ b' ∧ b' < 4 := by omega
  have s1 : 0 ≤ s' ∧ s' < 3 := by omega
  have t1 : 0 ≤ t' ∧ t' < 3 := by omega
  replace ha := hide ha
  replace hb := hide hb
  replace hs := hide hs
  replace ht := hide ht
  replace hr := hide hr
  replace hk := hide hk
  obtain ⟨A, hA⟩ : ∃ A, 1 + a' = A := ⟨_, rfl⟩
  obtain ⟨B, hB⟩ : ∃ A, 1 + b' = A := ⟨_, rfl⟩
  obtain ⟨S, hS⟩ : ∃ A, 1 + s' = A := ⟨_, rfl⟩
  obtain ⟨T, hT⟩ : ∃ A, 1 + t' = A := ⟨_, rfl⟩
  have k1 : 0 ≤ k' ∧ k' < 9 := by have := unhide hk; omega
  obtain ⟨K, hK⟩ : ∃ K, 1 + k' = K := ⟨_, rfl⟩
  have hZ0 : 1 + K % 9 = K + 1 := by omega
  obtain ⟨Z, hZ⟩ : ∃ Z, 1 + K % 9 = Z := ⟨_, rfl⟩
  have hne : Hid (K ≠ Z) := by unfold Hid; omega
  have e1 : (K == 1) = false := beq_eq_false_iff_ne.2 (by omega)
  have e1' : Hid (K ≠ 1) := by unfold Hid; omega
  have e4 : (K == 4) = false := beq_eq_false_iff_ne.2 (by omega)
  have z1 : (Z == 1) = false := beq_eq_false_iff_ne.2 (by omega)
  clear hZ0 h0 h3 h8
  obtain ⟨v1, h1⟩ : ∃ v, (A == B) = v := ⟨_, rfl⟩
  have HN := hide (show namesP K A 0 K B 0 = v1 from by rw [← h1]; refine Bool.eq_iff_iff.2 ?_; simp [namesP])
  have HM := hide (show namesP K B 0 K A 0 = v1 from by rw [← h1]; refine Bool.eq_iff_iff.2 ?_; simp [namesP]; exact eq_comm)
  have HZ := hide (show namesP K A 0 Z B 0 = false from by simp [namesP, unhide hne])
  cases v1 <;>
  · go_enter Try.func7, Try.ntmps7
    go_wp2_with fail
    refine (first_calls _).mono ?_
    rintro e W0 ⟨rfl, K0⟩
    replace K0 := hide K0
    go_wp2_with fail
    refine (number_to _ _ _ _ (by omega) (by omega) (unhide hk)).mono ?_
    rintro e w' ⟨rfl, rfl⟩
    go_wp2_with fail
    refine (number_to _ _ _ _ (by omega) (by omega) (unhide ha)).mono ?_
    rintro e w' ⟨rfl, rfl⟩
    go_wp2_with fail
    refine (number_to _ _ _ _ (by omega) (by omega) (unhide hb)).mono ?_
    rintro e w' ⟨rfl, rfl⟩
    go_wp2_with fail
    refine (number_to _ _ _ _ (by omega) (by omega) (unhide hs)).mono ?_
    rintro e w' ⟨rfl, rfl⟩
    go_wp2_with fail
    refine (number_to _ _ _ _ (by omega) (by omega) (unhide ht)).mono ?_
    rintro e w' ⟨rfl, rfl⟩
    go_wp2_with fail
    refine (number_to _ _ _ _ (by omega) (by omega) (unhide hr)).mono ?_
    rintro e w' ⟨rfl, rfl⟩
    go_wp2_with fail
    refine (names_to K A 0 0 r' K B 0 0 7 _ _ (unhide HN)).mono ?_
    rintro e W1 ⟨rfl, K1⟩
    have X1 := (((CapAt.next _ K A 0 0 r' rfl).alloc _).alloc _).kept K1 (by simp)
    have Y1 := ((CapAt.next _ K B 0 0 7 (by simp; rfl)).alloc _).kept K1 (by simp)
    have Z1 := (CapAt.next _ Z B 0 0 7 (by simp; rfl)).kept K1 (by simp)
    replace K1 := hide (((((unhide K0).alloc _).alloc _).alloc _).then K1)
    have x1 := X1.cells
    have y1 := Y1.cells
    have z1 := Z1.cells
    go_wp2_with fail
    refine (names_to K B 0 0 7 K A 0 0 r' _ _ (unhide HM)).mono ?_
    rintro e W2 ⟨rfl, K2⟩
    have X2 := X1.kept K2 (by simp)
    have Z2 := Z1.kept K2 (by simp)
    replace K2 := hide ((unhide K1).then K2)
    have x2 := X2.cells
    have z2 := Z2.cells
    clear X1 x1 Y1 y1 Z1 z1
    go_wp2_with fail
    refine (names_to K A 0 0 r' Z B 0 0 7 _ _ (unhide HZ)).mono ?_
    rintro e W3 ⟨rfl, K3⟩
    have X3 := X2.kept K3 (by simp)
    replace K3 := hide ((unhide K2).then K3)
    have x3 := X3.cells
    clear X2 x2 Z2 z2
    go_wp2_with fail
    refine (range_calls K A 0 0 r' _ 0 0 (if_neg (unhide e1')) (if_neg (unhide e1'))).mono ?_
    rintro e W4 ⟨rfl, K4⟩
    replace K4 := hide ((unhide K3).then K4)
    go_wp2
    go_ret
    exact ⟨rfl, (unhide K4).below (Nat.le_refl _) (by simp)⟩
theorem names_walk (kind a b size other rights : Int) (w : World) (_ : (Lit.int .i64 kind).wf = true) (_ : (Lit.int .i64 a).wf = true) (_ : (Lit.int .i64 b).wf = true) (_ : (Lit.int .i64 size).wf = true) (_ : (Lit.int .i64 other).wf = true) (_ : (Lit.int .i64 rights).wf = true) :
    Calls Try.prog 7 #[.int .i64 kind, .int .i64 a, .int .i64 b, .int .i64 size, .int .i64 other, .int .i64 rights] w fun e w' => e = .returned (.bool true) ∧ Below w.heap.size w w' := by
  by_cases h0 : kind % 9 = 0
  · exact names_one kind a b size other rights w h0
  by_cases h3 : kind % 9 = 3
  · exact names_four kind a b size other rights w h3
  by_cases h8 : kind % 9 = 8
  · exact names_nine kind a b size other rights w h8
  exact names_rest kind a b size other rights w _ rfl h0 h3 h8
end Go.Proofs.Ytndbmhdkckmfcaa
