/- The walk of CapsBadge. -/
import Derived.Test.YtndbmhdkckmfcaaKNames
namespace Go.Proofs.Ytndbmhdkckmfcaa
open Go.RowKit
set_option linter.unusedVariables false
theorem badge_to (k o s b r n : Int) (w : World) (k' o' s' b' r' c : Int) (h : bdg k o s b r n = (k', o', s', b', r', c)) (h0 : 0 ≤ n ∧ n < 4294967296) :
    Calls Try.prog 10 #[capV k o s b r, .int .u32 n] w fun e w' => e = .returned (.tuple #[capV k' o' s' b' r', .int .i64 c]) ∧ Kp [] w w' := badge_calls k o s b r n w k' o' s' b' r' c h h0.1 h0.2
theorem bdg_none (k o s b r n : Int) (h : ¬ (k = 4 ∨ k = 5)) (h2 : k ≠ 2) : bdg k o s b r n = (0, 0, 0, 0, 0, 5) := by unfold bdg; rw [if_neg h, if_neg h2]
theorem bdg_zero (k o s b r : Int) (h : k = 4 ∨ k = 5) : bdg k o s b r 0 = (0, 0, 0, 0, 0, 12) := by unfold bdg; rw [if_pos h, if_pos (.inr rfl)]
theorem bdg_had (k o s b r n : Int) (h : k = 4 ∨ k = 5) (hb : b ≠ 0) : bdg k o s b r n = (0, 0, 0, 0, 0, 12) := by unfold bdg; rw [if_pos h, if_pos (.inl hb)]
theorem bdg_far (k o s r n : Int) (h : k = 4 ∨ k = 5) (hn : 2147483648 ≤ n) : bdg k o s 0 r n = (0, 0, 0, 0, 0, 7) := by unfold bdg; rw [if_pos h, if_neg (by omega), if_pos (by omega)]
theorem bdg_mark (k o s r n : Int) (h : k = 4 ∨ k = 5) (hn : 0 < n ∧ n < 2147483648) : bdg k o s 0 r n = (k, o, s, n, r, 0) := by unfold bdg; rw [if_pos h, if_neg (by omega), if_neg (by omega)]
theorem bdg_guard (o s b r n g d : Int) (hg : n % 256 = g) (hd : n / 256 = d) (hc : chk 2 o g d r = true) : bdg 2 o s b r n = (2, o, g, d, r, 0) := by unfold bdg; rw [if_neg (by decide), if_pos rfl, hg, hd, if_pos hc]
theorem bdg_guard_no (o s b r n g d : Int) (hg : n % 256 = g) (hd : n / 256 = d) (hc : chk 2 o g d r = false) : bdg 2 o s b r n = (0, 0, 0, 0, 0, 7) := by unfold bdg; rw [if_neg (by decide), if_pos rfl, hg, hd, if_neg (by rw [hc]; decide)]
set_option maxHeartbeats 1000000 in
theorem badge_one (obj n kind : Int) (w : World) (hk : kind % 9 = 0) (hn : 0 ≤ n ∧ n < 4294967296) :
    Calls Try.prog 5 #[.int .i64 obj, .int .u32 n, .int .i64 kind] w fun e w' => e = .returned (.bool true) ∧ Below w.heap.size w w' := by
  obtain ⟨o', ho⟩ : ∃ x, obj % 20 = x := ⟨_, rfl⟩
  have o1 : 0 ≤ o' ∧ o' < 20 := by omega
  replace ho := hide ho
  replace hk := hide hk
  obtain ⟨O, hO⟩ : ∃ A, 1 + o' = A := ⟨_, rfl⟩
  have O1 : 1 ≤ O ∧ O ≤ 20 := by omega
  go_enter Try.func5, Try.ntmps5
  go_wp2_with fail
  refine (first_calls _).mono ?_
  rintro e W0 ⟨rfl, K0⟩
  replace K0 := hide K0
  go_wp2_with fail
  refine (number_to _ _ _ _ (by omega) (by omega) (unhide hk)).mono ?_
  rintro e w' ⟨rfl, rfl⟩
  go_wp2_with fail
  refine (number_to _ _ _ _ (by omega) (by omega) (unhide ho)).mono ?_
  rintro e w' ⟨rfl, rfl⟩
  go_wp2_with fail
  refine (badge_to 1 O 1 0 7 n _ 0 0 0 0 0 5 (bdg_none _ _ _ _ _ _ (by decide) (by decide)) hn).mono ?_
  rintro e W1 ⟨rfl, K1⟩
  have C1 := (CapAt.next _ 1 O 1 0 7 rfl).kept K1 (by simp)
  replace K1 := hide (((unhide K0).alloc _).then K1)
  have c1 := C1.cells
  have hne : w'.heap.size < W1.heap.size := Bk.lt C1
  go_wp2
  go_ret
  exact ⟨rfl, ((unhide K1).alloc _).below (Nat.le_refl _) (by simp)⟩
set_option maxHeartbeats 1000000 in
theorem badge_rest (obj n kind : Int) (w : World) (k' : Int) (hk : kind % 9 = k') (h0 : k' ≠ 0) (h1 : k' ≠ 1) (h3 : k' ≠ 3) (h4 : k' ≠ 4) (hn : 0 ≤ n ∧ n < 4294967296) :
    Calls Try.prog 5 #[.int .i64 obj, .int .u32 n, .int .i64 kind] w fun e w' => e = .returned (.bool true) ∧ Below w.heap.size w w' := by
  obtain ⟨o', ho⟩ : ∃ x, obj % 20 = x := ⟨_, rfl⟩
  have o1 : 0 ≤ o' ∧ o' < 20 := by omega
  replace ho := hide ho
  replace hk := hide hk
  obtain ⟨O, hO⟩ : ∃ A, 1 + o' = A := ⟨_, rfl⟩
  have O1 : 1 ≤ O ∧ O ≤ 20 := by omega
  have k1 : 0 ≤ k' ∧ k' < 9 := by have := unhide hk; omega
  obtain ⟨K, hK⟩ : ∃ K, 1 + k' = K := ⟨_, rfl⟩
  have e1 : (K == 1) = false := beq_eq_false_iff_ne.2 (by omega)
  have e2 : (K == 2) = false := beq_eq_false_iff_ne.2 (by omega)
  have e4 : (K == 4) = false := beq_eq_false_iff_ne.2 (by omega)
  have e5 : (K == 5) = false := beq_eq_false_iff_ne.2 (by omega)
  have hb : Hid (¬ (K = 4 ∨ K = 5)) := by unfold Hid; omega
  have hb2 : Hid (K ≠ 2) := by unfold Hid; omega
  clear h0 h1 h3 h4
  go_enter Try.func5, Try.ntmps5
  go_wp2_with fail
  refine (first_calls _).mono ?_
  rintro e W0 ⟨rfl, K0⟩
  replace K0 := hide K0
  go_wp2_with fail
  refine (number_to _ _ _ _ (by omega) (by omega) (unhide hk)).mono ?_
  rintro e w' ⟨rfl, rfl⟩
  go_wp2_with fail
  refine (number_to _ _ _ _ (by omega) (by omega) (unhide ho)).mono ?_
  rintro e w' ⟨rfl, rfl⟩
  go_wp2_with fail
  refine (badge_to K O 0 0 7 n _ 0 0 0 0 0 5 (bdg_none _ _ _ _ _ _ (unhide hb) (unhide hb2)) hn).mono ?_
  rintro e W1 ⟨rfl, K1⟩
  have C1 := (CapAt.next _ K O 0 0 7 rfl).kept K1 (by simp)
  replace K1 := hide (((unhide K0).alloc _).then K1)
  have c1 := C1.cells
  have hne : w'.heap.size < W1.heap.size := Bk.lt C1
  go_wp2
  go_ret
  exact ⟨rfl, ((unhide K1).alloc _).below (Nat.le_refl _) (by simp)⟩
set_option maxHeartbeats 1000000 in
theorem badge_4 (obj n kind : Int) (w : World) (hk : kind % 9 = 3) (hn : 0 ≤ n ∧ n < 4294967296) :
    Calls Try.prog 5 #[.int .i64 obj, .int .u32 n, .int .i64 kind] w fun e w' => e = .returned (.bool true) ∧ Below w.heap.size w w' := by
  obtain ⟨o', ho⟩ : ∃ x, obj % 20 = x := ⟨_, rfl⟩
  have o1 : 0 ≤ o' ∧ o' < 20 := by omega
  replace ho := hide ho
  replace hk := hide hk
  obtain ⟨O, hO⟩ : ∃ A, 1 + o' = A := ⟨_, rfl⟩
  have O1 : 1 ≤ O ∧ O ≤ 20 := by omega
  by_cases h0 : n = 0
  · subst h0
    go_enter Try.func5, Try.ntmps5
    go_wp2_with fail
    refine (first_calls _).mono ?_
    rintro e W0 ⟨rfl, K0⟩
    replace K0 := hide K0
    go_wp2_with fail
    refine (number_to _ _ _ _ (by omega) (by omega) (unhide hk)).mono ?_
    rintro e w' ⟨rfl, rfl⟩
    go_wp2_with fail
    refine (number_to _ _ _ _ (by omega) (by omega) (unhide ho)).mono ?_
    rintro e w' ⟨rfl, rfl⟩
    go_wp2_with fail
    refine (badge_to 4 O 0 0 7 0 _ 0 0 0 0 0 12 (bdg_zero _ _ _ _ _ (by decide)) hn).mono ?_
    rintro e W1 ⟨rfl, K1⟩
    have C1 := (CapAt.next _ 4 O 0 0 7 rfl).kept K1 (by simp)
    replace K1 := hide (((unhide K0).alloc _).then K1)
    have c1 := C1.cells
    have hne : w'.heap.size < W1.heap.size := Bk.lt C1
    go_wp2
    go_ret
    exact ⟨rfl, ((unhide K1).alloc _).below (Nat.le_refl _) (by simp)⟩
  have n0 : (n == 0) = false := beq_eq_false_iff_ne.2 h0
  by_cases h1 : 2147483648 ≤ n
  · have n1 : decide (2147483648 ≤ n) = true := decide_eq_true h1
    go_enter Try.func5, Try.ntmps5
    go_wp2_with fail
    refine (first_calls _).mono ?_
    rintro e W0 ⟨rfl, K0⟩
    replace K0 := hide K0
    go_wp2_with fail
    refine (number_to _ _ _ _ (by omega) (by omega) (unhide hk)).mono ?_
    rintro e w' ⟨rfl, rfl⟩
    go_wp2_with fail
    refine (number_to _ _ _ _ (by omega) (by omega) (unhide ho)).mono ?_
    rintro e w' ⟨rfl, rfl⟩
    go_wp2_with fail
    refine (badge_to 4 O 0 0 7 n _ 0 0 0 0 0 7 (bdg_far _ _ _ _ _ (by decide) h1) hn).mono ?_
    rintro e W1 ⟨rfl, K1⟩
    have C1 := (CapAt.next _ 4 O 0 0 7 rfl).kept K1 (by simp)
    replace K1 := hide (((unhide K0).alloc _).then K1)
    have c1 := C1.cells
    have hne : w'.heap.size < W1.heap.size := Bk.lt C1
    go_wp2
    go_ret
    exact ⟨rfl, ((unhide K1).alloc _).below (Nat.le_refl _) (by simp)⟩
  have n1 : decide (2147483648 ≤ n) = false := decide_eq_false h1
  have h2 : 0 < n ∧ n < 2147483648 := by omega
  clear h1
  go_enter Try.func5, Try.ntmps5
  go_wp2_with fail
  refine (first_calls _).mono ?_
  rintro e W0 ⟨rfl, K0⟩
  replace K0 := hide K0
  go_wp2_with fail
  refine (number_to _ _ _ _ (by omega) (by omega) (unhide hk)).mono ?_
  rintro e w' ⟨rfl, rfl⟩
  go_wp2_with fail
  refine (number_to _ _ _ _ (by omega) (by omega) (unhide ho)).mono ?_
  rintro e w' ⟨rfl, rfl⟩
  go_wp2_with fail
  refine (badge_to 4 O 0 0 7 n _ 4 O 0 n 7 0 (bdg_mark _ _ _ _ _ (by decide) h2) hn).mono ?_
  rintro e W1 ⟨rfl, K1⟩
  have C1 := (CapAt.next _ 4 O 0 0 7 rfl).kept K1 (by simp)
  replace K1 := hide (((unhide K0).alloc _).then K1)
  have c1 := C1.cells
  have hne : w'.heap.size < W1.heap.size := Bk.lt C1
  go_wp2_with fail
  refine (badge_to 4 O 0 n 7 n _ 0 0 0 0 0 12 (bdg_had _ _ _ _ _ _ (by decide) h0) hn).mono ?_
  rintro e W2 ⟨rfl, K2⟩
  have C2 := (C1.alloc _).kept K2 (by simp)
  have X2 := (CapAt.next _ 4 O 0 n 7 rfl).kept K2 (by simp)
  replace K2 := hide (((unhide K1).alloc _).then K2)
  have c2 := C2.cells
  have x2 := X2.cells
  have hx2 : W1.heap.size < W2.heap.size := Bk.lt X2
  have hc2 : w'.heap.size < W2.heap.size := Bk.lt C2
  have hc3 : (w'.heap.size == W1.heap.size) = false := beq_eq_false_iff_ne.2 (Nat.ne_of_lt hne)
  go_wp2
  go_ret
  exact ⟨rfl, (((unhide K2).setCell (p := ⟨w'.heap.size, 3, none⟩) (.inr (unhide K0).size) _).alloc _).below (Nat.le_refl _) (by simp)⟩
set_option maxHeartbeats 1000000 in
theorem badge_5 (obj n kind : Int) (w : World) (hk : kind % 9 = 4) (hn : 0 ≤ n ∧ n < 4294967296) :
    Calls Try.prog 5 #[.int .i64 obj, .int .u32 n, .int .i64 kind] w fun e w' => e = .returned (.bool true) ∧ Below w.heap.size w w' := by
  obtain ⟨o', ho⟩ : ∃ x, obj % 20 = x := ⟨_, rfl⟩
  have o1 : 0 ≤ o' ∧ o' < 20 := by omega
  replace ho := hide ho
  replace hk := hide hk
  obtain ⟨O, hO⟩ : ∃ A, 1 + o' = A := ⟨_, rfl⟩
  have O1 : 1 ≤ O ∧ O ≤ 20 := by omega
  by_cases h0 : n = 0
  · subst h0
    go_enter Try.func5, Try.ntmps5
    go_wp2_with fail
    refine (first_calls _).mono ?_
    rintro e W0 ⟨rfl, K0⟩
    replace K0 := hide K0
    go_wp2_with fail
    refine (number_to _ _ _ _ (by omega) (by omega) (unhide hk)).mono ?_
    rintro e w' ⟨rfl, rfl⟩
    go_wp2_with fail
    refine (number_to _ _ _ _ (by omega) (by omega) (unhide ho)).mono ?_
    rintro e w' ⟨rfl, rfl⟩
    go_wp2_with fail
    refine (badge_to 5 O 0 0 7 0 _ 0 0 0 0 0 12 (bdg_zero _ _ _ _ _ (by decide)) hn).mono ?_
    rintro e W1 ⟨rfl, K1⟩
    have C1 := (CapAt.next _ 5 O 0 0 7 rfl).kept K1 (by simp)
    replace K1 := hide (((unhide K0).alloc _).then K1)
    have c1 := C1.cells
    have hne : w'.heap.size < W1.heap.size := Bk.lt C1
    go_wp2
    go_ret
    exact ⟨rfl, ((unhide K1).alloc _).below (Nat.le_refl _) (by simp)⟩
  have n0 : (n == 0) = false := beq_eq_false_iff_ne.2 h0
  by_cases h1 : 2147483648 ≤ n
  · have n1 : decide (2147483648 ≤ n) = true := decide_eq_true h1
    go_enter Try.func5, Try.ntmps5
    go_wp2_with fail
    refine (first_calls _).mono ?_
    rintro e W0 ⟨rfl, K0⟩
    replace K0 := hide K0
    go_wp2_with fail
    refine (number_to _ _ _ _ (by omega) (by omega) (unhide hk)).mono ?_
    rintro e w' ⟨rfl, rfl⟩
    go_wp2_with fail
    refine (number_to _ _ _ _ (by omega) (by omega) (unhide ho)).mono ?_
    rintro e w' ⟨rfl, rfl⟩
    go_wp2_with fail
    refine (badge_to 5 O 0 0 7 n _ 0 0 0 0 0 7 (bdg_far _ _ _ _ _ (by decide) h1) hn).mono ?_
    rintro e W1 ⟨rfl, K1⟩
    have C1 := (CapAt.next _ 5 O 0 0 7 rfl).kept K1 (by simp)
    replace K1 := hide (((unhide K0).alloc _).then K1)
    have c1 := C1.cells
    have hne : w'.heap.size < W1.heap.size := Bk.lt C1
    go_wp2
    go_ret
    exact ⟨rfl, ((unhide K1).alloc _).below (Nat.le_refl _) (by simp)⟩
  have n1 : decide (2147483648 ≤ n) = false := decide_eq_false h1
  have h2 : 0 < n ∧ n < 2147483648 := by omega
  clear h1
  go_enter Try.func5, Try.ntmps5
  go_wp2_with fail
  refine (first_calls _).mono ?_
  rintro e W0 ⟨rfl, K0⟩
  replace K0 := hide K0
  go_wp2_with fail
  refine (number_to _ _ _ _ (by omega) (by omega) (unhide hk)).mono ?_
  rintro e w' ⟨rfl, rfl⟩
  go_wp2_with fail
  refine (number_to _ _ _ _ (by omega) (by omega) (unhide ho)).mono ?_
  rintro e w' ⟨rfl, rfl⟩
  go_wp2_with fail
  refine (badge_to 5 O 0 0 7 n _ 5 O 0 n 7 0 (bdg_mark _ _ _ _ _ (by decide) h2) hn).mono ?_
  rintro e W1 ⟨rfl, K1⟩
  have C1 := (CapAt.next _ 5 O 0 0 7 rfl).kept K1 (by simp)
  replace K1 := hide (((unhide K0).alloc _).then K1)
  have c1 := C1.cells
  have hne : w'.heap.size < W1.heap.size := Bk.lt C1
  go_wp2_with fail
  refine (badge_to 5 O 0 n 7 n _ 0 0 0 0 0 12 (bdg_had _ _ _ _ _ _ (by decide) h0) hn).mono ?_
  rintro e W2 ⟨rfl, K2⟩
  have C2 := (C1.alloc _).kept K2 (by simp)
  have X2 := (CapAt.next _ 5 O 0 n 7 rfl).kept K2 (by simp)
  replace K2 := hide (((unhide K1).alloc _).then K2)
  have c2 := C2.cells
  have x2 := X2.cells
  have hx2 : W1.heap.size < W2.heap.size := Bk.lt X2
  have hc2 : w'.heap.size < W2.heap.size := Bk.lt C2
  have hc3 : (w'.heap.size == W1.heap.size) = false := beq_eq_false_iff_ne.2 (Nat.ne_of_lt hne)
  go_wp2
  go_ret
  exact ⟨rfl, (((unhide K2).setCell (p := ⟨w'.heap.size, 3, none⟩) (.inr (unhide K0).size) _).alloc _).below (Nat.le_refl _) (by simp)⟩
end Go.Proofs.Ytndbmhdkckmfcaa
