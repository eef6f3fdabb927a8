/- Package caps: what each of its functions does, in plain numbers. -/
import Derived.Test.YthjhpcbhkcmghaaRows
import Derived.Test.YthjhpcbhkcmghaaKWord
namespace Go.Proofs.Ythjhpcbhkcmghaa
open Go.RowKit
set_option linter.unusedVariables false
/-- A capability's numbers as the value that goes from hand to hand. -/
abbrev capV (k o s b r : Int) : Value := .agg #[.int .i64 k, .int .i64 o, .int .i64 s, .int .i64 b, .int .i64 r]
/-- Size and Badge, by kind. -/
def fitP (k o s b : Int) : Prop :=
  if k = 1 then 1 ≤ s ∧ s ≤ 65 - o ∧ b = 0 else if k = 2 then 0 ≤ s ∧ s ≤ 8 ∧ 0 ≤ b ∧ b < ((2 ^ s.toNat : Nat) : Int) else if k = 4 ∨ k = 5 then s = 0 ∧ 0 ≤ b ∧ b ≤ 2147483647 else s = 0 ∧ b = 0
def decFit (k o s b : Int) : Decidable (fitP k o s b) := by unfold fitP; exact (if h : _ then isTrue h else isFalse h)
def fitD (k o s b : Int) : Bool := @decide (fitP k o s b) (decFit k o s b)
theorem fitD_iff (k o s b : Int) : fitD k o s b = true ↔ fitP k o s b := by unfold fitD; exact @decide_eq_true_iff _ (decFit k o s b)
/-- Can it be? -/
def chkP (k o s b r : Int) : Prop := (1 ≤ k ∧ k ≤ 9) ∧ (0 ≤ r ∧ r ≤ 7) ∧ (1 ≤ o ∧ o ≤ 64) ∧ fitP k o s b
def chk (k o s b r : Int) : Bool := decide (1 ≤ k ∧ k ≤ 9) && (decide (0 ≤ r ∧ r ≤ 7) && (decide (1 ≤ o ∧ o ≤ 64) && fitD k o s b))
theorem chk_iff (k o s b r : Int) : chk k o s b r = true ↔ chkP k o s b r := by unfold chk chkP; rw [← fitD_iff]; simp
theorem chk_no {k o s b r : Int} (h : ¬ chkP k o s b r) : chk k o s b r = false := Bool.eq_false_iff.2 fun H => h ((chk_iff k o s b r).1 H)
theorem pow_table (s : Int) (h0 : 0 ≤ s) (h8 : s ≤ 8) : s = 0 ∧ 2 ^ s.toNat = 1 ∨ s = 1 ∧ 2 ^ s.toNat = 2 ∨ s = 2 ∧ 2 ^ s.toNat = 4 ∨ s = 3 ∧ 2 ^ s.toNat = 8 ∨ s = 4 ∧ 2 ^ s.toNat = 16 ∨ s = 5 ∧ 2 ^ s.toNat = 32 ∨ s = 6 ∧ 2 ^ s.toNat = 64 ∨ s = 7 ∧ 2 ^ s.toNat = 128 ∨ s = 8 ∧ 2 ^ s.toNat = 256 := by
  have : s = 0 ∨ s = 1 ∨ s = 2 ∨ s = 3 ∨ s = 4 ∨ s = 5 ∨ s = 6 ∨ s = 7 ∨ s = 8 := by omega
  rcases this with rfl | rfl | rfl | rfl | rfl | rfl | rfl | rfl | rfl <;> simp
theorem between_calls (n l g : Int) (v : Bool) (w : World) (h : decide (l ≤ n ∧ n ≤ g) = v) :
    Calls Try.prog 49 #[.int .i64 n, .int .i64 l, .int .i64 g] w fun e w' => e = .returned (.bool v) ∧ w' = w := by
  by_cases h1 : l ≤ n
  · by_cases h2 : n ≤ g
    · go_enter Try.func49, Try.ntmps49
      go_wp2
      go_ret
      exact ⟨ret_bool (by rw [← h]; simp [h1, h2]), rfl⟩
    · go_enter Try.func49, Try.ntmps49
      go_wp2
      go_ret
      exact ⟨ret_bool (by rw [← h]; simp [h1, h2]), rfl⟩
  · go_enter Try.func49, Try.ntmps49
    go_wp2
    go_ret
    exact ⟨ret_bool (by rw [← h]; simp; omega), rfl⟩
set_option maxHeartbeats 1000000 in
theorem fits_calls (k o s b r : Int) (w : World) (h0 : 1 ≤ o) (h1 : o ≤ 64) :
    Calls Try.prog 50 #[capV k o s b r] w fun e w' => e = .returned (.bool (fitD k o s b)) ∧ Kp [] w w' := by
  by_cases k1 : k = 1
  · subst k1
    obtain ⟨v, hv⟩ : ∃ v, decide (1 ≤ s ∧ s ≤ 64 - o + 1) = v := ⟨_, rfl⟩
    cases v <;>
    · go_enter Try.func50, Try.ntmps50
      go_wp2_with (go_at_call 49; refine (between_calls _ _ _ _ _ hv).mono ?_; rintro e w' ⟨rfl, rfl⟩)
      go_ret
      exact ⟨ret_bool (Bool.eq_iff_iff.2 (by rw [fitD_iff]; simp [fitP]; simp at hv; omega)), (Kp.refl _ _).alloc _⟩
  by_cases k2 : k = 2
  · subst k2
    by_cases hs : 0 ≤ s ∧ s ≤ 8
    · obtain ⟨v1, hv1⟩ : ∃ v, decide (0 ≤ s ∧ s ≤ 8) = v := ⟨_, rfl⟩
      obtain ⟨v2, hv2⟩ : ∃ v, decide (0 ≤ b ∧ b ≤ ((2 ^ s.toNat : Nat) : Int) - 1) = v := ⟨_, rfl⟩
      have HE := hide (show v2 = fitD 2 o s b from by rw [← hv2]; refine Bool.eq_iff_iff.2 ?_; rw [fitD_iff]; simp [fitP]; omega)
      obtain rfl : v1 = true := by rw [← hv1]; simp [hs]
      have hp := pow_table s hs.1 hs.2
      generalize 2 ^ s.toNat = P at hp hv2
      rcases hp with ⟨rfl, rfl⟩ | ⟨rfl, rfl⟩ | ⟨rfl, rfl⟩ | ⟨rfl, rfl⟩ | ⟨rfl, rfl⟩ | ⟨rfl, rfl⟩ | ⟨rfl, rfl⟩ | ⟨rfl, rfl⟩ | ⟨rfl, rfl⟩ <;>
      · go_enter Try.func50, Try.ntmps50
        go_wp2_with fail
        go_quiet (first | (go_at_call 49; exact Calls.quiet_of_same (between_calls _ _ _ _ _ hv1)) | (go_at_call 49; exact Calls.quiet_of_same (between_calls _ _ _ _ _ hv2)))
        go_wp2
        go_ret
        exact ⟨ret_bool (unhide HE), ((Kp.refl _ _).alloc _).drewN _⟩
    · have hv1 : decide (0 ≤ s ∧ s ≤ 8) = false := decide_eq_false hs
      have HE := hide (show false = fitD 2 o s b from by refine Bool.eq_iff_iff.2 ?_; rw [fitD_iff]; simp [fitP]; omega)
      clear hs
      go_enter Try.func50, Try.ntmps50
      go_wp2_with fail
      go_quiet ((go_at_call 49; exact Calls.quiet_of_same (between_calls _ _ _ _ _ hv1)))
      go_wp2
      go_ret
      exact ⟨ret_bool (unhide HE), ((Kp.refl _ _).alloc _).drewN _⟩
  have k1' : (k == 1) = false := beq_eq_false_iff_ne.2 k1
  have k2' : (k == 2) = false := beq_eq_false_iff_ne.2 k2
  by_cases k3 : k = 4 ∨ k = 5
  · obtain ⟨v, hv⟩ : ∃ v, decide (0 ≤ b ∧ b ≤ 2147483647) = v := ⟨_, rfl⟩
    have HE := hide (show decide (s = 0 ∧ v = true) = fitD k o s b from by rw [← hv]; refine Bool.eq_iff_iff.2 ?_; rw [fitD_iff]; simp [fitP, k1, k2, k3])
    by_cases hs : s = 0
    · subst hs
      rcases k3 with rfl | rfl <;> cases v <;>
      · go_enter Try.func50, Try.ntmps50
        go_wp2_with (go_at_call 49; refine (between_calls _ _ _ _ _ hv).mono ?_; rintro e w' ⟨rfl, rfl⟩)
        go_ret
        exact ⟨ret_bool (unhide HE), (Kp.refl _ _).alloc _⟩
    · have hs' : (s == 0) = false := beq_eq_false_iff_ne.2 hs
      have HF := hide (show false = fitD k o s b from by rw [← unhide HE]; simp [hs])
      rcases k3 with rfl | rfl <;>
      · go_enter Try.func50, Try.ntmps50
        go_wp2
        go_ret
        exact ⟨ret_bool (unhide HF), (Kp.refl _ _).alloc _⟩
  · have k4' : (k == 4) = false := beq_eq_false_iff_ne.2 (by omega)
    have k5' : (k == 5) = false := beq_eq_false_iff_ne.2 (by omega)
    have HE := hide (show decide (s = 0 ∧ b = 0) = fitD k o s b from by refine Bool.eq_iff_iff.2 ?_; rw [fitD_iff]; simp [fitP, k1, k2, k3])
    clear k1 k2 k3
    by_cases hs : s = 0
    · subst hs
      go_enter Try.func50, Try.ntmps50
      go_wp2
      go_ret
      exact ⟨ret_bool (by rw [← unhide HE]; refine Bool.eq_iff_iff.2 ?_; simp), (Kp.refl _ _).alloc _⟩
    · have hs' : (s == 0) = false := beq_eq_false_iff_ne.2 hs
      go_enter Try.func50, Try.ntmps50
      go_wp2
      go_ret
      exact ⟨ret_bool (by rw [← unhide HE]; simp [hs]), (Kp.refl _ _).alloc _⟩
set_option maxHeartbeats 1000000 in
theorem check_calls (k o s b r : Int) (w : World) :
    Calls Try.prog 30 #[capV k o s b r] w fun e w' => e = .returned (.bool (chk k o s b r)) ∧ Kp [] w w' := by
  obtain ⟨v1, hv1⟩ : ∃ v, decide (1 ≤ k ∧ k ≤ 9) = v := ⟨_, rfl⟩
  obtain ⟨v2, hv2⟩ : ∃ v, decide (0 ≤ r ∧ r ≤ 7) = v := ⟨_, rfl⟩
  obtain ⟨v3, hv3⟩ : ∃ v, decide (1 ≤ o ∧ o ≤ 64) = v := ⟨_, rfl⟩
  obtain ⟨v4, hv4⟩ : ∃ v, fitD k o s b = v := ⟨_, rfl⟩
  have HE := hide (show (v1 && (v2 && (v3 && v4))) = chk k o s b r from by rw [← hv1, ← hv2, ← hv3, ← hv4]; rfl)
  have HO : v3 = true → 1 ≤ o ∧ o ≤ 64 := fun h => by rw [h] at hv3; exact of_decide_eq_true hv3
  replace hv1 := hide hv1
  replace hv2 := hide hv2
  replace hv3 := hide hv3
  replace hv4 := hide hv4
  cases v1
  · go_enter Try.func30, Try.ntmps30
    go_wp2_with fail
    refine (between_calls k 1 9 _ _ (unhide hv1)).mono ?_
    rintro e w' ⟨rfl, rfl⟩
    go_wp2
    go_ret
    exact ⟨ret_bool (unhide HE), (Kp.refl _ _).alloc _⟩
  cases v2
  · go_enter Try.func30, Try.ntmps30
    go_wp2_with fail
    refine (between_calls k 1 9 _ _ (unhide hv1)).mono ?_
    rintro e w' ⟨rfl, rfl⟩
    go_wp2_with fail
    refine (between_calls r 0 7 _ _ (unhide hv2)).mono ?_
    rintro e w' ⟨rfl, rfl⟩
    go_wp2
    go_ret
    exact ⟨ret_bool (unhide HE), (Kp.refl _ _).alloc _⟩
  cases v3
  · go_enter Try.func30, Try.ntmps30
    go_wp2_with fail
    refine (between_calls k 1 9 _ _ (unhide hv1)).mono ?_
    rintro e w' ⟨rfl, rfl⟩
    go_wp2_with fail
    refine (between_calls r 0 7 _ _ (unhide hv2)).mono ?_
    rintro e w' ⟨rfl, rfl⟩
    go_wp2_with fail
    refine (between_calls o 1 64 _ _ (unhide hv3)).mono ?_
    rintro e w' ⟨rfl, rfl⟩
    go_wp2
    go_ret
    exact ⟨ret_bool (unhide HE), (Kp.refl _ _).alloc _⟩
  have ho := HO rfl
  clear HO
  go_enter Try.func30, Try.ntmps30
  go_wp2_with fail
  refine (between_calls k 1 9 _ _ (unhide hv1)).mono ?_
  rintro e w' ⟨rfl, rfl⟩
  go_wp2_with fail
  refine (between_calls r 0 7 _ _ (unhide hv2)).mono ?_
  rintro e w' ⟨rfl, rfl⟩
  go_wp2_with fail
  refine (between_calls o 1 64 _ _ (unhide hv3)).mono ?_
  rintro e w' ⟨rfl, rfl⟩
  go_wp2_with fail
  refine (fits_calls k o s b r _ ho.1 ho.2).mono ?_
  rintro e W1 ⟨rfl, K1⟩
  rw [unhide hv4]
  go_wp2
  go_ret
  exact ⟨ret_bool (unhide HE), ((Kp.refl _ _).alloc _).then K1⟩
set_option maxHeartbeats 1000000 in
theorem rcheck_no (k o s b r : Int) (w : World) (h : ¬ ((1 ≤ k ∧ k ≤ 9) ∧ (0 ≤ r ∧ r ≤ 7) ∧ (1 ≤ o ∧ o ≤ 64))) :
    Calls Try.prog 35 #[capV k o s b r] w fun e w' => e = .returned (.bool (chk k o s b r)) ∧ Kp [] w w' := by
  have HE := hide (show false = chk k o s b r from (Bool.eq_false_iff.2 fun H => h ⟨((chk_iff k o s b r).1 H).1, ((chk_iff k o s b r).1 H).2.1, ((chk_iff k o s b r).1 H).2.2.1⟩).symm)
  obtain ⟨v1, h1⟩ : ∃ v, decide (k < 1) = v := ⟨_, rfl⟩
  obtain ⟨v2, h2⟩ : ∃ v, decide (9 < k) = v := ⟨_, rfl⟩
  obtain ⟨v3, h3⟩ : ∃ v, decide (r < 0) = v := ⟨_, rfl⟩
  obtain ⟨v4, h4⟩ : ∃ v, decide (7 < r) = v := ⟨_, rfl⟩
  obtain ⟨v5, h5⟩ : ∃ v, decide (o < 1) = v := ⟨_, rfl⟩
  obtain ⟨v6, h6⟩ : ∃ v, decide (64 < o) = v := ⟨_, rfl⟩
  have HV : (v1 || v2 || v3 || v4 || v5 || v6) = true := by rw [← h1, ← h2, ← h3, ← h4, ← h5, ← h6]; simp; omega
  clear h
  cases v1
  · cases v2
    · cases v3
      · cases v4
        · cases v5
          · cases v6
            · exact absurd HV (by decide)
            · clear HV
              go_enter Try.func35, Try.ntmps35
              go_wp2
              go_ret
              exact ⟨ret_bool (unhide HE), (Kp.refl _ _).alloc _⟩
          · clear HV h6
            go_enter Try.func35, Try.ntmps35
            go_wp2
            go_ret
            exact ⟨ret_bool (unhide HE), (Kp.refl _ _).alloc _⟩
        · clear HV h5 h6
          go_enter Try.func35, Try.ntmps35
          go_wp2
          go_ret
          exact ⟨ret_bool (unhide HE), (Kp.refl _ _).alloc _⟩
      · clear HV h4 h5 h6
        go_enter Try.func35, Try.ntmps35
        go_wp2
        go_ret
        exact ⟨ret_bool (unhide HE), (Kp.refl _ _).alloc _⟩
    · clear HV h3 h4 h5 h6
      go_enter Try.func35, Try.ntmps35
      go_wp2
      go_ret
      exact ⟨ret_bool (unhide HE), (Kp.refl _ _).alloc _⟩
  · clear HV h2 h3 h4 h5 h6
    go_enter Try.func35, Try.ntmps35
    go_wp2
    go_ret
    exact ⟨ret_bool (unhide HE), (Kp.refl _ _).alloc _⟩
set_option maxHeartbeats 1000000 in
theorem rcheck_yes (k o s b r : Int) (w : World) (hk : 1 ≤ k ∧ k ≤ 9) (hr : 0 ≤ r ∧ r ≤ 7) (ho : 1 ≤ o ∧ o ≤ 64) :
    Calls Try.prog 35 #[capV k o s b r] w fun e w' => e = .returned (.bool (chk k o s b r)) ∧ Kp [] w w' := by
  have HE := hide (show fitD k o s b = chk k o s b r from Bool.eq_iff_iff.2 ((fitD_iff k o s b).trans ⟨fun H => (chk_iff k o s b r).2 ⟨hk, hr, ho, H⟩, fun H => ((chk_iff k o s b r).1 H).2.2.2⟩))
  have h1 : decide (k < 1) = false := decide_eq_false (by omega)
  have h2 : decide (9 < k) = false := decide_eq_false (by omega)
  have h3 : decide (r < 0) = false := decide_eq_false (by omega)
  have h4 : decide (7 < r) = false := decide_eq_false (by omega)
  have h5 : decide (o < 1) = false := decide_eq_false (by omega)
  have h6 : decide (64 < o) = false := decide_eq_false (by omega)
  obtain ⟨o1, o2⟩ := ho
  clear hr
  by_cases k1 : k = 1
  · subst k1
    clear hk h1 h2
    obtain ⟨v1, g1⟩ : ∃ v, decide (1 ≤ s) = v := ⟨_, rfl⟩
    obtain ⟨v2, g2⟩ : ∃ v, decide (s ≤ 65 - o) = v := ⟨_, rfl⟩
    replace HE := hide (show (v1 && (v2 && (b == 0))) = chk 1 o s b r from by rw [← g1, ← g2, ← unhide HE]; refine Bool.eq_iff_iff.2 ?_; rw [fitD_iff]; simp [fitP])
    cases v1
    · clear g2
      go_enter Try.func35, Try.ntmps35
      go_wp2
      go_ret
      exact ⟨ret_bool (unhide HE), (Kp.refl _ _).alloc _⟩
    cases v2
    · go_enter Try.func35, Try.ntmps35
      go_wp2
      go_ret
      exact ⟨ret_bool (unhide HE), (Kp.refl _ _).alloc _⟩
    go_enter Try.func35, Try.ntmps35
    go_wp2
    go_ret
    exact ⟨ret_bool (unhide HE), (Kp.refl _ _).alloc _⟩
  have k1' : (k == 1) = false := beq_eq_false_iff_ne.2 k1
  by_cases k2 : k = 2
  · subst k2
    clear hk h1 h2 k1
    obtain ⟨v1, g1⟩ : ∃ v, decide (0 ≤ s) = v := ⟨_, rfl⟩
    obtain ⟨v2, g2⟩ : ∃ v, decide (s ≤ 8) = v := ⟨_, rfl⟩
    obtain ⟨v3, g3⟩ : ∃ v, decide (0 ≤ b) = v := ⟨_, rfl⟩
    replace HE := hide (show (v1 && (v2 && (v3 && decide (b < ((2 ^ s.toNat : Nat) : Int))))) = chk 2 o s b r from by rw [← g1, ← g2, ← g3, ← unhide HE]; refine Bool.eq_iff_iff.2 ?_; rw [fitD_iff]; simp [fitP])
    cases v1
    · clear g2 g3
      go_enter Try.func35, Try.ntmps35
      go_wp2
      go_ret
      exact ⟨ret_bool (unhide HE), (Kp.refl _ _).alloc _⟩
    cases v2
    · clear g3
      go_enter Try.func35, Try.ntmps35
      go_wp2
      go_ret
      exact ⟨ret_bool (unhide HE), (Kp.refl _ _).alloc _⟩
    cases v3
    · go_enter Try.func35, Try.ntmps35
      go_wp2
      go_ret
      exact ⟨ret_bool (unhide HE), (Kp.refl _ _).alloc _⟩
    have hp := pow_table s (of_decide_eq_true g1) (of_decide_eq_true g2)
    generalize 2 ^ s.toNat = P at hp HE
    rcases hp with ⟨rfl, rfl⟩ | ⟨rfl, rfl⟩ | ⟨rfl, rfl⟩ | ⟨rfl, rfl⟩ | ⟨rfl, rfl⟩ | ⟨rfl, rfl⟩ | ⟨rfl, rfl⟩ | ⟨rfl, rfl⟩ | ⟨rfl, rfl⟩ <;>
    · go_enter Try.func35, Try.ntmps35
      go_wp2
      go_ret
      exact ⟨ret_bool (unhide HE), (Kp.refl _ _).alloc _⟩
  have k2' : (k == 2) = false := beq_eq_false_iff_ne.2 k2
  by_cases k3 : k = 4 ∨ k = 5
  · obtain ⟨v1, g1⟩ : ∃ v, (s == 0) = v := ⟨_, rfl⟩
    obtain ⟨v2, g2⟩ : ∃ v, decide (0 ≤ b) = v := ⟨_, rfl⟩
    replace HE := hide (show (v1 && (v2 && decide (b ≤ 2147483647))) = chk k o s b r from by rw [← g1, ← g2, ← unhide HE]; refine Bool.eq_iff_iff.2 ?_; rw [fitD_iff]; simp [fitP, k1, k2, k3])
    clear hk k1 k2
    cases v1
    · clear g2
      rcases k3 with rfl | rfl <;>
      · go_enter Try.func35, Try.ntmps35
        go_wp2
        go_ret
        exact ⟨ret_bool (unhide HE), (Kp.refl _ _).alloc _⟩
    cases v2 <;> rcases k3 with rfl | rfl <;>
    · go_enter Try.func35, Try.ntmps35
      go_wp2
      go_ret
      exact ⟨ret_bool (unhide HE), (Kp.refl _ _).alloc _⟩
  · have k4' : (k == 4) = false := beq_eq_false_iff_ne.2 (by omega)
    have k5' : (k == 5) = false := beq_eq_false_iff_ne.2 (by omega)
    obtain ⟨v1, g1⟩ : ∃ v, (s == 0) = v := ⟨_, rfl⟩
    replace HE := hide (show (v1 && (b == 0)) = chk k o s b r from by rw [← g1, ← unhide HE]; refine Bool.eq_iff_iff.2 ?_; rw [fitD_iff]; simp [fitP, k1, k2, k3])
    clear hk k1 k2 k3
    cases v1 <;>
    · go_enter Try.func35, Try.ntmps35
      go_wp2
      go_ret
      exact ⟨ret_bool (unhide HE), (Kp.refl _ _).alloc _⟩
theorem rcheck_calls (k o s b r : Int) (w : World) :
    Calls Try.prog 35 #[capV k o s b r] w fun e w' => e = .returned (.bool (chk k o s b r)) ∧ Kp [] w w' := by
  by_cases h : (1 ≤ k ∧ k ≤ 9) ∧ (0 ≤ r ∧ r ≤ 7) ∧ (1 ≤ o ∧ o ≤ 64)
  · exact rcheck_yes k o s b r w h.1 h.2.1 h.2.2
  · exact rcheck_no k o s b r w h
/-- The bits that two numbers have, of the lowest three. -/
def lessR (r m : Int) : Int := (((r % 8).toNat &&& (m % 8).toNat : Nat) : Int)
theorem mod8_of (X r : Int) (h : X = r % 18446744073709551616) : X.toNat % 8 = (r % 8).toNat := by subst h; omega
theorem and_low (r : Int) (a : Nat) (ha : a < 8) : bits .and .i64 r (a : Int) = (((r % 8).toNat &&& a : Nat) : Int) := by
  show IntKind.i64.wrap ((BitVec.ofInt 64 r &&& BitVec.ofInt 64 (a : Int)).toNat : Int) = _
  have e1 : (BitVec.ofInt 64 (a : Int)).toNat = a := by rw [BitVec.ofInt_natCast, BitVec.toNat_ofNat]; exact Nat.mod_eq_of_lt (by omega)
  have e2 : (BitVec.ofInt 64 r).toNat % 8 = (r % 8).toNat := by rw [BitVec.toNat_ofInt]; exact mod8_of _ r rfl
  have e3 : a = 7 &&& a := by
    have : ∀ a : Fin 8, (a : Nat) = 7 &&& (a : Nat) := by decide
    exact this ⟨a, ha⟩
  have e4 : (BitVec.ofInt 64 r).toNat &&& a = (r % 8).toNat &&& a := by
    rw [e3, ← Nat.and_assoc, show (7 : Nat) = 2 ^ 3 - 1 from rfl, Nat.and_two_pow_sub_one_eq_mod, ← Nat.and_assoc, Nat.and_two_pow_sub_one_eq_mod, show (2 : Nat) ^ 3 = 8 from rfl, e2, Nat.mod_eq_of_lt (show (r % 8).toNat < 8 by omega)]
  have e5 : (r % 8).toNat &&& a < 8 := Nat.lt_of_le_of_lt Nat.and_le_right ha
  rw [BitVec.toNat_and, e1, e4]
  generalize (r % 8).toNat &&& a = x at e5
  unfold IntKind.wrap
  have hx : ((x : Int) % 2 ^ IntKind.i64.bits) = x := by
    show (x : Int) % 18446744073709551616 = x
    omega
  rw [hx]
  have : ¬ ((x : Int) ≥ 2 ^ (IntKind.i64.bits - 1)) := by
    show ¬ ((x : Int) ≥ 9223372036854775808)
    omega
  simp [this]
theorem and_7 (m : Int) : bits .and .i64 m 7 = (((m % 8).toNat : Nat) : Int) := by
  rw [show (7 : Int) = ((7 : Nat) : Int) from rfl, and_low m 7 (by omega), show (7 : Nat) = 2 ^ 3 - 1 from rfl, Nat.and_two_pow_sub_one_eq_mod, Nat.mod_eq_of_lt (show (m % 8).toNat < 2 ^ 3 by omega)]
theorem less_walk (r m : Int) : bits .and .i64 r (bits .and .i64 m 7) = lessR r m := by
  rw [and_7, and_low r _ (by omega)]; rfl
theorem and_lt8 (a b : Nat) (hb : b < 8) : a &&& b < 8 := Nat.lt_of_le_of_lt Nat.and_le_right hb
theorem lessR_bd (r m : Int) : 0 ≤ lessR r m ∧ lessR r m < 8 := by
  have := and_lt8 (r % 8).toNat (m % 8).toNat (by omega)
  unfold lessR; omega
/-- The document's own order of it. -/
theorem rless_walk (r m : Int) : bits .and .i64 (bits .and .i64 r m) 7 = lessR r m := by
  rw [and_7]
  unfold lessR
  congr 1
  show ((IntKind.i64.wrap ((BitVec.ofInt 64 r &&& BitVec.ofInt 64 m).toNat : Int)) % 8).toNat = _
  have e1 : (BitVec.ofInt 64 r).toNat % 8 = (r % 8).toNat := by rw [BitVec.toNat_ofInt]; exact mod8_of _ r rfl
  have e2 : (BitVec.ofInt 64 m).toNat % 8 = (m % 8).toNat := by rw [BitVec.toNat_ofInt]; exact mod8_of _ m rfl
  have e3 : ∀ x : Nat, (IntKind.i64.wrap (x : Int) % 8).toNat = x % 8 := by
    intro x
    unfold IntKind.wrap
    show ((if (true && decide (((x : Int) % 18446744073709551616) ≥ 9223372036854775808)) = true then (x : Int) % 18446744073709551616 - 18446744073709551616 else (x : Int) % 18446744073709551616) % 8).toNat = x % 8
    split <;> omega
  rw [e3, BitVec.toNat_and, ← e1, ← e2, show (8 : Nat) = 2 ^ 3 from rfl, Nat.and_mod_two_pow]
def namesP (k o s k' o' s' : Int) : Bool := decide (k = k' ∧ o = o' ∧ (k = 1 → s = s'))
set_option maxHeartbeats 400000 in
theorem range_calls (k o s b r : Int) (w : World) (x y : Int) (hx : (if k = 1 then o else 0) = x) (hy : (if k = 1 then s else 0) = y) :
    Calls Try.prog 41 #[capV k o s b r] w fun e w' => e = .returned (.agg #[.int .i64 x, .int .i64 y]) ∧ Kp [] w w' := by
  by_cases k1 : k = 1
  · subst k1
    rw [if_pos rfl] at hx hy
    subst hx hy
    go_enter Try.func41, Try.ntmps41
    go_wp2
    exact bodyPost_ret (v := .agg #[.int .i64 o, .int .i64 s]) (by simp [results, Try.results41, go_sem]) rfl ⟨rfl, ((Kp.refl _ _).alloc _).alloc _⟩
  · rw [if_neg k1] at hx hy
    subst hx hy
    have k1' : (k != 1) = true := by simp [k1]
    clear k1
    go_enter Try.func41, Try.ntmps41
    go_wp2
    exact bodyPost_ret (v := .agg #[.int .i64 0, .int .i64 0]) (by simp [results, Try.results41, go_sem]) rfl ⟨rfl, ((Kp.refl _ _).alloc _).alloc _⟩
set_option maxHeartbeats 400000 in
theorem rrange_calls (k o s b r : Int) (w : World) (x y : Int) (hx : (if k = 1 then o else 0) = x) (hy : (if k = 1 then s else 0) = y) :
    Calls Try.prog 45 #[capV k o s b r] w fun e w' => e = .returned (.agg #[.int .i64 x, .int .i64 y]) ∧ Kp [] w w' := by
  by_cases k1 : k = 1
  · subst k1
    rw [if_pos rfl] at hx hy
    subst hx hy
    go_enter Try.func45, Try.ntmps45
    go_wp2
    exact bodyPost_ret (v := .agg #[.int .i64 o, .int .i64 s]) (by simp [results, Try.results45, go_sem]) rfl ⟨rfl, ((Kp.refl _ _).alloc _).alloc _⟩
  · rw [if_neg k1] at hx hy
    subst hx hy
    have k1' : (k != 1) = true := by simp [k1]
    clear k1
    go_enter Try.func45, Try.ntmps45
    go_wp2
    exact bodyPost_ret (v := .agg #[.int .i64 0, .int .i64 0]) (by simp [results, Try.results45, go_sem]) rfl ⟨rfl, ((Kp.refl _ _).alloc _).alloc _⟩
/-- With a badge, or a guard: the capability's numbers, and the code. -/
def bdg (k o s b r n : Int) : Int × Int × Int × Int × Int × Int :=
  if k = 4 ∨ k = 5 then (if b ≠ 0 ∨ n = 0 then (0, 0, 0, 0, 0, 12) else if 2147483647 < n then (0, 0, 0, 0, 0, 7) else (k, o, s, n, r, 0))
  else if k = 2 then (if chk 2 o (n % 256) (n / 256) r = true then (2, o, n % 256, n / 256, r, 0) else (0, 0, 0, 0, 0, 7))
  else (0, 0, 0, 0, 0, 5)
theorem field8 (n : Int) (h0 : 0 ≤ n) : ((fldN n.toNat (0 : Int).toNat (widthOf 0 8).toNat : Nat) : Int) = n % 256 := by
  rw [show (widthOf 0 8).toNat = 8 from rfl, show (0 : Int).toNat = 0 from rfl]
  unfold fldN
  simp
  omega
theorem five {S : List Nat} {w w' : World} (h : Kp S w w') {p : Nat} (hp : w.heap.size ≤ p) (a b c d e : Value) :
    Kp S w (((((w'.setCell ⟨p, 0, none⟩ a).setCell ⟨p, 1, none⟩ b).setCell ⟨p, 2, none⟩ c).setCell ⟨p, 3, none⟩ d).setCell ⟨p, 4, none⟩ e) :=
  ((((h.setCell (.inr hp) _).setCell (.inr hp) _).setCell (.inr hp) _).setCell (.inr hp) _).setCell (.inr hp) _
theorem Bk.next (w : World) (T : TypeId) (vs : List Value) {p : Nat} (hp : w.heap.size = p) : Bk (w.alloc (.cells vs.toArray T)) p T vs := by subst hp; exact Bk.new w T vs
theorem Bk.setOther {w : World} {g : Nat} {T : TypeId} {vs : List Value} (h : Bk w g T vs) {p : Addr} (hp : p.block ≠ g) (v : Value) : Bk (w.setCell p v) g T vs := by
  unfold Bk at *
  rw [Below.heap_setCell _ _ _ _ (fun e => hp e.symm)]
  exact h
theorem box_two {w W1 : World} {T : TypeId} {a : Array Value} {vs : List Value} (K1 : Kp [] ((w.alloc (.cells a T)).alloc (.cells vs.toArray T)) W1) : Bk W1 (w.heap.size + 1) T vs ∧ Kp [] w W1 :=
  ⟨Bk.kept (Bk.next (w.alloc (.cells a T)) T vs (by simp)) K1 (by simp), (((Kp.refl [] w).alloc _).alloc _).then K1⟩
end Go.Proofs.Ythjhpcbhkcmghaa
