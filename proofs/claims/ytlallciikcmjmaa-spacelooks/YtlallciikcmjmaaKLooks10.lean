/- The walk of SpaceLooks. -/
import Derived.Test.YtlallciikcmjmaaKSpIn
import Derived.Test.YtlallciikcmjmaaKRef
namespace Go.Proofs.Ytlallciikcmjmaa
open Go.RowKit
set_option linter.unusedVariables false
theorem look_in {P R a n r : Int} (h : a / 512 = P) (hP : P < 8) : pgLook [⟨4, P, 9, R⟩] 4 a n r = if n < 0 ∨ n > 512 - a % 512 ∨ bits .and .i64 R r ≠ r then none else some (9, a % 512) := by
  subst h
  unfold pgLook
  have e : pgGet [⟨4, a / 512, 9, R⟩] 4 (a / 512) = some ⟨4, a / 512, 9, R⟩ := by
    unfold pgGet pgAt
    simp
  rw [if_neg (by omega), e]
theorem look_out {P R s a n r : Int} (h : ¬ (4 = s ∧ P = a / 512)) : pgLook [⟨4, P, 9, R⟩] s a n r = none := by
  refine pgLook_none ?_
  unfold pgGet
  rw [pgAt_none.2 (fun x hx => by simp at hx; subst hx; exact h)]
theorem look_bad {P R a n r : Int} (hP : P < 8) (h : n < 0 ∨ n > 512 - a % 512 ∨ bits .and .i64 R r ≠ r) : pgLook [⟨4, P, 9, R⟩] 4 a n r = none := by
  by_cases e : a / 512 = P
  · rw [look_in e hP, if_pos h]
  · exact look_out (fun q => e q.2.symm)
theorem bit_self {R : Int} (h : R = 1 ∨ R = 2 ∨ R = 3) : bits .and .i64 R R = R ∧ bits .and .i64 R (bits .or .i64 R 4) ≠ bits .or .i64 R 4 ∧ (R < 3 → bits .and .i64 R 3 ≠ 3) ∧ -9223372036854775808 ≤ bits .or .i64 R 4 ∧ bits .or .i64 R 4 ≤ 9223372036854775807 := by
  rcases h with rfl | rfl | rfl
  · have e : bits .or .i64 1 4 = 5 := i64_or_nat 1 4 (by decide) (by decide)
    have e1 : bits .and .i64 1 1 = 1 := i64_and_nat 1 1 (by decide) (by decide)
    have e2 : bits .and .i64 1 5 = 1 := i64_and_nat 1 5 (by decide) (by decide)
    have e3 : bits .and .i64 1 3 = 1 := i64_and_nat 1 3 (by decide) (by decide)
    rw [e, e1, e2]
    try rw [e3]
    exact ⟨rfl, by decide, by omega, by decide, by decide⟩
  · have e : bits .or .i64 2 4 = 6 := i64_or_nat 2 4 (by decide) (by decide)
    have e1 : bits .and .i64 2 2 = 2 := i64_and_nat 2 2 (by decide) (by decide)
    have e2 : bits .and .i64 2 6 = 2 := i64_and_nat 2 6 (by decide) (by decide)
    have e3 : bits .and .i64 2 3 = 2 := i64_and_nat 2 3 (by decide) (by decide)
    rw [e, e1, e2]
    try rw [e3]
    exact ⟨rfl, by decide, by omega, by decide, by decide⟩
  · have e : bits .or .i64 3 4 = 7 := i64_or_nat 3 4 (by decide) (by decide)
    have e1 : bits .and .i64 3 3 = 3 := i64_and_nat 3 3 (by decide) (by decide)
    have e2 : bits .and .i64 3 7 = 3 := i64_and_nat 3 7 (by decide) (by decide)
    have e3 : bits .and .i64 3 3 = 3 := i64_and_nat 3 3 (by decide) (by decide)
    rw [e, e1, e2]
    try rw [e3]
    exact ⟨rfl, by decide, by omega, by decide, by decide⟩
set_option maxRecDepth 4000 in
set_option maxHeartbeats 4000000 in
theorem looks_in10 (page off n rights P O M R A : Int) (w : World) (h1 : page % 8 = P) (h2 : off % 512 = O) (h3 : n % (512 - O + 1) = M) (h4 : rights % 3 = R - 1) (hA : P * 512 + O = A) :
    Calls Try.prog 5 #[.int .i64 page, .int .i64 off, .int .i64 n, .int .i64 rights] w fun e w' => e = .returned (.bool true) ∧ Kp [] w w' := by
  have p0 : 0 ≤ P := by omega
  have p1 : P < 8 := by omega
  have o0 : 0 ≤ O := by omega
  have o1 : O < 512 := by omega
  have m0 : 0 ≤ M := by have := Int.emod_nonneg n (show 512 - O + 1 ≠ 0 by omega); omega
  have m1 : M ≤ 512 - O := by have := Int.emod_lt_of_pos n (show 0 < 512 - O + 1 by omega); omega
  have hR : R = 1 ∨ R = 2 ∨ R = 3 := by omega
  obtain ⟨b1, b2, b3, b4, b5⟩ := bit_self hR
  have a0 : 0 ≤ A := by omega
  have a1 : A < 4096 := by omega
  have ad : A / 512 = P := by omega
  have am : A % 512 = O := by omega
  have hw1 : IntKind.u32.wrap A = A := by rw [IntKind.wrap_u32']; omega
  have hw2 : IntKind.u32.wrap (A + 4096) = A + 4096 := by rw [IntKind.wrap_u32']; omega
  have g1 : Hid (pgLook [⟨4, P, 9, R⟩] 4 A M R = some (9, O)) := by unfold Hid; rw [look_in ad p1, if_neg (by rw [b1]; simp; omega), am]
  have g2 : Hid (pgLook [⟨4, P, 9, R⟩] 4 A (512 - O + 1) R = none) := look_bad p1 (.inr (.inl (by omega)))
  have g3 : Hid (pgLook [⟨4, P, 9, R⟩] 4 A M (bits .or .i64 R 4) = none) := look_bad p1 (.inr (.inr b2))
  have g4 : Hid (pgLook [⟨4, P, 9, R⟩] 5 A M R = none) := look_out (by simp)
  have g5 : Hid (pgLook [⟨4, P, 9, R⟩] 4 (A + 4096) M R = none) := look_out (by omega)
  have g6 : Hid (pgLook [⟨4, P, 9, R⟩] 4 A (-1) R = none) := look_bad p1 (.inl (by decide))
  have g7 : Hid (R < 3 → pgLook [⟨4, P, 9, R⟩] 4 A M 3 = none) := fun h => look_bad p1 (.inr (.inr (b3 h)))
  have hset : Hid (setP [] 4 P 9 R) := by unfold Hid; exact ⟨⟨p0, p1⟩, by unfold unitP; omega, by unfold unitP; omega, by omega, rfl⟩
  have hins : Hid (pgIns [] ⟨4, P, 9, R⟩ = [⟨4, P, 9, R⟩]) := rfl
  have hno : Hid (¬ setP [⟨4, P, 9, R⟩] 4 P 8 3) := fun q => by
    have := pgAt_none.1 q.2.2.2.2 _ (List.mem_singleton.2 rfl)
    simp at this
  have hi : Hid (PgIn (4, P)) := pgIn_of (by omega) (by omega)
  have hrb : Hid (-9223372036854775808 ≤ R ∧ R ≤ 9223372036854775807) := ⟨by omega, by omega⟩
  have ha : Hid (0 ≤ A ∧ A < 4294967296 ∧ 0 ≤ A + 4096 ∧ A + 4096 < 4294967296) := ⟨by omega, by omega, by omega, by omega⟩
  have h4' : Hid (rights % 3 = R - 1) := h4
  have hm : Hid (0 < 512 - O + 1 ∧ 512 - O + 1 ≤ 4294967296) := ⟨by omega, by omega⟩
  replace h1 := hide h1
  replace h2 := hide h2
  replace h3 := hide h3
  have hb45 := hide (And.intro b4 b5)
  clear b1 b2 b3 b4 b5 ad am h4
  go_enter Try.func5, Try.ntmps5
  go_wp2_with fail
  refine (first_calls w).mono ?_
  rintro e W1 ⟨rfl, K1⟩
  replace K1 := hide K1
  go_wp2_with fail
  refine (number_to _ _ _ _ (by decide) (by decide) (unhide h1)).mono ?_
  rintro e W1 ⟨rfl, rfl⟩
  go_wp2_with fail
  refine (number_to _ _ _ _ (by decide) (by decide) (unhide h2)).mono ?_
  rintro e W1 ⟨rfl, rfl⟩
  go_wp2_with fail
  refine (number_to _ _ _ _ (unhide hm).1 (unhide hm).2 (unhide h3)).mono ?_
  rintro e W1 ⟨rfl, rfl⟩
  go_wp2_with fail
  refine (number_to _ _ _ _ (by decide) (by decide) (unhide h4')).mono ?_
  rintro e W1 ⟨rfl, rfl⟩
  have hr1 : 1 + (R - 1) = R := by omega
  have X0 := hide (SpIn.of (unhide K1) rfl (Kp.refl [] _))
  go_wp2_with fail
  generalize W1.alloc (.cells #[.map none] 26) = W2 at *
  refine (spset_yes (unhide X0) (unhide hset) (by decide) (unhide hins)).mono ?_
  rintro e W3 ⟨rfl, X3, _⟩
  replace X3 := hide X3
  clear X0
  go_wp2_with fail
  refine (spset_no (unhide X3) (unhide hi) (unhide hno)).mono ?_
  rintro e W4 ⟨rfl, K4⟩
  have X4 := hide ((unhide X3).grew K4)
  clear X3 K4
  go_wp2_with fail
  refine (splook (unhide X4) (by decide) (unhide ha).1 (unhide ha).2.1 (unhide hrb) (unhide g1)).mono ?_
  rintro e W5 ⟨rfl, K5⟩
  rw [lookV_some]
  have X5 := hide ((unhide X4).grew K5)
  clear X4 K5
  go_wp2_with fail
  refine (splook (unhide X5) (by decide) (unhide ha).1 (unhide ha).2.1 (unhide hrb) (unhide g2)).mono ?_
  rintro e W6 ⟨rfl, K6⟩
  rw [lookV_none]
  have X6 := hide ((unhide X5).grew K6)
  clear X5 K6
  go_wp2_with fail
  refine (splook (unhide X6) (by decide) (unhide ha).1 (unhide ha).2.1 (unhide hb45) (unhide g3)).mono ?_
  rintro e W7 ⟨rfl, K7⟩
  rw [lookV_none]
  have X7 := hide ((unhide X6).grew K7)
  clear X6 K7
  go_wp2_with fail
  refine (splook (unhide X7) (by decide) (unhide ha).1 (unhide ha).2.1 (unhide hrb) (unhide g4)).mono ?_
  rintro e W8 ⟨rfl, K8⟩
  rw [lookV_none]
  have X8 := hide ((unhide X7).grew K8)
  clear X7 K8
  go_wp2_with fail
  refine (splook (unhide X8) (by decide) (unhide ha).2.2.1 (unhide ha).2.2.2 (unhide hrb) (unhide g5)).mono ?_
  rintro e W9 ⟨rfl, K9⟩
  rw [lookV_none]
  have X9 := hide ((unhide X8).grew K9)
  clear X8 K9
  go_wp2_with fail
  refine (splook (unhide X9) (by decide) (unhide ha).1 (unhide ha).2.1 (unhide hrb) (unhide g6)).mono ?_
  rintro e W10 ⟨rfl, K10⟩
  rw [lookV_none]
  have X10 := hide ((unhide X9).grew K10)
  clear X9 K10
  by_cases h3 : R < 3
  · have hg7 := hide (unhide g7 h3)
    go_wp2_with fail
    refine (splook (unhide X10) (by decide) (unhide ha).1 (unhide ha).2.1 (by decide) (unhide hg7)).mono ?_
    rintro e W11 ⟨rfl, K11⟩
    rw [lookV_none]
    have X11 := hide ((unhide X10).grew K11)
    clear X10 K11
    go_wp2
    go_ret
    exact ⟨rfl, (unhide X11).kp⟩
  · have h3' : decide (R < 3) = false := decide_eq_false h3
    clear h3
    go_wp2
    go_ret
    exact ⟨rfl, (unhide X10).kp⟩
theorem slooks_walk (page off n rights : Int) (w : World) (_ : (Lit.int .i64 page).wf = true) (_ : (Lit.int .i64 off).wf = true) (_ : (Lit.int .i64 n).wf = true) (_ : (Lit.int .i64 rights).wf = true) :
    Calls Try.prog 5 #[.int .i64 page, .int .i64 off, .int .i64 n, .int .i64 rights] w fun e w' => e = .returned (.bool true) ∧ Below w.heap.size w w' :=
  (looks_in10 page off n rights (page % 8) (off % 512) (n % (512 - off % 512 + 1)) (rights % 3 + 1) _ w rfl rfl rfl (by omega) rfl).mono fun e w' h => ⟨h.1, h.2.below (Nat.le_refl _) (by simp)⟩
end Go.Proofs.Ytlallciikcmjmaa
