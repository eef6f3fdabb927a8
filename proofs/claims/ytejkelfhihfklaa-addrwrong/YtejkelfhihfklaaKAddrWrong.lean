/- The walk of AddrWrong. -/
import Derived.Test.YtejkelfhihfklaaKLaw4
namespace Go.Proofs.Ytejkelfhihfklaa
open Go.RowKit
set_option linter.unusedVariables false
/-- A node without a guard takes a step of just its bits. -/
theorem node_step (s : Int) (h0 : 0 ≤ s) (h1 : s ≤ 8) : stepP 2 1 s 0 0 0 (s + 4) := by
  have hp := pow24 s h0 (by omega)
  have hq := pow24 (s + 4) (by omega) (by omega)
  refine ⟨rfl, ⟨by omega, by omega, by omega, ?_⟩, by omega, by omega, by omega, by simp⟩
  unfold fitP
  rw [if_neg (by decide), if_pos rfl]
  omega
set_option maxHeartbeats 1000000 in
theorem wrong_walk (which n size : Int) (w : World) (_ : (Lit.int .i64 which).wf = true) (_ : (Lit.int .i64 n).wf = true) (_ : (Lit.int .i64 size).wf = true) :
    Calls Try.prog 6 #[.int .i64 which, .int .i64 n, .int .i64 size] w fun e w' => e = .returned (.bool true) ∧ Below w.heap.size w w' := by
  obtain ⟨m, hm⟩ : ∃ x, n % 1000 = x := ⟨_, rfl⟩
  obtain ⟨s, hs⟩ : ∃ x, size % 9 = x := ⟨_, rfl⟩
  obtain ⟨j, hj⟩ : ∃ x, which % 6 = x := ⟨_, rfl⟩
  obtain ⟨d, hd⟩ : ∃ x, m % (s + 4) = x := ⟨_, rfl⟩
  have m1 : 0 ≤ m ∧ m < 1000 := by omega
  have s1 : 0 ≤ s ∧ s ≤ 8 := by omega
  have j1 : 0 ≤ j ∧ j < 6 := by omega
  have d1 : 0 ≤ d ∧ d < s + 4 := by rw [← hd]; exact ⟨Int.emod_nonneg _ (by omega), Int.emod_lt_of_pos _ (by omega)⟩
  have hY := hide (node_step s s1.1 s1.2)
  have hW := wrap_pow (s + 4) (by omega) (by omega)
  obtain ⟨P, hP⟩ : ∃ P : Int, ((2 ^ (s + 4).toNat : Nat) : Int) = P := ⟨_, rfl⟩
  rw [hP] at hW
  replace hm := hide hm
  replace hs := hide hs
  replace hj := hide hj
  replace hd := hide hd
  replace hP := hide hP
  go_enter Try.func6, Try.ntmps6
  go_wp2_with fail
  refine (first_kp _).mono ?_
  rintro e W0 ⟨rfl, K0⟩
  replace K0 := hide K0
  go_wp2_with fail
  refine (number_to _ _ _ _ (by omega) (by omega) (unhide hm)).mono ?_
  rintro e w' ⟨rfl, rfl⟩
  go_wp2_with fail
  refine (number_to _ _ _ _ (by omega) (by omega) (unhide hs)).mono ?_
  rintro e w' ⟨rfl, rfl⟩
  go_wp2_with fail
  refine (astep_yes 1 s 0 0 0 (s + 4) 0 0 _ (unhide hY) (by simp) (by omega)).mono ?_
  rintro e W1 ⟨rfl, K1⟩
  have B1 := (CapBk.next w' 2 1 s 0 0 rfl).kept K1 (by simp)
  have c1 := (CapBk.next w' 2 1 s 0 0 rfl).cells K1
  have f1 := B1.frozen
  replace K1 := hide (((unhide K0).alloc _).then K1)
  go_wp2_with fail
  refine (number_to _ _ _ _ (by omega) (by omega) (unhide hj)).mono ?_
  rintro e w' ⟨rfl, rfl⟩
  have hcase : j = 0 ∨ j = 1 ∨ j = 2 ∨ j = 3 ∨ j = 4 ∨ j = 5 := by omega
  rcases hcase with rfl | rfl | rfl | rfl | rfl | rfl
  · go_wp2_with fail
    refine (number_to _ _ _ _ (by omega) (by omega) (unhide hd)).mono ?_
    rintro e w' ⟨rfl, rfl⟩
    go_wp2_with fail
    refine (astep_no 2 1 s 0 0 0 d _ (fun H => by obtain ⟨_, _, ⟨_, _⟩, ⟨_, _⟩, _, _⟩ := H; omega)).mono ?_
    rintro e W2 ⟨rfl, K2⟩
    go_wp2
    go_ret
    exact ⟨rfl, ((unhide K1).then K2).below (Nat.le_refl _) (by simp)⟩
  · go_wp2_with fail
    refine (astep_no 3 1 0 0 0 0 (s + 4) _ (fun H => by have := H.1; omega)).mono ?_
    rintro e W2 ⟨rfl, K2⟩
    go_wp2
    go_ret
    exact ⟨rfl, ((((unhide K1).setCell (.inr (unhide K0).size) _).setCell (.inr (unhide K0).size) _).then K2).below (Nat.le_refl _) (by simp)⟩
  · go_wp2_with fail
    refine (astep_no 2 0 s 0 0 0 (s + 4) _ (fun H => by have := H.2.1.2.2.1; omega)).mono ?_
    rintro e W2 ⟨rfl, K2⟩
    go_wp2
    go_ret
    exact ⟨rfl, (((unhide K1).setCell (.inr (unhide K0).size) _).then K2).below (Nat.le_refl _) (by simp)⟩
  · go_wp2_with fail
    refine (astep_no 2 1 s 0 0 P (s + 4) _ (fun H => by obtain ⟨_, _, ⟨_, _⟩, ⟨_, h⟩, _, _⟩ := H; rw [unhide hP] at h; omega)).mono ?_
    rintro e W2 ⟨rfl, K2⟩
    go_wp2
    go_ret
    exact ⟨rfl, ((unhide K1).then K2).below (Nat.le_refl _) (by simp)⟩
  · go_wp2_with fail
    refine (astep_no 2 1 s 0 0 (-1 - m) (s + 4) _ (fun H => by obtain ⟨_, _, ⟨_, _⟩, ⟨_, _⟩, _, _⟩ := H; omega)).mono ?_
    rintro e W2 ⟨rfl, K2⟩
    go_wp2
    go_ret
    exact ⟨rfl, ((unhide K1).then K2).below (Nat.le_refl _) (by simp)⟩
  · go_wp2_with fail
    refine (astep_no 2 1 s 0 0 0 (25 + m) _ (fun H => by obtain ⟨_, _, ⟨_, _⟩, ⟨_, _⟩, _, _⟩ := H; omega)).mono ?_
    rintro e W2 ⟨rfl, K2⟩
    go_wp2
    go_ret
    exact ⟨rfl, ((unhide K1).then K2).below (Nat.le_refl _) (by simp)⟩
end Go.Proofs.Ytejkelfhihfklaa
