/- Package addr: Step, in plain numbers. -/
import Derived.Test.YtjjgjgncnifjmaaKAddr2
namespace Go.Proofs.Ytjjgjgncnifjmaa
open Go.RowKit
set_option linter.unusedVariables false
set_option maxHeartbeats 1000000 in
set_option maxRecDepth 4000 in
theorem astep_calls (k o s b r v d : Int) (w : World) :
    Calls Try.prog 22 #[capV k o s b r, .int .i64 v, .int .i64 d] w fun e w' => e = .returned (.tuple #[.int .i64 (stepS k o s b r v d), .int .i64 (stepL k o s b r v d), .bool (stepOk k o s b r v d)]) ∧ Kp [] w w' := by
  by_cases hk : k = 2
  · subst hk
    obtain ⟨c, hc⟩ : ∃ c, chk 2 o s b r = c := ⟨_, rfl⟩
    cases c
    · have hn : ¬ stepP 2 o s b r v d := fun H => by rw [(chk_iff ..).2 H.2.1] at hc; cases hc
      rw [(step_no hn).1, (step_no hn).2.1, (step_no hn).2.2]
      clear hn
      replace hc := hide hc
      go_enter Try.func22, Try.ntmps22
      go_wp2_with fail
      refine (check_calls 2 o s b r _).mono ?_
      rintro e W1 ⟨rfl, K1⟩
      rw [unhide hc]
      replace K1 := hide (((Kp.refl [] w).alloc _).then K1)
      go_wp2
      exact bodyPost_ret (v := .tuple #[.int .i64 0, .int .i64 0, .bool false]) (by simp [results, Try.results22, go_sem]) rfl ⟨rfl, unhide K1⟩
    have hb := ((chk_iff ..).1 hc).2.2.2
    unfold fitP at hb
    rw [if_neg (by decide), if_pos rfl] at hb
    obtain ⟨s0, s8, _, _⟩ := hb
    have HC := hc
    replace hc := hide hc
    obtain ⟨q, hq⟩ : ∃ q, fitB v d = q := ⟨_, rfl⟩
    cases q
    · have hn : ¬ stepP 2 o s b r v d := fun H => by obtain ⟨_, _, h1, h2, _, _⟩ := H; rw [(fitB_iff v d).2 ⟨h1, h2⟩] at hq; cases hq
      rw [(step_no hn).1, (step_no hn).2.1, (step_no hn).2.2]
      clear HC hn
      replace hq := hide hq
      go_enter Try.func22, Try.ntmps22
      go_wp2_with fail
      refine (check_calls 2 o s b r _).mono ?_
      rintro e W1 ⟨rfl, K1⟩
      rw [unhide hc]
      have c1 := (CapBk.next w 2 o s b r rfl).cells K1
      replace K1 := hide (((Kp.refl [] w).alloc _).then K1)
      go_wp2_with fail
      refine (afits_to v d _ _ (unhide hq)).mono ?_
      rintro e W2 ⟨rfl, rfl⟩
      go_wp2
      exact bodyPost_ret (v := .tuple #[.int .i64 0, .int .i64 0, .bool false]) (by simp [results, Try.results22, go_sem]) rfl ⟨rfl, unhide K1⟩
    have hf := (fitB_iff v d).1 hq
    obtain ⟨⟨d0, d1⟩, v0, v1⟩ := hf
    have hPb := pow24 d d0 d1
    replace hq := hide hq
    by_cases d4 : d - s - 4 < 0
    · have hn : ¬ stepP 2 o s b r v d := fun H => by obtain ⟨_, _, ⟨_, _⟩, ⟨_, _⟩, _, _⟩ := H; omega
      rw [(step_no hn).1, (step_no hn).2.1, (step_no hn).2.2]
      have x5 : decide (d - s - 4 < 0) = true := decide_eq_true d4
      clear HC hn v1 hPb
      go_enter Try.func22, Try.ntmps22
      go_wp2_with fail
      refine (check_calls 2 o s b r _).mono ?_
      rintro e W1 ⟨rfl, K1⟩
      rw [unhide hc]
      have c1 := (CapBk.next w 2 o s b r rfl).cells K1
      replace K1 := hide (((Kp.refl [] w).alloc _).then K1)
      go_wp2_with fail
      refine (afits_to v d _ _ (unhide hq)).mono ?_
      rintro e W2 ⟨rfl, rfl⟩
      go_wp2_with fail
      go_quiet (fail)
      go_wp2
      exact bodyPost_ret (v := .tuple #[.int .i64 0, .int .i64 0, .bool false]) (by simp [results, Try.results22, go_sem]) rfl ⟨rfl, (unhide K1).drewN _⟩
    have x5 : decide (d - s - 4 < 0) = false := decide_eq_false d4
    have eL : d - s - 4 + 4 = d - s := by omega
    have hQ : v / (2 : Int) ^ (d - s).toNat = v / ((2 ^ (d - s).toNat : Nat) : Int) := by rw [ipow]
    obtain ⟨q, hq2⟩ : ∃ q : Int, v / ((2 ^ (d - s).toNat : Nat) : Int) = q := ⟨_, rfl⟩
    rw [hq2] at hQ
    have hQ' : v / (2 : Int) ^ (d - s - 4 + 4).toNat = q := by rw [eL]; exact hQ
    by_cases hb : q = b
    · have hy : stepP 2 o s b r v d := ⟨rfl, (chk_iff ..).1 HC, by omega, by omega, by omega, by rw [hq2, hb]⟩
      rw [(step_yes hy).1, (step_yes hy).2.1, (step_yes hy).2.2]
      obtain ⟨t, ht⟩ : ∃ t : Int, v / ((2 ^ (d - s - 4).toNat : Nat) : Int) = t := ⟨_, rfl⟩
      have hT : v / (2 : Int) ^ (d - s - 4).toNat = t := by rw [ipow, ht]
      have ht0 : 0 ≤ t := by rw [← ht]; exact Int.ediv_nonneg (by omega) (Int.natCast_nonneg _)
      have ht1 : t ≤ v := by rw [← ht]; exact Int.ediv_le_self _ (by omega)
      have h15 : bits .and .i64 t 15 = t % 16 := low15 t ht0 (by omega)
      obtain ⟨u, hu⟩ : ∃ u, t % 16 = u := ⟨_, rfl⟩
      rw [ht, hu]
      rw [hu] at h15
      have y1 : (q != b) = false := by simp [hb]
      replace hq2 := hide hq2
      replace ht := hide ht
      replace hu := hide hu
      clear hy HC hb v1 hPb eL
      go_enter Try.func22, Try.ntmps22
      go_wp2_with fail
      refine (check_calls 2 o s b r _).mono ?_
      rintro e W1 ⟨rfl, K1⟩
      rw [unhide hc]
      have c1 := (CapBk.next w 2 o s b r rfl).cells K1
      replace K1 := hide (((Kp.refl [] w).alloc _).then K1)
      go_wp2_with fail
      refine (afits_to v d _ _ (unhide hq)).mono ?_
      rintro e W2 ⟨rfl, rfl⟩
      go_wp2_with fail
      go_quiet (fail)
      go_wp2
      exact bodyPost_ret (v := .tuple #[.int .i64 u, .int .i64 (d - s - 4), .bool true]) (by simp [results, Try.results22, go_sem]) rfl ⟨rfl, (unhide K1).drewN _⟩
    · have hn : ¬ stepP 2 o s b r v d := fun H => by obtain ⟨_, _, ⟨_, _⟩, ⟨_, _⟩, _, _⟩ := H; exact hb (hq2.symm.trans (by assumption))
      rw [(step_no hn).1, (step_no hn).2.1, (step_no hn).2.2]
      have y1 : (q != b) = true := by simp [hb]
      replace hq2 := hide hq2
      clear HC hn v1 hPb eL
      go_enter Try.func22, Try.ntmps22
      go_wp2_with fail
      refine (check_calls 2 o s b r _).mono ?_
      rintro e W1 ⟨rfl, K1⟩
      rw [unhide hc]
      have c1 := (CapBk.next w 2 o s b r rfl).cells K1
      replace K1 := hide (((Kp.refl [] w).alloc _).then K1)
      go_wp2_with fail
      refine (afits_to v d _ _ (unhide hq)).mono ?_
      rintro e W2 ⟨rfl, rfl⟩
      go_wp2_with fail
      go_quiet (fail)
      go_wp2
      exact bodyPost_ret (v := .tuple #[.int .i64 0, .int .i64 0, .bool false]) (by simp [results, Try.results22, go_sem]) rfl ⟨rfl, (unhide K1).drewN _⟩
  · have hn : ¬ stepP k o s b r v d := fun H => hk H.1
    rw [(step_no hn).1, (step_no hn).2.1, (step_no hn).2.2]
    have hk' : (k != 2) = true := by simp [hk]
    clear hn hk
    go_enter Try.func22, Try.ntmps22
    go_wp2
    exact bodyPost_ret (v := .tuple #[.int .i64 0, .int .i64 0, .bool false]) (by simp [results, Try.results22, go_sem]) rfl ⟨rfl, (Kp.refl _ _).alloc _⟩
/-- By what comes out. -/
theorem astep_yes (o s b r v d S L : Int) (w : World) (h : stepP 2 o s b r v d) (hS : v / ((2 ^ (d - s - 4).toNat : Nat) : Int) % 16 = S) (hL : d - s - 4 = L) :
    Calls Try.prog 22 #[capV 2 o s b r, .int .i64 v, .int .i64 d] w fun e w' => e = .returned (.tuple #[.int .i64 S, .int .i64 L, .bool true]) ∧ Kp [] w w' := by
  have := astep_calls 2 o s b r v d w
  rw [(step_yes h).1, (step_yes h).2.1, (step_yes h).2.2, hS, hL] at this
  exact this
theorem astep_no (k o s b r v d : Int) (w : World) (h : ¬ stepP k o s b r v d) :
    Calls Try.prog 22 #[capV k o s b r, .int .i64 v, .int .i64 d] w fun e w' => e = .returned (.tuple #[.int .i64 0, .int .i64 0, .bool false]) ∧ Kp [] w w' := by
  have := astep_calls k o s b r v d w
  rw [(step_no h).1, (step_no h).2.1, (step_no h).2.2] at this
  exact this
end Go.Proofs.Ytjjgjgncnifjmaa
