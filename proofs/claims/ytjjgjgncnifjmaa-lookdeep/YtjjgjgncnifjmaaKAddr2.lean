/- Package addr: what each of its functions does, in plain numbers. -/
import Derived.Test.YtjjgjgncnifjmaaKAddr
namespace Go.Proofs.Ytjjgjgncnifjmaa
open Go.RowKit
set_option linter.unusedVariables false
/-- Is the value one of so many bits? -/
def fitB (v d : Int) : Bool := decide ((0 ≤ d ∧ d ≤ 24) ∧ (0 ≤ v ∧ v < ((2 ^ d.toNat : Nat) : Int)))
theorem fitB_iff (v d : Int) : fitB v d = true ↔ (0 ≤ d ∧ d ≤ 24) ∧ (0 ≤ v ∧ v < ((2 ^ d.toNat : Nat) : Int)) := by unfold fitB; exact decide_eq_true_iff
theorem fitB_no {v d : Int} (h : ¬ ((0 ≤ d ∧ d ≤ 24) ∧ (0 ≤ v ∧ v < ((2 ^ d.toNat : Nat) : Int)))) : fitB v d = false := Bool.eq_false_iff.2 fun H => h ((fitB_iff v d).1 H)
set_option maxHeartbeats 400000 in
theorem afits_calls (v d : Int) (w : World) :
    Calls Try.prog 39 #[.int .i64 v, .int .i64 d] w fun e w' => e = .returned (.bool (fitB v d)) ∧ w' = w := by
  by_cases d0 : 0 ≤ d
  · by_cases d1 : d ≤ 24
    · by_cases v0 : 0 ≤ v
      · have hW := wrap_pow d d0 d1
        obtain ⟨P, hP⟩ : ∃ P : Int, ((2 ^ d.toNat : Nat) : Int) = P := ⟨_, rfl⟩
        obtain ⟨q, hq⟩ : ∃ q, fitB v d = q := ⟨_, rfl⟩
        have HQ : q = decide (v < P) := by rw [← hq, ← hP]; unfold fitB; refine Bool.eq_iff_iff.2 ?_; simp only [decide_eq_true_iff]; omega
        rw [hP] at hW
        rw [hq]
        have x1 : decide (0 ≤ d) = true := decide_eq_true d0
        have x2 : decide (d ≤ 24) = true := decide_eq_true d1
        have x3 : decide (0 ≤ v) = true := decide_eq_true v0
        replace hP := hide hP
        replace hq := hide hq
        cases q
        · have x4 : decide (v < P) = false := HQ.symm
          clear HQ
          go_enter Try.func39, Try.ntmps39
          go_wp2
          go_ret
          exact ⟨rfl, rfl⟩
        · have x4 : decide (v < P) = true := HQ.symm
          clear HQ
          go_enter Try.func39, Try.ntmps39
          go_wp2
          go_ret
          exact ⟨rfl, rfl⟩
      · rw [fitB_no (by omega)]
        have x1 : decide (0 ≤ d) = true := decide_eq_true d0
        have x2 : decide (d ≤ 24) = true := decide_eq_true d1
        have x3 : decide (0 ≤ v) = false := decide_eq_false v0
        go_enter Try.func39, Try.ntmps39
        go_wp2
        go_ret
        exact ⟨rfl, rfl⟩
    · rw [fitB_no (by omega)]
      have x1 : decide (0 ≤ d) = true := decide_eq_true d0
      have x2 : decide (d ≤ 24) = false := decide_eq_false d1
      go_enter Try.func39, Try.ntmps39
      go_wp2
      go_ret
      exact ⟨rfl, rfl⟩
  · rw [fitB_no (by omega)]
    have x1 : decide (0 ≤ d) = false := decide_eq_false d0
    go_enter Try.func39, Try.ntmps39
    go_wp2
    go_ret
    exact ⟨rfl, rfl⟩
theorem afits_to (v d : Int) (q : Bool) (w : World) (h : fitB v d = q) :
    Calls Try.prog 39 #[.int .i64 v, .int .i64 d] w fun e w' => e = .returned (.bool q) ∧ w' = w := by subst h; exact afits_calls v d w
theorem setN_low8 (n v : Nat) (hn : n < 4294967296) : setN n 0 8 v = 2 ^ 8 * (n / 256) + v % 256 := by
  refine Nat.eq_of_testBit_eq fun i => ?_
  rw [setN_bit n 0 8 v i hn (by omega), Nat.testBit_two_pow_mul_add _ (show v % 256 < 2 ^ 8 by omega)]
  by_cases h : i < 8
  · rw [if_pos (by omega), if_pos h, show v % 256 = v % 2 ^ 8 from rfl, Nat.testBit_mod_two_pow]
    simp [h]
  · rw [if_neg (by omega), if_neg h, show n / 256 = n / 2 ^ 8 from rfl, Nat.testBit_div_two_pow]
    congr 1; omega
theorem join_set (v d : Int) : (if widthOf 0 8 = 0 then v % 4294967296 * 256 % 4294967296 else ((setN (v % 4294967296 * 256 % 4294967296).toNat (0 : Int).toNat (widthOf 0 8).toNat (d % 4294967296).toNat : Nat) : Int)) = joinN v d := by
  have e : widthOf 0 8 = 8 := by decide
  rw [if_neg (by rw [e]; decide), e]
  show ((setN (v % 4294967296 * 256 % 4294967296).toNat 0 8 (d % 4294967296).toNat : Nat) : Int) = _
  rw [setN_low8 _ _ (by omega)]
  unfold joinN
  omega
set_option maxHeartbeats 400000 in
theorem join_calls (v d : Int) (w : World) :
    Calls Try.prog 17 #[.int .i64 v, .int .i64 d] w fun e w' => e = .returned (.int .u32 (joinN v d)) ∧ ∃ k, w' = w.drewN k := by
  have HJ := hide (join_set v d)
  obtain ⟨x, hx⟩ : ∃ x, v % 4294967296 * 256 % 4294967296 = x := ⟨_, rfl⟩
  have HC := hide (set_calls x 0 8 (d % 4294967296) w (by omega) (by omega) (by omega) (by omega))
  rw [hx] at HJ
  go_enter Try.func17, Try.ntmps17
  go_wp2_with fail
  refine (unhide HC).mono ?_
  rintro e W1 ⟨rfl, k, rfl⟩
  rw [unhide HJ]
  go_wp2
  go_ret
  exact ⟨rfl, _, rfl⟩
theorem fld_low8 (a : Int) (h : 0 ≤ a ∧ a < 4294967296) : ((fldN a.toNat (0 : Int).toNat (widthOf 0 8).toNat : Nat) : Int) = a % 256 := by
  have e : widthOf 0 8 = 8 := by decide
  rw [e]
  show ((fldN a.toNat 0 8 : Nat) : Int) = _
  unfold fldN
  simp
  omega
set_option maxHeartbeats 400000 in
set_option maxRecDepth 4000 in
theorem split_calls (a : Int) (w : World) (h : 0 ≤ a ∧ a < 4294967296) :
    Calls Try.prog 21 #[.int .u32 a] w fun e w' => e = .returned (.tuple #[.int .i64 (splitV a), .int .i64 (splitD a), .bool (splitOk a)]) ∧ ∃ k, w' = w.drewN k := by
  have HF := fld_low8 a h
  obtain ⟨g, hg⟩ : ∃ g, a % 256 = g := ⟨_, rfl⟩
  obtain ⟨d, hd⟩ : ∃ d, a / 256 = d := ⟨_, rfl⟩
  have hd0 : 0 ≤ d ∧ d < 16777216 := by omega
  have hg0 : 0 ≤ g ∧ g < 256 := by omega
  rw [hg] at HF
  replace HF := hide HF
  have HC := hide (fun w => field_calls a 0 8 w h.1 h.2)
  obtain ⟨v, hv⟩ : ∃ v, splitOk a = v := ⟨_, rfl⟩
  have HV := hide (show splitV a = (if v = true then d else 0) ∧ splitD a = (if v = true then g else 0) from by unfold splitV splitD; rw [hv, hd, hg]; exact ⟨rfl, rfl⟩)
  have HO : v = decide (4 ≤ g ∧ g ≤ 24 ∧ d < ((2 ^ g.toNat : Nat) : Int)) := by rw [← hv]; unfold splitOk; rw [hd, hg]
  rw [hv, (unhide HV).1, (unhide HV).2]
  replace hg := hide hg
  clear HV hv
  obtain ⟨q, hq⟩ : ∃ q, fitB d g = q := ⟨_, rfl⟩
  by_cases h4 : 4 ≤ g
  · have g4 : decide (g < 4) = false := decide_eq_false (by omega)
    obtain rfl : v = q := by rw [HO, ← hq]; unfold fitB; refine Bool.eq_iff_iff.2 ?_; simp only [decide_eq_true_iff]; omega
    clear HO
    replace hq := hide hq
    cases v
    · go_enter Try.func21, Try.ntmps21
      go_wp2_with (first | (go_at_call 38; refine (unhide HC _).mono ?_; rintro e W1 ⟨rfl, k, rfl⟩; rw [unhide HF]) | (go_at_call 39; refine (afits_to d g _ _ (unhide hq)).mono ?_; rintro e W2 ⟨rfl, rfl⟩))
      exact bodyPost_ret (v := .tuple #[.int .i64 0, .int .i64 0, .bool false]) (by simp [results, Try.results21, go_sem]) rfl ⟨rfl, _, rfl⟩
    · go_enter Try.func21, Try.ntmps21
      go_wp2_with (first | (go_at_call 38; refine (unhide HC _).mono ?_; rintro e W1 ⟨rfl, k, rfl⟩; rw [unhide HF]) | (go_at_call 39; refine (afits_to d g _ _ (unhide hq)).mono ?_; rintro e W2 ⟨rfl, rfl⟩))
      exact bodyPost_ret (v := .tuple #[.int .i64 d, .int .i64 g, .bool true]) (by simp [results, Try.results21, go_sem]) rfl ⟨rfl, _, rfl⟩
  · obtain rfl : v = false := by rw [HO]; exact decide_eq_false (by omega)
    have g4 : decide (g < 4) = true := decide_eq_true (by omega)
    clear HO
    go_enter Try.func21, Try.ntmps21
    go_wp2_with (go_at_call 38; refine (unhide HC _).mono ?_; rintro e W1 ⟨rfl, k, rfl⟩; rw [unhide HF])
    exact bodyPost_ret (v := .tuple #[.int .i64 0, .int .i64 0, .bool false]) (by simp [results, Try.results21, go_sem]) rfl ⟨rfl, _, rfl⟩
end Go.Proofs.Ytjjgjgncnifjmaa
