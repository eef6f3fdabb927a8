/- The document's own mask, Field and Set. -/
import Derived.Test.YticfpbhafjjmdaaOwnFields
namespace Go.Proofs.Yticfpbhafjjmdaa
open Go.RowKit
set_option linter.unusedVariables false
/-- The mask behind so many rounds. -/
def maskTo (s b : Int) : Nat → Nat
  | 0 => 0
  | k + 1 => if 0 ≤ s ∧ s ≤ k ∧ k - s < b then maskTo s b k ||| 2 ^ k else maskTo s b k
theorem maskTo_bit (s b : Int) (k i : Nat) : (maskTo s b k).testBit i = decide (i < k ∧ 0 ≤ s ∧ s ≤ i ∧ i - s < b) := by
  induction k with
  | zero => simp [maskTo]
  | succ k ih =>
    rw [maskTo]
    split
    · rename_i h
      rw [Nat.testBit_or, ih, Nat.testBit_two_pow]
      by_cases e : k = i
      · subst e; simp [h]
      · simp only [e, decide_false, Bool.or_false]
        exact decide_eq_decide.2 (by omega)
    · rename_i h
      rw [ih]
      exact decide_eq_decide.2 (by omega)
theorem maskTo_lt (s b : Int) (k : Nat) (h : k ≤ 32) : maskTo s b k < 4294967296 := by
  have : maskTo s b k < 2 ^ 32 := by
    refine Nat.lt_pow_two_of_testBit _ fun i hi => ?_
    rw [maskTo_bit]; simp; omega
  exact this
theorem maskTo_all (s b : Int) : maskTo s b 32 = (2 ^ (widthOf s b).toNat - 1) * 2 ^ s.toNat := by
  refine Nat.eq_of_testBit_eq fun i => ?_
  rw [maskTo_bit, mask_bit, ← Bool.decide_and]
  refine decide_eq_decide.2 ?_
  unfold widthOf; split <;> (try split) <;> omega
theorem mask_or (s b : Int) (k : Nat) (h : k < 32) : bits .or .u32 ((maskTo s b k : Nat) : Int) (2 ^ k % 4294967296) = ((maskTo s b k ||| 2 ^ k : Nat) : Int) := by
  have h1 := maskTo_lt s b k (by omega)
  have h2 : 2 ^ k < 4294967296 := Nat.pow_lt_pow_right (a := 2) (m := k) (n := 32) (by decide) h
  have e : ((2 : Int) ^ k % 4294967296) = ((2 ^ k : Nat) : Int) := by
    rw [ipow]; exact Int.emod_eq_of_lt (Int.natCast_nonneg _) (Int.ofNat_lt.2 h2)
  rw [e, u32_or_nat _ _ h1 h2]
set_option maxHeartbeats 1000000 in
theorem mask_calls (s b : Int) (w : World) (h0 : -9223372036854775808 ≤ s) (h1 : s ≤ 9223372036854775807) :
    Calls Try.prog 32 #[.int .i64 s, .int .i64 b] w fun e w' => e = .returned (.int .u32 ((maskTo s b 32 : Nat) : Int)) ∧ w' = w := by
  go_enter Try.func32, Try.ntmps32
  go_wp2
  go_loop [5, 6] (fun m i => ∃ k : Nat, k ≤ 32 ∧ i = .int .i64 k ∧ m = .int .u32 ((maskTo s b k : Nat) : Int)) (fun _ i => 32 - (intOf i).toNat)
  case atStart => exact ⟨0, Nat.zero_le _, rfl, rfl⟩
  case round =>
    obtain ⟨k, hk, rfl, rfl⟩ := hrel
    by_cases hlt : k < 32
    · by_cases hc : 0 ≤ s ∧ s ≤ k ∧ k - s < b
      · obtain ⟨g0, g1, g2⟩ := hc
        have HO := hide (mask_or s b k hlt)
        go_wp2
        go_round
        case rel =>
          refine ⟨k + 1, by omega, by go_num, ?_⟩
          rw [maskTo, if_pos ⟨g0, g1, g2⟩]
          first | rw [unhide HO] | trace_state
        case measure => simp [intOf]; omega
      · have HN := hide hc
        by_cases g0 : 0 ≤ s
        · by_cases g1 : s ≤ k
          · have g2 : decide ((k : Int) - s < b) = false := by simp; omega
            clear hc
            go_wp2
            go_round
            case rel => exact ⟨k + 1, by omega, by go_num, by rw [maskTo, if_neg (unhide HN)]⟩
            case measure => simp [intOf]; omega
          · have g2 : decide (s ≤ (k : Int)) = false := by simp; omega
            clear hc
            go_wp2
            go_round
            case rel => exact ⟨k + 1, by omega, by go_num, by rw [maskTo, if_neg (unhide HN)]⟩
            case measure => simp [intOf]; omega
        · have g2 : decide (0 ≤ s) = false := by simp; omega
          clear hc
          go_wp2
          go_round
          case rel => exact ⟨k + 1, by omega, by go_num, by rw [maskTo, if_neg (unhide HN)]⟩
          case measure => simp [intOf]; omega
    · go_wp2
      go_ret
      have e : k = 32 := by omega
      subst e
      exact ⟨rfl, rfl⟩
theorem rfield_num (n s w : Nat) (hn : n < 4294967296) (h : s + w ≤ 32) :
    bits .and .u32 (n : Int) (((2 ^ w - 1) * 2 ^ s : Nat) : Int) / 2 ^ s = ((fldN n s w : Nat) : Int) := by
  have hm := mask_lt s w h
  rw [u32_and_nat _ _ hn (by omega), ishr]
  congr 1
  refine Nat.eq_of_testBit_eq fun i => ?_
  rw [Nat.testBit_div_two_pow, Nat.testBit_and, mask_bit, fldN_bit, Nat.add_comm i s]
  by_cases h2 : i < w
  · have e1 : s ≤ s + i := by omega
    have e2 : s + i < s + w := by omega
    simp [h2]
  · have e2 : ¬ s + i < s + w := by omega
    simp [h2]
theorem rset_num (n v s w : Nat) (hn : n < 4294967296) (hv : v < 4294967296) (h : s + w ≤ 32) :
    bits .or .u32 (bits .andNot .u32 (n : Int) (((2 ^ w - 1) * 2 ^ s : Nat) : Int)) (bits .and .u32 ((v : Int) * 2 ^ s % 4294967296) (((2 ^ w - 1) * 2 ^ s : Nat) : Int)) = ((setN n s w v : Nat) : Int) := by
  have hm := mask_lt s w h
  have e : ((v : Int) * 2 ^ s % 4294967296) = ((v * 2 ^ s % 4294967296 : Nat) : Int) := by rw [ishl]; omega
  have hx : n &&& (4294967295 - (2 ^ w - 1) * 2 ^ s) < 2 ^ 32 := Nat.and_lt_two_pow _ (by omega)
  have hy : v * 2 ^ s % 4294967296 &&& (2 ^ w - 1) * 2 ^ s < 2 ^ 32 := Nat.and_lt_two_pow _ (by omega)
  rw [e, u32_andNot_nat _ _ hn (by omega), u32_and_nat _ _ (by omega) (by omega), u32_or_nat _ _ (by omega) (by omega)]
  congr 1
  refine Nat.eq_of_testBit_eq fun i => ?_
  rw [Nat.testBit_or, Nat.testBit_and, Nat.testBit_and, nmask_bit _ _ hm, mask_bit, mod32_bit, Nat.testBit_mul_two_pow, setN_bit n s w v i hn h]
  by_cases h1 : s ≤ i <;> by_cases h2 : i < s + w
  · have h3 : i < 32 := by omega
    simp [h1, h2, h3]
  · by_cases h4 : i < 32
    · simp [h1, h2, h4]
    · simp [h1, h2, h4, bit_ge n i hn (by omega)]
  · by_cases h4 : i < 32
    · simp [h1, h4]
    · omega
  · by_cases h4 : i < 32
    · simp [h1, h4]
    · simp [h1, h4, bit_ge n i hn (by omega)]
set_option maxHeartbeats 1000000 in
theorem rfield_calls (n : Nat) (s b : Int) (w : World) (hn : n < 4294967296) (h0 : -9223372036854775808 ≤ s) (h1 : s ≤ 9223372036854775807) :
    Calls Try.prog 19 #[.int .u32 (n : Int), .int .i64 s, .int .i64 b] w fun e w' => e = .returned (.int .u32 ((fldN n s.toNat (widthOf s b).toNat : Nat) : Int)) ∧ w' = w := by
  have hb := widthOf_bd s b
  by_cases g0 : s < 0
  · have HZ := hide (show (0 : Int) = ((fldN n s.toNat (widthOf s b).toNat : Nat) : Int) from by
      have : widthOf s b = 0 := by unfold widthOf; rw [if_pos (by omega)]
      rw [this]; exact (congrArg Int.ofNat (fldN_none n s.toNat)).symm)
    clear hb
    go_enter Try.func19, Try.ntmps19
    go_wp2
    go_ret
    exact ⟨ret_int (unhide HZ), rfl⟩
  · by_cases g1 : 31 < s
    · have HZ := hide (show (0 : Int) = ((fldN n s.toNat (widthOf s b).toNat : Nat) : Int) from by
        have : widthOf s b = 0 := by unfold widthOf; rw [if_pos (by omega)]
        rw [this]; exact (congrArg Int.ofNat (fldN_none n s.toNat)).symm)
      have g2 : decide (s < 0) = false := by simp; omega
      clear hb g0
      go_enter Try.func19, Try.ntmps19
      go_wp2
      go_ret
      exact ⟨ret_int (unhide HZ), rfl⟩
    · have HZ := hide (show bits .and .u32 (n : Int) ((maskTo s b 32 : Nat) : Int) / 2 ^ s.toNat = ((fldN n s.toNat (widthOf s b).toNat : Nat) : Int) from by
        rw [maskTo_all]
        refine rfield_num n s.toNat (widthOf s b).toNat hn ?_
        unfold widthOf; split <;> (try split) <;> omega)
      have g2 : 0 ≤ s := by omega
      have g3 : s ≤ 31 := by omega
      clear hb g0 g1
      go_enter Try.func19, Try.ntmps19
      go_wp2_with (go_at_call 32; refine (mask_calls _ _ _ (by omega) (by omega)).mono ?_; rintro e w' ⟨rfl, rfl⟩)
      go_ret
      first | exact ⟨ret_int (unhide HZ), rfl⟩ | trace_state
set_option maxHeartbeats 1000000 in
theorem rset_calls (n v : Nat) (s b : Int) (w : World) (hn : n < 4294967296) (hv : v < 4294967296) (h0 : -9223372036854775808 ≤ s) (h1 : s ≤ 9223372036854775807) :
    Calls Try.prog 21 #[.int .u32 (n : Int), .int .i64 s, .int .i64 b, .int .u32 (v : Int)] w fun e w' => e = .returned (.int .u32 (if widthOf s b = 0 then (n : Int) else ((setN n s.toNat (widthOf s b).toNat v : Nat) : Int))) ∧ w' = w := by
  have hb := widthOf_bd s b
  have hall := maskTo_all s b
  by_cases hz : widthOf s b = 0
  · rw [if_pos hz]
    rw [hz] at hall
    have hall' : maskTo s b 32 = 0 := by rw [hall]; simp
    have hq : (((maskTo s b 32 : Nat) : Int) == 0) = true := by rw [hall']; rfl
    clear hall hall' hz hb
    go_enter Try.func21, Try.ntmps21
    go_wp2_with (go_at_call 32; refine (mask_calls _ _ _ (by omega) (by omega)).mono ?_; rintro e w' ⟨rfl, rfl⟩)
    go_ret
    exact ⟨rfl, rfl⟩
  · rw [if_neg hz]
    have hs := hb.2.2 (by omega)
    have HZ := hide (show bits .or .u32 (bits .andNot .u32 (n : Int) ((maskTo s b 32 : Nat) : Int)) (bits .and .u32 ((v : Int) * 2 ^ s.toNat % 4294967296) ((maskTo s b 32 : Nat) : Int)) = ((setN n s.toNat (widthOf s b).toNat v : Nat) : Int) from by
      rw [hall]
      exact rset_num n v s.toNat (widthOf s b).toNat hn hv (by omega))
    have hq : (((maskTo s b 32 : Nat) : Int) == 0) = false := by
      rw [hall]
      have h2 : 2 ≤ 2 ^ (widthOf s b).toNat := by
        have := Nat.pow_le_pow_right (n := 2) (i := 1) (j := (widthOf s b).toNat) (by decide) (by omega)
        simpa using this
      have h3 := pow_pos2 s.toNat
      have h4 : 0 < (2 ^ (widthOf s b).toNat - 1) * 2 ^ s.toNat := Nat.mul_pos (by omega) h3
      have h5 : (((2 ^ (widthOf s b).toNat - 1) * 2 ^ s.toNat : Nat) : Int) ≠ 0 := by omega
      exact beq_eq_false_iff_ne.2 h5
    have g2 : 0 ≤ s := by omega
    have g3 : s ≤ 31 := by omega
    clear hall hz hb hs
    go_enter Try.func21, Try.ntmps21
    go_wp2_with (go_at_call 32; refine (mask_calls _ _ _ (by omega) (by omega)).mono ?_; rintro e w' ⟨rfl, rfl⟩)
    go_ret
    first | exact ⟨ret_int (unhide HZ), rfl⟩ | trace_state
end Go.Proofs.Yticfpbhafjjmdaa
