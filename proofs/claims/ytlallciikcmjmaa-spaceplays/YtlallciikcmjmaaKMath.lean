/- Fields of words as numbers: the plain mathematics of package word. -/
import Derived.Test.YtlallciikcmjmaaKBase
import Derived.Laws.BitsAllLaws
namespace Go.Proofs.Ytlallciikcmjmaa
open Go.RowKit
set_option linter.unusedVariables false

/-- How many bits a field really has. -/
def widthOf (s bits : Int) : Int := if s < 0 ∨ 32 ≤ s ∨ bits < 1 then 0 else if 32 - s < bits then 32 - s else bits
theorem widthOf_bd (s bits : Int) : 0 ≤ widthOf s bits ∧ widthOf s bits ≤ 32 ∧ (0 < widthOf s bits → 0 ≤ s ∧ s < 32 ∧ s + widthOf s bits ≤ 32 ∧ 1 ≤ bits) := by
  unfold widthOf; split <;> (try split) <;> omega

/-- A field of a word. -/
def fldN (n a b : Nat) : Nat := n / 2 ^ a % 2 ^ b
/-- A word with a field set. -/
def setN (n a b v : Nat) : Nat := (n &&& (4294967295 - (2 ^ b - 1) * 2 ^ a)) ||| ((v &&& (2 ^ b - 1)) * 2 ^ a)

theorem fldN_bit (n a b i : Nat) : (fldN n a b).testBit i = (decide (i < b) && n.testBit (a + i)) := by
  unfold fldN
  rw [Nat.testBit_mod_two_pow, Nat.testBit_div_two_pow, Nat.add_comm i a]
theorem pow_pos2 (k : Nat) : 0 < 2 ^ k := Nat.two_pow_pos k
theorem pow_le32 (k : Nat) (h : k ≤ 32) : 2 ^ k ≤ 4294967296 := Nat.pow_le_pow_right (n := 2) (by decide) h
theorem fldN_lt (n a b : Nat) (h : b ≤ 32) : fldN n a b < 4294967296 :=
  Nat.lt_of_lt_of_le (Nat.mod_lt _ (pow_pos2 b)) (pow_le32 b h)
theorem mask_lt (a b : Nat) (h : a + b ≤ 32) : (2 ^ b - 1) * 2 ^ a ≤ 4294967295 := by
  have h1 : 2 ^ b * 2 ^ a ≤ 4294967296 := by rw [← Nat.pow_add]; exact pow_le32 _ (by omega)
  have h2 := pow_pos2 a
  rw [Nat.sub_mul, Nat.one_mul]
  omega
theorem mask_bit (a b i : Nat) : ((2 ^ b - 1) * 2 ^ a).testBit i = (decide (a ≤ i) && decide (i < a + b)) := by
  rw [Nat.testBit_mul_two_pow, Nat.testBit_two_pow_sub_one]
  by_cases h1 : a ≤ i <;> by_cases h2 : i < a + b <;> simp [h1, h2] <;> omega
theorem nmask_bit (m i : Nat) (h : m ≤ 4294967295) : (4294967295 - m).testBit i = (decide (i < 32) && !m.testBit i) := by
  have := Nat.testBit_two_pow_sub_succ (x := m) (n := 32) (by omega) i
  have e : 2 ^ 32 - (m + 1) = 4294967295 - m := by omega
  rw [e] at this
  exact this
theorem bit_ge (n i : Nat) (h : n < 4294967296) (hi : 32 ≤ i) : n.testBit i = false :=
  Nat.testBit_lt_two_pow (Nat.lt_of_lt_of_le h (Nat.pow_le_pow_right (n := 2) (i := 32) (by decide) hi))
theorem setN_bit (n a b v i : Nat) (hn : n < 4294967296) (h : a + b ≤ 32) :
    (setN n a b v).testBit i = if a ≤ i ∧ i < a + b then v.testBit (i - a) else n.testBit i := by
  unfold setN
  rw [Nat.testBit_or, Nat.testBit_and, nmask_bit _ _ (mask_lt a b h), mask_bit, Nat.testBit_mul_two_pow, Nat.testBit_and, Nat.testBit_two_pow_sub_one]
  by_cases h1 : a ≤ i <;> by_cases h2 : i < a + b
  · have h3 : i - a < b := by omega
    simp [h1, h2, h3]
  · have h3 : ¬ i - a < b := by omega
    by_cases h4 : i < 32
    · simp [h1, h2, h3, h4]
    · simp [h1, h2, h3, h4, bit_ge n i hn (by omega)]
  · simp [h1]; omega
  · have h4 : i < 32 ∨ 32 ≤ i := by omega
    rcases h4 with h4 | h4
    · simp [h1, h4]
    · simp [h1, bit_ge n i hn h4]
theorem setN_lt (n a b v : Nat) (hn : n < 4294967296) (h : a + b ≤ 32) : setN n a b v < 4294967296 := by
  have : setN n a b v < 2 ^ 32 := by
    refine Nat.lt_pow_two_of_testBit _ fun i hi => ?_
    rw [setN_bit n a b v i hn h, if_neg (by omega)]
    exact bit_ge n i hn hi
  exact this
theorem setN_none (n a v : Nat) (hn : n < 4294967296) (h : a ≤ 32) : setN n a 0 v = n := by
  refine Nat.eq_of_testBit_eq fun i => ?_
  rw [setN_bit n a 0 v i hn (by omega), if_neg (by omega)]
theorem fldN_none (n a : Nat) : fldN n a 0 = 0 := by unfold fldN; simp [Nat.mod_one]

theorem ipow (b : Nat) : (2 : Int) ^ b = ((2 ^ b : Nat) : Int) := by push_cast; rfl
theorem ilow (b : Nat) (hb : b ≤ 32) : ((2 ^ b - 1 : Int) % 4294967296) = ((2 ^ b - 1 : Nat) : Int) := by
  have hp := pow_pos2 b
  have hq := pow_le32 b hb
  rw [ipow]
  omega
theorem ilow2 (b : Nat) (hb : b ≤ 32) : ((2 ^ b % 4294967296 - 1 : Int) % 4294967296) = ((2 ^ b - 1 : Nat) : Int) := by
  have hp := pow_pos2 b
  have hq := pow_le32 b hb
  rw [ipow]
  omega
theorem ishr (m s : Nat) : ((m : Int) / 2 ^ s) = ((m / 2 ^ s : Nat) : Int) := by push_cast; rfl
theorem ishl (m s : Nat) : ((m : Int) * 2 ^ s) = ((m * 2 ^ s : Nat) : Int) := by push_cast; rfl

/-- The word's own way to a field, as the walk writes it. -/
theorem field_walk (n s : Int) (b : Nat) (h0 : 0 ≤ n) (h1 : n < 4294967296) (hb : b ≤ 32) :
    bits .and .u32 (n / 2 ^ s.toNat) ((2 ^ b - 1) % 4294967296) = ((fldN n.toNat s.toNat b : Nat) : Int) := by
  obtain ⟨m, rfl⟩ := Int.eq_ofNat_of_zero_le h0
  have hp := pow_pos2 b
  have hq := pow_le32 b hb
  have h3 : m / 2 ^ s.toNat ≤ m := Nat.div_le_self _ _
  rw [ishr, ilow b hb, u32_and_nat _ _ (by omega) (by omega), Nat.and_two_pow_sub_one_eq_mod]
  simp [fldN]
theorem set_walk (n v : Int) (a b : Nat) (h0 : 0 ≤ n) (h1 : n < 4294967296) (g0 : 0 ≤ v) (g1 : v < 4294967296) (hb : a + b ≤ 32) :
    bits .or .u32 (bits .andNot .u32 n ((2 ^ b - 1) % 4294967296 * 2 ^ a % 4294967296)) (bits .and .u32 v ((2 ^ b - 1) % 4294967296) * 2 ^ a % 4294967296)
      = ((setN n.toNat a b v.toNat : Nat) : Int) := by
  obtain ⟨m, rfl⟩ := Int.eq_ofNat_of_zero_le h0
  obtain ⟨u, rfl⟩ := Int.eq_ofNat_of_zero_le g0
  have hp := pow_pos2 b
  have hq := pow_le32 b (by omega)
  have hm := mask_lt a b hb
  have hl : ((u &&& (2 ^ b - 1)) * 2 ^ a) ≤ (2 ^ b - 1) * 2 ^ a := Nat.mul_le_mul_right _ Nat.and_le_right
  have e1 : ((((2 ^ b - 1) * 2 ^ a : Nat) : Int) % 4294967296) = (((2 ^ b - 1) * 2 ^ a : Nat) : Int) := by omega
  have e2 : ((((u &&& (2 ^ b - 1)) * 2 ^ a : Nat) : Int) % 4294967296) = (((u &&& (2 ^ b - 1)) * 2 ^ a : Nat) : Int) := by omega
  rw [ilow b (by omega), ishl, e1, u32_and_nat _ _ (by omega) (by omega), ishl, e2, u32_andNot_nat _ _ (by omega) (by omega)]
  have hx : m &&& (4294967295 - (2 ^ b - 1) * 2 ^ a) < 2 ^ 32 := Nat.and_lt_two_pow _ (by omega)
  rw [u32_or_nat _ _ (by omega) (by omega)]
  simp [setN]

/-- Bits side by side. -/
theorem or_walk (x y : Nat) (s : Nat) (hx : x < 4294967296) :
    bits .or .u32 (x : Int) ((y : Int) * 2 ^ s % 4294967296) = ((x ||| (y * 2 ^ s % 4294967296) : Nat) : Int) := by
  have e : ((y : Int) * 2 ^ s % 4294967296) = ((y * 2 ^ s % 4294967296 : Nat) : Int) := by rw [ishl]; omega
  rw [e, u32_or_nat _ _ hx (by omega)]
theorem mod32_bit (x i : Nat) : (x % 4294967296).testBit i = (decide (i < 32) && x.testBit i) := Nat.testBit_mod_two_pow x 32 i
theorem or_lt (x y : Nat) (hx : x < 4294967296) (hy : y < 4294967296) : x ||| y < 4294967296 := Nat.or_lt_two_pow (n := 32) hx hy

/-- Fields side by side are the word. -/
theorem whole_eq (n a b : Nat) (hn : n < 4294967296) (hb : a + b < 32) :
    (fldN n 0 a ||| (fldN n a b * 2 ^ a % 4294967296)) ||| (fldN n (a + b) (32 - (a + b)) * 2 ^ (a + b) % 4294967296) = n := by
  refine Nat.eq_of_testBit_eq fun i => ?_
  rw [Nat.testBit_or, Nat.testBit_or, mod32_bit, mod32_bit, Nat.testBit_mul_two_pow, Nat.testBit_mul_two_pow, fldN_bit, fldN_bit, fldN_bit]
  by_cases h0 : i < 32
  · by_cases h1 : i < a
    · have h2 : ¬ a ≤ i := by omega
      have h3 : ¬ a + b ≤ i := by omega
      simp [h0, h1, h2, h3]
    · by_cases h2 : i < a + b
      · have e1 : a ≤ i := by omega
        have e2 : ¬ a + b ≤ i := by omega
        have e3 : i - a < b := by omega
        have e4 : a + (i - a) = i := by omega
        simp [h0, h1, e1, e2, e3, e4]
      · have e1 : a + b ≤ i := by omega
        have e2 : ¬ i - a < b := by omega
        have e3 : i - (a + b) < 32 - (a + b) := by omega
        have e4 : a + b + (i - (a + b)) = i := by omega
        simp [h0, h1, e1, e2, e3, e4]
  · have h1 : ¬ i < a := by omega
    simp [h0, h1, bit_ge n i hn (by omega)]
theorem whole_end (n a b : Nat) (hn : n < 4294967296) (hb : a + b = 32) :
    (fldN n 0 a ||| (fldN n a b * 2 ^ a % 4294967296)) = n := by
  refine Nat.eq_of_testBit_eq fun i => ?_
  rw [Nat.testBit_or, mod32_bit, Nat.testBit_mul_two_pow, fldN_bit, fldN_bit]
  by_cases h0 : i < 32
  · by_cases h1 : i < a
    · have h2 : ¬ a ≤ i := by omega
      simp [h0, h1, h2]
    · have e1 : a ≤ i := by omega
      have e3 : i - a < b := by omega
      have e4 : a + (i - a) = i := by omega
      simp [h0, h1, e1, e3, e4]
  · have h1 : ¬ i < a := by omega
    simp [h0, h1, bit_ge n i hn (by omega)]
/-- What was set is that; what lies below and above stays. -/
theorem fld_set (n v a b : Nat) (hn : n < 4294967296) (hb : a + b ≤ 32) : fldN (setN n a b v) a b = v % 2 ^ b := by
  refine Nat.eq_of_testBit_eq fun i => ?_
  rw [fldN_bit, setN_bit n a b v _ hn hb, Nat.testBit_mod_two_pow]
  by_cases h : i < b
  · rw [if_pos (by omega)]; simp [h, Nat.add_sub_cancel_left]
  · simp [h]
theorem fld_set_low (n v a b : Nat) (hn : n < 4294967296) (hb : a + b ≤ 32) : fldN (setN n a b v) 0 a = fldN n 0 a := by
  refine Nat.eq_of_testBit_eq fun i => ?_
  rw [fldN_bit, fldN_bit, setN_bit n a b v _ hn hb]
  by_cases h : i < a
  · rw [if_neg (by omega)]
  · simp [h]
theorem fld_set_high (n v a b c : Nat) (hn : n < 4294967296) (hb : a + b ≤ 32) : fldN (setN n a b v) (a + b) c = fldN n (a + b) c := by
  refine Nat.eq_of_testBit_eq fun i => ?_
  rw [fldN_bit, fldN_bit, setN_bit n a b v _ hn hb, if_neg (by omega)]
theorem low8 (n : Int) (h0 : 0 ≤ n) (h1 : n < 4294967296) : bits .and .u32 n 255 = n % 256 := by
  obtain ⟨m, rfl⟩ := Int.eq_ofNat_of_zero_le h0
  rw [show (255 : Int) = ((255 : Nat) : Int) from rfl, u32_and_nat _ _ (by omega) (by omega), show (255 : Nat) = 2 ^ 8 - 1 from rfl, Nat.and_two_pow_sub_one_eq_mod]
  omega
theorem i64_nat (m : Nat) (h : m < 9223372036854775808) : IntKind.i64.wrap (m : Int) = (m : Int) := by
  rw [IntKind.wrap_i64]; omega
theorem bv64 (m : Nat) (h : m < 9223372036854775808) : (BitVec.ofInt 64 (m : Int)).toNat = m := by rw [BitVec.ofInt_natCast, BitVec.toNat_ofNat]; exact Nat.mod_eq_of_lt (by omega)
theorem i64_or_nat (a b : Nat) (ha : a < 9223372036854775808) (hb : b < 9223372036854775808) : bits .or .i64 (a : Int) (b : Int) = ((a ||| b : Nat) : Int) := by
  show IntKind.i64.wrap ((BitVec.ofInt 64 (a : Int) ||| BitVec.ofInt 64 (b : Int)).toNat : Int) = _
  rw [BitVec.toNat_or, bv64 a ha, bv64 b hb]
  exact i64_nat _ (Nat.or_lt_two_pow (n := 63) ha hb)
theorem i64_and_nat (a b : Nat) (ha : a < 9223372036854775808) (hb : b < 9223372036854775808) : bits .and .i64 (a : Int) (b : Int) = ((a &&& b : Nat) : Int) := by
  show IntKind.i64.wrap ((BitVec.ofInt 64 (a : Int) &&& BitVec.ofInt 64 (b : Int)).toNat : Int) = _
  rw [BitVec.toNat_and, bv64 a ha, bv64 b hb]
  exact i64_nat _ (Nat.lt_of_le_of_lt Nat.and_le_left ha)
theorem i64_xor_nat (a b : Nat) (ha : a < 9223372036854775808) (hb : b < 9223372036854775808) : bits .xor .i64 (a : Int) (b : Int) = ((a ^^^ b : Nat) : Int) := by
  show IntKind.i64.wrap ((BitVec.ofInt 64 (a : Int) ^^^ BitVec.ofInt 64 (b : Int)).toNat : Int) = _
  rw [BitVec.toNat_xor, bv64 a ha, bv64 b hb]
  exact i64_nat _ (Nat.xor_lt_two_pow (n := 63) ha hb)
/-- So many bits behind what was there. -/
theorem i64_shl_or (v s g : Nat) (hg : g < 2 ^ s) (h : v * 2 ^ s + g < 9223372036854775808) : bits .or .i64 ((v * 2 ^ s : Nat) : Int) (g : Int) = ((v * 2 ^ s + g : Nat) : Int) := by
  rw [i64_or_nat _ _ (by omega) (by omega), Nat.mul_comm v, ← Nat.two_pow_add_eq_or_of_lt hg]
theorem i64_low (v d : Nat) (h : v < 9223372036854775808) (hd : d < 63) : bits .and .i64 (v : Int) ((2 ^ d - 1 : Nat) : Int) = ((v % 2 ^ d : Nat) : Int) := by
  have h2 : 2 ^ d < 2 ^ 63 := Nat.pow_lt_pow_right (by decide) hd
  rw [i64_and_nat _ _ h (by omega), Nat.and_two_pow_sub_one_eq_mod]
theorem i64_xor1 (b : Nat) (h : b < 4294967296) : ∃ x : Nat, bits .xor .i64 (b : Int) 1 = (x : Int) ∧ x ≠ b ∧ x < 9223372036854775808 := by
  refine ⟨b ^^^ 1, i64_xor_nat b 1 (by omega) (by omega), fun e => ?_, Nat.xor_lt_two_pow (n := 63) (by omega) (by omega)⟩
  have h1 : b ^^^ (b ^^^ 1) = b ^^^ b := by rw [e]
  rw [← Nat.xor_assoc, Nat.xor_self, Nat.zero_xor] at h1
  exact absurd h1 (by decide)
end Go.Proofs.Ytlallciikcmjmaa
