/- Bits of signed words, as numbers that are not below 0. -/
import Derived.Test.YtjjgjgncnifjmaaKMath
namespace Go.Proofs.Ytjjgjgncnifjmaa
open Go.RowKit
set_option linter.unusedVariables false
theorem i64_nat (m : Nat) (h : m < 9223372036854775808) : IntKind.i64.wrap (m : Int) = (m : Int) := by
  rw [IntKind.wrap_i64]; omega
theorem bv64 (m : Nat) (h : m < 9223372036854775808) : (BitVec.ofInt 64 (m : Int)).toNat = m := by rw [BitVec.ofInt_natCast, BitVec.toNat_ofNat]; exact Nat.mod_eq_of_lt (by omega)
theorem i64_or_nat (a b : Nat) (ha : a < 9223372036854775808) (hb : b < 9223372036854775808) : bits .or .i64 (a : Int) (b : Int) = ((a ||| b : Nat) : Int) := by
  show IntKind.i64.wrap ((BitVec.ofInt 64 (a : Int) ||| BitVec.ofInt 64 (b : Int)).toNat : Int) = _
  rw [BitVec.toNat_or, bv64 a ha, bv64 b hb]
  exact i64_nat _ (Nat.or_lt_two_pow (n := 63) ha hb)
theorem i64_and_nat (a b : Nat) (ha : a < 9223372036854775808) (hb : b < 9223372036854775808) : bits .and .i64 (a : Int) (b : Int) = ((a &&& b : Nat) : Int) := by
  show IntKind.i64.wrap ((BitVec.ofInt 64 (a : Int) &&& BitVec.ofInt 64 (b : Int)).toNat : Int) = _
  rw [BitVec.toNat_and, bv64 a ha, bv64 b hb]
  exact i64_nat _ (Nat.lt_of_le_of_lt Nat.and_le_left ha)
theorem i64_xor_nat (a b : Nat) (ha : a < 9223372036854775808) (hb : b < 9223372036854775808) : bits .xor .i64 (a : Int) (b : Int) = ((a ^^^ b : Nat) : Int) := by
  show IntKind.i64.wrap ((BitVec.ofInt 64 (a : Int) ^^^ BitVec.ofInt 64 (b : Int)).toNat : Int) = _
  rw [BitVec.toNat_xor, bv64 a ha, bv64 b hb]
  exact i64_nat _ (Nat.xor_lt_two_pow (n := 63) ha hb)
/-- So many bits behind what was there. -/
theorem i64_shl_or (v s g : Nat) (hg : g < 2 ^ s) (h : v * 2 ^ s + g < 9223372036854775808) : bits .or .i64 ((v * 2 ^ s : Nat) : Int) (g : Int) = ((v * 2 ^ s + g : Nat) : Int) := by
  rw [i64_or_nat _ _ (by omega) (by omega), Nat.mul_comm v, ← Nat.two_pow_add_eq_or_of_lt hg]
theorem i64_low (v d : Nat) (h : v < 9223372036854775808) (hd : d < 63) : bits .and .i64 (v : Int) ((2 ^ d - 1 : Nat) : Int) = ((v % 2 ^ d : Nat) : Int) := by
  have h2 : 2 ^ d < 2 ^ 63 := Nat.pow_lt_pow_right (by decide) hd
  rw [i64_and_nat _ _ h (by omega), Nat.and_two_pow_sub_one_eq_mod]
theorem i64_xor1 (b : Nat) (h : b < 4294967296) : ∃ x : Nat, bits .xor .i64 (b : Int) 1 = (x : Int) ∧ x ≠ b ∧ x < 9223372036854775808 := by
  refine ⟨b ^^^ 1, i64_xor_nat b 1 (by omega) (by omega), fun e => ?_, Nat.xor_lt_two_pow (n := 63) (by omega) (by omega)⟩
  have h1 : b ^^^ (b ^^^ 1) = b ^^^ b := by rw [e]
  rw [← Nat.xor_assoc, Nat.xor_self, Nat.zero_xor] at h1
  exact absurd h1 (by decide)
end Go.Proofs.Ytjjgjgncnifjmaa
