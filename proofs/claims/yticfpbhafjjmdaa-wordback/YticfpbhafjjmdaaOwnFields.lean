/- The walk of WordFields. -/
import Derived.Test.YticfpbhafjjmdaaOwnRound
namespace Go.Proofs.Yticfpbhafjjmdaa
open Go.RowKit
theorem w_low (a : Nat) (ha : a ≤ 32) : widthOf 0 (a : Int) = a := by unfold widthOf; split <;> (try split) <;> omega
theorem w_at (a b : Nat) (ha : a < 32) (hb : a + b ≤ 32) : widthOf (a : Int) (b : Int) = b := by unfold widthOf; split <;> (try split) <;> omega
theorem w_high (a b : Nat) (hb : a + b < 32) : widthOf ((a : Int) + (b : Int)) 32 = ((32 - (a + b) : Nat) : Int) := by unfold widthOf; split <;> (try split) <;> omega
theorem w_below (b : Int) : widthOf (-1) b = 0 := by unfold widthOf; rw [if_pos (by omega)]
theorem w_beyond (b : Int) : widthOf 32 b = 0 := by unfold widthOf; rw [if_pos (by omega)]
theorem w_no (a : Int) : widthOf a 0 = 0 := by unfold widthOf; rw [if_pos (by omega)]
/-- What Field and Set do, said over numbers that are not below 0. -/
theorem field_nat (n a b : Nat) (w : World) (s bits : Int) (hs : s.toNat = a) (hw : widthOf s bits = (b : Int)) (h1 : n < 4294967296) :
    Calls Try.prog 18 #[.int .u32 (n : Int), .int .i64 s, .int .i64 bits] w fun e w' => e = .returned (.int .u32 ((fldN n a b : Nat) : Int)) ∧ ∃ k, w' = w.drewN k := by
  have := field_calls n s bits w (by omega) (by omega)
  rw [hs, hw, Int.toNat_natCast, Int.toNat_natCast] at this
  exact this
theorem set_nat (n v a b : Nat) (w : World) (s bits : Int) (hs : s.toNat = a) (hw : widthOf s bits = (b : Int)) (h1 : n < 4294967296) (g1 : v < 4294967296) (hb : a ≤ 32) :
    Calls Try.prog 20 #[.int .u32 (n : Int), .int .i64 s, .int .i64 bits, .int .u32 (v : Int)] w fun e w' => e = .returned (.int .u32 ((setN n a b v : Nat) : Int)) ∧ ∃ k, w' = w.drewN k := by
  have := set_calls n s bits v w (by omega) (by omega) (by omega) (by omega)
  rw [hs, hw, Int.toNat_natCast, Int.toNat_natCast, Int.toNat_natCast] at this
  by_cases hz : b = 0
  · subst hz
    rw [if_pos (by decide)] at this
    rw [setN_none n a v h1 hb]
    exact this
  · rw [if_neg (by omega)] at this
    exact this
set_option maxHeartbeats 1000000 in
theorem fields_mid (n v a b : Nat) (p q : Int) (w : World) (hn : n < 4294967296) (hv : v < 4294967296) (ha : a < 32) (hb : a + b < 32) (hp : p % 32 = (a : Int)) (hq : q % (33 - (a : Int)) = (b : Int)) :
    Calls Try.prog 5 #[.int .u32 (n : Int), .int .u32 (v : Int), .int .i64 p, .int .i64 q] w fun e w' => e = .returned (.bool true) ∧ Grown w w' := by
  have HP := hide hp
  have HQ := hide hq
  clear hp hq
  have hb32 : (b : Int) < 32 := by omega
  have hab : (a : Int) + (b : Int) < 32 := by omega
  obtain ⟨m, hm⟩ : ∃ m : Nat, v % 2 ^ b = m := ⟨_, rfl⟩
  have hvm : bits .and .u32 (v : Int) ((2 ^ b - 1) % 4294967296) = (m : Int) := by
    rw [ilow b (by omega), u32_and_nat _ _ hv (by have := pow_le32 b (by omega); have := pow_pos2 b; omega), Nat.and_two_pow_sub_one_eq_mod, hm]
  have HSl := hide (fld_set_low n v a b hn (by omega))
  have HSh := hide (fld_set_high n v a b (32 - (a + b)) hn (by omega))
  have HSm := hide ((fld_set n v a b hn (by omega)).trans hm)
  have hW := whole_eq n a b hn hb
  have hl := fldN_lt n 0 a (by omega)
  obtain ⟨x, hx⟩ : ∃ x : Nat, (fldN n 0 a ||| (fldN n a b * 2 ^ a % 4294967296)) = x := ⟨_, rfl⟩
  have hxl : x < 4294967296 := by rw [← hx]; exact or_lt _ _ hl (Nat.mod_lt _ (by omega))
  have hor1 : bits .or .u32 ((fldN n 0 a : Nat) : Int) (((fldN n a b : Nat) : Int) * 2 ^ a % 4294967296) = (x : Int) := by rw [or_walk _ _ _ hl, hx]
  have hor2 : bits .or .u32 (x : Int) (((fldN n (a + b) (32 - (a + b)) : Nat) : Int) * 2 ^ (a + b) % 4294967296) = (n : Int) := by rw [or_walk _ _ _ hxl, ← hx, hW]
  clear hm hx hW hl hxl
  go_enter Try.func5, Try.ntmps5
  go_wp2_with fail
  refine (first_calls _).mono ?_
  rintro e w' ⟨rfl, k0, rfl⟩
  go_wp2_with fail
  refine (number_calls _ _ _ (by omega) (by omega)).mono ?_
  rintro e w' ⟨rfl, rfl⟩
  rw [unhide HP]
  go_wp2_with fail
  refine (number_calls _ _ _ (by omega) (by omega)).mono ?_
  rintro e w' ⟨rfl, rfl⟩
  rw [unhide HQ]
  go_wp2_with fail
  refine (set_nat n v a b _ _ _ (by omega) (w_at a b ha (by omega)) hn hv (by omega)).mono ?_
  rintro e w' ⟨rfl, k1, rfl⟩
  go_wp2_with fail
  refine (field_nat n 0 a _ _ _ rfl (w_low a (by omega)) hn).mono ?_
  rintro e w' ⟨rfl, k2, rfl⟩
  go_wp2_with fail
  refine (field_nat n (a + b) (32 - (a + b)) _ _ _ (by omega) (w_high a b hb) hn).mono ?_
  rintro e w' ⟨rfl, k3, rfl⟩
  go_wp2_with fail
  refine (field_nat _ 0 a _ _ _ rfl (w_low a (by omega)) (setN_lt n a b v hn (by omega))).mono ?_
  rintro e w' ⟨rfl, k4, rfl⟩
  rw [unhide HSl]
  go_wp2_with fail
  refine (field_nat _ (a + b) (32 - (a + b)) _ _ _ (by omega) (w_high a b hb) (setN_lt n a b v hn (by omega))).mono ?_
  rintro e w' ⟨rfl, k5, rfl⟩
  rw [unhide HSh]
  go_wp2_with fail
  refine (field_nat n a b _ _ _ (by omega) (w_at a b ha (by omega)) hn).mono ?_
  rintro e w' ⟨rfl, k6, rfl⟩
  go_wp2_with fail
  refine (field_nat _ a b _ _ _ (by omega) (w_at a b ha (by omega)) (setN_lt n a b v hn (by omega))).mono ?_
  rintro e w' ⟨rfl, k7, rfl⟩
  rw [unhide HSm]
  go_wp2_with fail
  refine (field_nat n 0 0 _ _ _ (by omega) (w_below _) hn).mono ?_
  rintro e w' ⟨rfl, k8, rfl⟩
  rw [fldN_none]
  go_wp2_with fail
  refine (field_nat n 32 0 _ _ _ (by omega) (w_beyond _) hn).mono ?_
  rintro e w' ⟨rfl, k9, rfl⟩
  rw [fldN_none]
  go_wp2_with fail
  refine (set_nat n v a 0 _ _ _ (by omega) (w_no _) hn hv (by omega)).mono ?_
  rintro e w' ⟨rfl, k10, rfl⟩
  rw [setN_none n a v hn (by omega)]
  go_wp2
  go_ret
  exact ⟨rfl, grown_drewN _ _⟩
set_option maxHeartbeats 1000000 in
theorem fields_end (n v a b : Nat) (p q : Int) (w : World) (hn : n < 4294967296) (hv : v < 4294967296) (ha : a < 32) (hb : a + b = 32) (hb32' : b < 32) (hp : p % 32 = (a : Int)) (hq : q % (33 - (a : Int)) = (b : Int)) :
    Calls Try.prog 5 #[.int .u32 (n : Int), .int .u32 (v : Int), .int .i64 p, .int .i64 q] w fun e w' => e = .returned (.bool true) ∧ Grown w w' := by
  have HP := hide hp
  have HQ := hide hq
  clear hp hq
  have HB := hide hb
  have hb2 : a + b ≤ 32 := by omega
  have hb3 : decide ((a : Int) + (b : Int) < 32) = false := by simp; omega
  have hb32 : (b : Int) < 32 := by omega
  obtain ⟨m, hm⟩ : ∃ m : Nat, v % 2 ^ b = m := ⟨_, rfl⟩
  have hvm : bits .and .u32 (v : Int) ((2 ^ b - 1) % 4294967296) = (m : Int) := by
    rw [ilow b (by omega), u32_and_nat _ _ hv (by have := pow_le32 b (by omega); have := pow_pos2 b; omega), Nat.and_two_pow_sub_one_eq_mod, hm]
  have HSl := hide (fld_set_low n v a b hn (by omega))
  have HSm := hide ((fld_set n v a b hn (by omega)).trans hm)
  have hW := whole_end n a b hn hb
  have hl := fldN_lt n 0 a (by omega)
  have hor1 : bits .or .u32 ((fldN n 0 a : Nat) : Int) (((fldN n a b : Nat) : Int) * 2 ^ a % 4294967296) = (n : Int) := by rw [or_walk _ _ _ hl, hW]
  clear hm hW hl hb
  go_enter Try.func5, Try.ntmps5
  go_wp2_with fail
  refine (first_calls _).mono ?_
  rintro e w' ⟨rfl, k0, rfl⟩
  go_wp2_with fail
  refine (number_calls _ _ _ (by omega) (by omega)).mono ?_
  rintro e w' ⟨rfl, rfl⟩
  rw [unhide HP]
  go_wp2_with fail
  refine (number_calls _ _ _ (by omega) (by omega)).mono ?_
  rintro e w' ⟨rfl, rfl⟩
  rw [unhide HQ]
  go_wp2_with fail
  refine (set_nat n v a b _ _ _ (by omega) (w_at a b ha (by omega)) hn hv (by omega)).mono ?_
  rintro e w' ⟨rfl, k1, rfl⟩
  go_wp2_with fail
  refine (field_nat n 0 a _ _ _ rfl (w_low a (by omega)) hn).mono ?_
  rintro e w' ⟨rfl, k2, rfl⟩
  go_wp2_with fail
  refine (field_nat _ 0 a _ _ _ rfl (w_low a (by omega)) (setN_lt n a b v hn (by omega))).mono ?_
  rintro e w' ⟨rfl, k4, rfl⟩
  rw [unhide HSl]
  go_wp2_with fail
  refine (field_nat n a b _ _ _ (by omega) (w_at a b ha (by omega)) hn).mono ?_
  rintro e w' ⟨rfl, k6, rfl⟩
  go_wp2_with fail
  refine (field_nat _ a b _ _ _ (by omega) (w_at a b ha (by omega)) (setN_lt n a b v hn (by omega))).mono ?_
  rintro e w' ⟨rfl, k7, rfl⟩
  rw [unhide HSm]
  go_wp2_with fail
  refine (field_nat n 0 0 _ _ _ (by omega) (w_below _) hn).mono ?_
  rintro e w' ⟨rfl, k8, rfl⟩
  rw [fldN_none]
  go_wp2_with fail
  refine (field_nat n 32 0 _ _ _ (by omega) (w_beyond _) hn).mono ?_
  rintro e w' ⟨rfl, k9, rfl⟩
  rw [fldN_none]
  go_wp2_with fail
  refine (set_nat n v a 0 _ _ _ (by omega) (w_no _) hn hv (by omega)).mono ?_
  rintro e w' ⟨rfl, k10, rfl⟩
  rw [setN_none n a v hn (by omega)]
  go_wp2
  go_ret
  exact ⟨rfl, grown_drewN _ _⟩
set_option maxHeartbeats 1000000 in
theorem fields_whole (n v : Nat) (p q : Int) (w : World) (hn : n < 4294967296) (hv : v < 4294967296) (hp : p % 32 = 0) (hq : q % 33 = 32) :
    Calls Try.prog 5 #[.int .u32 (n : Int), .int .u32 (v : Int), .int .i64 p, .int .i64 q] w fun e w' => e = .returned (.bool true) ∧ Grown w w' := by
  have HP := hide hp
  have HQ := hide hq
  clear hp hq
  have HSm := hide ((fld_set n v 0 32 hn (by omega)).trans (Nat.mod_eq_of_lt hv))
  have hW := whole_end n 0 32 hn rfl
  have hl := fldN_lt n 0 0 (by omega)
  have HF : fldN n 0 32 = n := by unfold fldN; rw [Nat.pow_zero, Nat.div_one]; exact Nat.mod_eq_of_lt hn
  have HF' := hide HF
  have hor1 : bits .or .u32 0 ((n : Int) % 4294967296) = (n : Int) := by
    have := or_walk 0 n 0 (by omega)
    rw [Nat.pow_zero, Nat.mul_one, Nat.mod_eq_of_lt hn, Nat.zero_or] at this
    simpa using this
  have hor2 : bits .or .u32 0 (n : Int) = (n : Int) := by
    have := u32_or_nat 0 n (by omega) hn
    rw [Nat.zero_or] at this
    exact this
  have w1 : widthOf 0 32 = ((32 : Nat) : Int) := by decide
  have w2 : widthOf 0 0 = ((0 : Nat) : Int) := by decide
  clear hW hl HF
  go_enter Try.func5, Try.ntmps5
  go_wp2_with fail
  refine (first_calls _).mono ?_
  rintro e w' ⟨rfl, k0, rfl⟩
  go_wp2_with fail
  refine (number_calls _ _ _ (by omega) (by omega)).mono ?_
  rintro e w' ⟨rfl, rfl⟩
  rw [unhide HP]
  go_wp2_with fail
  refine (number_calls _ _ _ (by omega) (by omega)).mono ?_
  rintro e w' ⟨rfl, rfl⟩
  rw [unhide HQ]
  go_wp2_with fail
  refine (set_nat n v 0 32 _ _ _ (by omega) w1 hn hv (by omega)).mono ?_
  rintro e w' ⟨rfl, k1, rfl⟩
  go_wp2_with fail
  refine (field_nat n 0 0 _ _ _ rfl w2 hn).mono ?_
  rintro e w' ⟨rfl, k2, rfl⟩
  rw [fldN_none]
  go_wp2_with fail
  refine (field_nat _ 0 0 _ _ _ rfl w2 (setN_lt n 0 32 v hn (by omega))).mono ?_
  rintro e w' ⟨rfl, k4, rfl⟩
  rw [fldN_none]
  go_wp2_with fail
  refine (field_nat n 0 32 _ _ _ (by omega) w1 hn).mono ?_
  rintro e w' ⟨rfl, k6, rfl⟩
  rw [unhide HF']
  go_wp2_with fail
  refine (field_nat _ 0 32 _ _ _ (by omega) w1 (setN_lt n 0 32 v hn (by omega))).mono ?_
  rintro e w' ⟨rfl, k7, rfl⟩
  rw [unhide HSm]
  go_wp2_with fail
  refine (field_nat n 0 0 _ _ _ (by omega) (w_below _) hn).mono ?_
  rintro e w' ⟨rfl, k8, rfl⟩
  rw [fldN_none]
  go_wp2_with fail
  refine (field_nat n 32 0 _ _ _ (by omega) (w_beyond _) hn).mono ?_
  rintro e w' ⟨rfl, k9, rfl⟩
  rw [fldN_none]
  go_wp2_with fail
  refine (set_nat n v 0 0 _ _ _ (by omega) (w_no _) hn hv (by omega)).mono ?_
  rintro e w' ⟨rfl, k10, rfl⟩
  rw [setN_none n 0 v hn (by omega)]
  go_wp2
  go_ret
  exact ⟨rfl, grown_drewN _ _⟩
theorem fields_walk (n v p q : Int) (w0 : (Lit.int .u32 n).wf = true) (w1 : (Lit.int .u32 v).wf = true) (w : World) :
    Calls Try.prog 5 #[.int .u32 n, .int .u32 v, .int .i64 p, .int .i64 q] w fun e w' => e = .returned (.bool true) ∧ Grown w w' := by
  have b0 := bounds_u32 w0
  have b1 := bounds_u32 w1
  obtain ⟨n, rfl⟩ := Int.eq_ofNat_of_zero_le b0.1
  obtain ⟨v, rfl⟩ := Int.eq_ofNat_of_zero_le b1.1
  have a0 : 0 ≤ p % 32 := Int.emod_nonneg _ (by omega)
  have a1 : p % 32 < 32 := Int.emod_lt_of_pos _ (by omega)
  obtain ⟨a, ha⟩ := Int.eq_ofNat_of_zero_le a0
  have c0 : 0 ≤ q % (33 - (a : Int)) := Int.emod_nonneg _ (by omega)
  have c1 : q % (33 - (a : Int)) < 33 - (a : Int) := Int.emod_lt_of_pos _ (by omega)
  obtain ⟨b, hb⟩ := Int.eq_ofNat_of_zero_le c0
  by_cases h1 : a + b < 32
  · exact fields_mid n v a b p q w (by omega) (by omega) (by omega) h1 ha hb
  · by_cases h2 : b < 32
    · exact fields_end n v a b p q w (by omega) (by omega) (by omega) (by omega) h2 ha hb
    · have e1 : a = 0 := by omega
      have e2 : b = 32 := by omega
      subst e1 e2
      exact fields_whole n v p q w (by omega) (by omega) ha hb
end Go.Proofs.Yticfpbhafjjmdaa
