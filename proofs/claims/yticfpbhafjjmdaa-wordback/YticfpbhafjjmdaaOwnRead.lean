/- Bytes in memory, read: word.there, word.number, the document's own get. -/
import Derived.Test.YticfpbhafjjmdaaOwnRound
namespace Go.Proofs.Yticfpbhafjjmdaa
open Go.RowKit

/-- The byte at a place, 0 where there is none. -/
def byteAt (bs : List Nat) (j : Int) : Nat := if 0 ≤ j then bs.getD j.toNat 0 else 0
/-- The number of so many bytes from a place on, the least first. -/
def numN (bs : List Nat) (p : Int) : Nat → Nat
  | 0 => 0
  | s + 1 => byteAt bs p + 256 * numN bs (p + 1) s
def Small (bs : List Nat) : Prop := ∀ i, bs.getD i 0 < 256
theorem byteAt_lt {bs : List Nat} (h : Small bs) (j : Int) : byteAt bs j < 256 := by
  unfold byteAt; split
  · exact h _
  · omega
theorem byteAt_in (bs : List Nat) (i : Nat) : byteAt bs (i : Int) = bs.getD i 0 := by
  unfold byteAt; rw [if_pos (by omega), Int.toNat_natCast]
theorem byteAt_out (bs : List Nat) (j : Int) (h : ¬ (0 ≤ j ∧ j < (bs.length : Int))) : byteAt bs j = 0 := by
  unfold byteAt; split
  · rw [List.getD_eq_getElem?_getD, List.getElem?_eq_none (by omega)]; rfl
  · rfl
theorem numN_snoc (bs : List Nat) (p : Int) (k : Nat) : numN bs p (k + 1) = numN bs p k + byteAt bs (p + k) * 256 ^ k := by
  induction k generalizing p with
  | zero => simp [numN]
  | succ k ih =>
    rw [numN, ih (p + 1), numN, Nat.mul_add, Nat.add_assoc, show p + 1 + (k : Int) = p + ((k + 1 : Nat) : Int) from by omega, Nat.pow_succ]
    congr 2
    rw [Nat.mul_comm 256, Nat.mul_assoc]
theorem numN_lt {bs : List Nat} (h : Small bs) (p : Int) (k : Nat) : numN bs p k < 256 ^ k := by
  induction k generalizing p with
  | zero => simp [numN]
  | succ k ih =>
    have h1 := ih (p + 1)
    have h2 := byteAt_lt h p
    rw [numN, Nat.pow_succ]
    omega
theorem pow256 (k : Nat) : 256 ^ k = 2 ^ (8 * k) := by rw [Nat.pow_mul]
theorem pow256_le (k : Nat) (h : k ≤ 4) : 256 ^ k ≤ 4294967296 := Nat.pow_le_pow_right (n := 256) (by decide) h
theorem or_add (a b i : Nat) (h : b < 2 ^ i) : b ||| (a * 2 ^ i) = b + a * 2 ^ i := by
  have := Nat.two_pow_add_eq_or_of_lt h a
  rw [Nat.mul_comm a, Nat.or_comm, ← this, Nat.add_comm]
theorem num_step {bs : List Nat} (h : Small bs) (p : Int) (k x : Nat) (hk : k < 4) (hx : byteAt bs (p + k) = x) :
    bits .or .u32 ((numN bs p k : Nat) : Int) ((x : Int) * 2 ^ (8 * k) % 4294967296) = ((numN bs p (k + 1) : Nat) : Int) := by
  have h1 := numN_lt h p k
  have h2 := byteAt_lt h (p + k)
  have h3 := numN_lt h p (k + 1)
  have h4 := pow256_le (k + 1) (by omega)
  have h5 := pow256_le k (by omega)
  have hs := numN_snoc bs p k
  rw [hx] at h2 hs
  rw [pow256 k] at h1 hs
  have e : x * 2 ^ (8 * k) % 4294967296 = x * 2 ^ (8 * k) := Nat.mod_eq_of_lt (by omega)
  rw [or_walk _ _ _ (by omega), e, or_add _ _ _ h1, ← hs]
theorem num_horner {bs : List Nat} (h : Small bs) (q : Int) (s x : Nat) (hs : s < 4) (hx : byteAt bs q = x) :
    bits .or .u32 (((numN bs (q + 1) s : Nat) : Int) * 256 % 4294967296) (x : Int) = ((numN bs q (s + 1) : Nat) : Int) := by
  have h1 := numN_lt h (q + 1) s
  have h2 := byteAt_lt h q
  have h3 := pow256_le (s + 1) (by omega)
  rw [Nat.pow_succ] at h3
  have e : (((numN bs (q + 1) s : Nat) : Int) * 256 % 4294967296) = ((numN bs (q + 1) s * 256 : Nat) : Int) := by omega
  rw [hx] at h2
  rw [e, u32_or_nat _ _ (by omega) (by omega), Nat.or_comm, or_add _ _ 8 (by omega), numN, hx]
  omega
theorem num_shift {bs : List Nat} (h : Small bs) (q : Int) (s : Nat) (hs : s < 4) (hx : byteAt bs q = 0) :
    (((numN bs (q + 1) s : Nat) : Int) * 256 % 4294967296) = ((numN bs q (s + 1) : Nat) : Int) := by
  have h1 := numN_lt h (q + 1) s
  have h3 := pow256_le (s + 1) (by omega)
  rw [Nat.pow_succ] at h3
  rw [numN, hx]
  omega
/-- A slice's bytes as they lie in memory (of a slice of no bytes nothing is asked). -/
def Row (w : World) (a : Option Addr) (bs : List Nat) : Prop :=
  Small bs ∧ bs.length ≤ 1152921504606846976 ∧ (bs.length = 0 ∨ ∃ b off, a = some ⟨b, off, none⟩ ∧ ∀ i, i < bs.length → w.cell? ⟨b, off + i, none⟩ = some (.int .u8 ((bs.getD i 0 : Nat) : Int)))
theorem Row.drewN {w : World} {a : Option Addr} {bs : List Nat} (h : Row w a bs) (k : Nat) : Row (w.drewN k) a bs := h

set_option maxHeartbeats 400000 in
theorem there_yes (a : Option Addr) (len cap : Nat) (j : Int) (w : World) (h0 : 0 ≤ j) (h1 : j < (len : Int)) :
    Calls Try.prog 33 #[.slice a len cap, .int .i64 j] w fun e w' => e = .returned (.bool true) ∧ w' = w := by
  go_enter Try.func33, Try.ntmps33
  go_wp2
  go_ret
  exact ⟨rfl, rfl⟩
set_option maxHeartbeats 400000 in
theorem there_no (a : Option Addr) (len cap : Nat) (j : Int) (w : World) (h : ¬ (0 ≤ j ∧ j < (len : Int))) :
    Calls Try.prog 33 #[.slice a len cap, .int .i64 j] w fun e w' => e = .returned (.bool false) ∧ w' = w := by
  by_cases h0 : 0 ≤ j
  · have h1 : decide (j < (len : Int)) = false := by simp; omega
    clear h
    go_enter Try.func33, Try.ntmps33
    go_wp2
    go_ret
    exact ⟨rfl, rfl⟩
  · have h1 : j < 0 := by omega
    clear h
    go_enter Try.func33, Try.ntmps33
    go_wp2
    go_ret
    exact ⟨rfl, rfl⟩
set_option maxHeartbeats 1000000 in
theorem num_calls (a : Option Addr) (cap : Nat) (bs : List Nat) (p : Int) (size : Nat) (w : World) (hr : Row w a bs) (hp0 : -9223372036854775808 ≤ p) (hp1 : p ≤ 9223372036854775807) (hs : size ≤ 4) :
    Calls Try.prog 26 #[.slice a bs.length cap, .int .i64 p, .int .i64 (size : Int)] w fun e w' => e = .returned (.int .u32 ((numN bs p size : Nat) : Int)) ∧ w' = w := by
  obtain ⟨hsm, hlen, hcells⟩ := hr
  go_enter Try.func26, Try.ntmps26
  go_wp2
  go_loop [7, 10] (fun n i => ∃ k : Nat, k ≤ size ∧ i = .int .i64 k ∧ n = .int .u32 ((numN bs p k : Nat) : Int)) (fun _ i => size - (intOf i).toNat)
  case atStart => exact ⟨0, Nat.zero_le _, rfl, rfl⟩
  case round =>
    obtain ⟨k, hk, rfl, rfl⟩ := hrel
    by_cases hlt : k < size
    · by_cases hin : 0 ≤ p + k ∧ p + k < (bs.length : Int)
      · obtain ⟨hi0, hi1⟩ := hin
        rcases hcells with hz | ⟨b, off, rfl, hc⟩
        · omega
        have hcell := hc (p + k).toNat (by omega)
        have hx := byteAt_in bs (p + k).toNat
        rw [← hx, Int.toNat_of_nonneg hi0] at hcell
        clear hx hc
        have hx := byteAt_lt hsm (p + k)
        obtain ⟨x, hxe⟩ : ∃ x : Nat, byteAt bs (p + k) = x := ⟨_, rfl⟩
        rw [hxe] at hcell hx
        have HX := hide hxe
        clear hxe
        go_wp2_with fail
        refine (there_yes _ _ _ _ _ hi0 hi1).mono ?_
        rintro e w' ⟨rfl, rfl⟩
        go_wp2
        go_round
        case rel =>
          refine ⟨k + 1, by omega, by go_num, ?_⟩
          rw [num_step hsm p k x (by omega) (unhide HX)]
        case measure => simp [intOf]; omega
      · have HZ := hide ((numN_snoc bs p k).trans (by rw [byteAt_out bs (p + k) hin]))
        go_wp2_with fail
        refine (there_no _ _ _ _ _ ?_).mono ?_
        · first | exact hin | (unfold wrap64; omega)
        rintro e w' ⟨rfl, rfl⟩
        go_wp2
        go_round
        case rel =>
          refine ⟨k + 1, by omega, by go_num, ?_⟩
          rw [unhide HZ]; simp
        case measure => simp [intOf]; omega
    · go_wp2
      go_ret
      have e : k = size := by omega
      subst e
      exact ⟨rfl, rfl⟩
set_option maxHeartbeats 1000000 in
theorem get_calls (a : Option Addr) (cap : Nat) (bs : List Nat) (p : Int) (size : Nat) (w : World) (hr : Row w a bs) (hp0 : -9223372036854775808 ≤ p) (hp1 : p ≤ 9223372036854775807) (hs : size ≤ 4) :
    Calls Try.prog 27 #[.slice a bs.length cap, .int .i64 p, .int .i64 (size : Int)] w fun e w' => e = .returned (.int .u32 ((numN bs p size : Nat) : Int)) ∧ w' = w := by
  obtain ⟨hsm, hlen, hcells⟩ := hr
  go_enter Try.func27, Try.ntmps27
  go_wp2
  go_loop [7, 8] (fun n i => ∃ j : Int, -1 ≤ j ∧ j < size ∧ i = .int .i64 j ∧ n = .int .u32 ((numN bs (p + j + 1) (size - (j + 1).toNat) : Nat) : Int)) (fun _ i => (intOf i + 1).toNat)
  case atStart => exact ⟨(size : Int) - 1, by omega, by omega, rfl, by rw [show size - ((size : Int) - 1 + 1).toNat = 0 from by omega]; rfl⟩
  case round =>
    obtain ⟨j, hj0, hj1, rfl, rfl⟩ := hrel
    by_cases hlt : 0 ≤ j
    · have HS := hide (show size - (j - 1 + 1).toNat = size - (j + 1).toNat + 1 from by omega)
      have HQ := hide (show p + (j - 1) + 1 = p + j from by omega)
      have hsz : size - (j + 1).toNat < 4 := by omega
      by_cases hin : 0 ≤ p + j ∧ p + j < (bs.length : Int)
      · obtain ⟨hi0, hi1⟩ := hin
        have g1 : -j ≤ p := by omega
        have g2 : p < (bs.length : Int) - j := by omega
        rcases hcells with hz | ⟨b, off, rfl, hc⟩
        · omega
        have hcell := hc (p + j).toNat (by omega)
        have hx := byteAt_in bs (p + j).toNat
        rw [← hx, Int.toNat_of_nonneg hi0] at hcell
        clear hx hc
        have hx := byteAt_lt hsm (p + j)
        obtain ⟨x, hxe⟩ : ∃ x : Nat, byteAt bs (p + j) = x := ⟨_, rfl⟩
        rw [hxe] at hcell hx
        have HX := hide hxe
        clear hxe
        go_wp2
        go_round
        case rel =>
          refine ⟨j - 1, by omega, by omega, rfl, ?_⟩
          rw [unhide HS, unhide HQ]
          first | rw [num_horner hsm (p + j) _ x hsz (unhide HX)] | trace_state
        case measure => simp [intOf]; omega
      · have HZ := hide (byteAt_out bs (p + j) hin)
        by_cases g1 : -j ≤ p
        · have g2 : decide (p < (bs.length : Int) - j) = false := by simp; omega
          go_wp2
          go_round
          case rel =>
            refine ⟨j - 1, by omega, by omega, rfl, ?_⟩
            rw [unhide HS, unhide HQ]
            first | rw [num_shift hsm (p + j) _ hsz (unhide HZ)] | trace_state
          case measure => simp [intOf]; omega
        · have g2 : decide (-j ≤ p) = false := by simp; omega
          go_wp2
          go_round
          case rel =>
            refine ⟨j - 1, by omega, by omega, rfl, ?_⟩
            rw [unhide HS, unhide HQ]
            first | rw [num_shift hsm (p + j) _ hsz (unhide HZ)] | trace_state
          case measure => simp [intOf]; omega
    · go_wp2
      go_ret
      have e : j = -1 := by omega
      subst e
      exact ⟨ret_int (by rw [show p + -1 + 1 = p from by omega]; rfl), rfl⟩
end Go.Proofs.Yticfpbhafjjmdaa
