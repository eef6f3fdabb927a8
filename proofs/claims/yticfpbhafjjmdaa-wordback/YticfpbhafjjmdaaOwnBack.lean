/- The walk of WordBack. -/
import Derived.Test.YticfpbhafjjmdaaOwnBytes
namespace Go.Proofs.Yticfpbhafjjmdaa
open Go.RowKit
set_option linter.unusedVariables false
theorem byte_put (bs : List Nat) (s n k i : Nat) (hk : i < k) (hl : s + k ≤ bs.length) : byteAt (putN bs (s : Int) n k) ((s : Int) + (i : Int)) = n / 2 ^ (8 * i) % 256 := by
  rw [show (s : Int) + (i : Int) = ((s + i : Nat) : Int) from by omega, byteAt_in, putN_get bs _ n k (s + i) (by omega), if_pos (by omega)]
  rw [show (((s + i : Nat) : Int) - (s : Int)).toNat = i from by omega]
theorem num2_eq (bs : List Nat) (p : Int) : numN bs p 2 = byteAt bs p + 256 * byteAt bs (p + 1) := by simp [numN]
theorem num4_eq (bs : List Nat) (p : Int) : numN bs p 4 = byteAt bs p + 256 * (byteAt bs (p + 1) + 256 * (byteAt bs (p + 1 + 1) + 256 * byteAt bs (p + 1 + 1 + 1))) := by simp [numN]
theorem back4 (bs : List Nat) (s n : Nat) (hn : n < 4294967296) (hl : s + 4 ≤ bs.length) : numN (putN bs (s : Int) n 4) (s : Int) 4 = n := by
  have e0 := byte_put bs s n 4 0 (by omega) hl
  have e1 := byte_put bs s n 4 1 (by omega) hl
  have e2 := byte_put bs s n 4 2 (by omega) hl
  have e3 := byte_put bs s n 4 3 (by omega) hl
  rw [num4_eq, show (s : Int) + 1 + 1 + 1 = (s : Int) + ((3 : Nat) : Int) from by omega, show (s : Int) + 1 + 1 = (s : Int) + ((2 : Nat) : Int) from by omega, show (s : Int) + 1 = (s : Int) + ((1 : Nat) : Int) from by omega, e1, e2, e3]
  rw [show (s : Int) + ((0 : Nat) : Int) = (s : Int) from by omega] at e0
  rw [e0]
  omega
theorem back2 (bs : List Nat) (s n : Nat) (hn : n < 65536) (hl : s + 2 ≤ bs.length) : numN (putN bs (s : Int) n 2) (s : Int) 2 = n := by
  have e0 := byte_put bs s n 2 0 (by omega) hl
  have e1 := byte_put bs s n 2 1 (by omega) hl
  rw [num2_eq, show (s : Int) + 1 = (s : Int) + ((1 : Nat) : Int) from by omega, e1]
  rw [show (s : Int) + ((0 : Nat) : Int) = (s : Int) from by omega] at e0
  rw [e0]
  omega
theorem back42 (bs : List Nat) (s n : Nat) (hn : n < 4294967296) (hl : s + 4 ≤ bs.length) : numN (putN bs (s : Int) n 4) (s : Int) 2 = n % 65536 := by
  have e0 := byte_put bs s n 4 0 (by omega) hl
  have e1 := byte_put bs s n 4 1 (by omega) hl
  rw [num2_eq, show (s : Int) + 1 = (s : Int) + ((1 : Nat) : Int) from by omega, e1]
  rw [show (s : Int) + ((0 : Nat) : Int) = (s : Int) from by omega] at e0
  rw [e0]
  omega
theorem back4h (bs : List Nat) (s n : Nat) (hn : n < 4294967296) (hl : s + 4 ≤ bs.length) : numN (putN bs (s : Int) n 4) ((s : Int) + 2) 2 = n / 65536 := by
  have e2 := byte_put bs s n 4 2 (by omega) hl
  have e3 := byte_put bs s n 4 3 (by omega) hl
  rw [num2_eq, show (s : Int) + 2 + 1 = (s : Int) + ((3 : Nat) : Int) from by omega, show (s : Int) + 2 = (s : Int) + ((2 : Nat) : Int) from by omega, e2, e3]
  omega
theorem put_same (bs : List Nat) (p : Int) (n k i : Nat) (hi : i < bs.length) (h : (i : Int) < p ∨ p + k ≤ i) : (putN bs p n k).getD i 0 = bs.getD i 0 := by
  rw [putN_get bs p n k i hi, if_neg (by omega)]
theorem row_cell {w : World} {g : Nat} {bs : List Nat} (h : Row w (some ⟨g, 0, none⟩) bs) (k : Nat) (hk : k < bs.length) : w.cell? ⟨g, k, none⟩ = some (.int .u8 ((bs.getD k 0 : Nat) : Int)) := by
  obtain ⟨_, _, hz | ⟨b, off, he, hc⟩⟩ := h
  · omega
  · cases he
    have := hc k hk
    rw [Nat.zero_add] at this
    exact this
theorem len_calls {f : Nat} {a : Option Addr} {cap len : Nat} {bs : List Nat} {p : Int} {w : World} {Q : Ending → World → Prop} (h : bs.length = len)
    (c : Calls Try.prog f #[.slice a bs.length cap, .int .i64 p] w Q) : Calls Try.prog f #[.slice a len cap, .int .i64 p] w Q := by subst h; exact c

set_option maxRecDepth 100000 in
set_option maxHeartbeats 2000000 in
theorem back_short (a : Option Addr) (cap : Nat) (bs : List Nat) (p : Int) (s n : Nat) (w : World) (hr : Row w a bs) (hl0 : 4 ≤ bs.length) (hl : bs.length ≤ 40) (hn : n < 4294967296) (hp : p % ((bs.length : Int) - 3) = (s : Int)) :
    Calls Try.prog 4 #[.slice a bs.length cap, .int .i64 p, .int .u32 (n : Int)] w fun e w' => e = .returned (.bool true) ∧ Below w.heap.size w w' := by
  have hs4 : s + 4 ≤ bs.length := by
    have := Int.emod_lt_of_pos p (show (0 : Int) < (bs.length : Int) - 3 from by omega)
    omega
  obtain ⟨m, hm⟩ : ∃ m : Nat, n % 65536 = m := ⟨_, rfl⟩
  obtain ⟨h, hh⟩ : ∃ h : Nat, n / 65536 = h := ⟨_, rfl⟩
  have hm1 : m < 65536 := by omega
  have hh1 : h < 65536 := by omega
  have hmc : IntKind.u16.wrap (n : Int) = (m : Int) := by rw [IntKind.wrap_u16]; omega
  have hhc : IntKind.u16.wrap ((n : Int) / 65536) = (h : Int) := by rw [IntKind.wrap_u16]; omega
  have q4 := hide (back4 bs s n hn hs4)
  have q2 := hide (back2 bs s m hm1 (by omega))
  have q42 := hide ((back42 bs s n hn hs4).trans hm)
  have q4h := hide ((back4h bs s n hn hs4).trans hh)
  have l2 := hide (putN_len bs (s : Int) m 2)
  have l4 := hide (putN_len bs (s : Int) n 4)
  have hsm := hr.1
  have s2 := hide (putN_small hsm (s : Int) m 2)
  have s4 := hide (putN_small hsm (s : Int) n 4)
  have HP := hide hp
  have HR := hide hr
  have hl0' : (4 : Int) ≤ (bs.length : Int) := by omega
  have hl' : (bs.length : Int) ≤ 40 := by omega
  clear hm hh hp hr
  go_enter Try.func4, Try.ntmps4
  go_wp2_with fail
  refine (first_calls _).mono ?_
  rintro e w' ⟨rfl, k0, rfl⟩
  go_wp2_with fail
  refine (bytes_calls a cap bs _ (Row.drewN (unhide HR) k0) (by omega)).mono ?_
  rintro e W1 ⟨g1, c1, rfl, ho1, hb1⟩
  have B1 : Below w.heap.size w W1 := bel_onto (bel_drewN (Below.refl w.heap.size w) k0) hb1 (Nat.le_refl _)
  have r1 := hide (Row.below (unhide HR) B1 (Nat.le_refl _))
  have x1 := hide (Owns.row ho1 hsm (by omega))
  clear ho1 hb1
  go_wp2_with fail
  refine (number_calls _ _ _ (by omega) (by omega)).mono ?_
  rintro e w' ⟨rfl, rfl⟩
  rw [unhide HP]
  go_wp2_with fail
  refine (put32_calls a cap bs _ n _ (unhide r1) (by omega) (by omega) (by omega) hn).mono ?_
  rintro e W2 ⟨g2, c2, rfl, ho2, hb2⟩
  have B2 : Below w.heap.size w W2 := bel_onto B1 hb2 (Nat.le_refl _)
  have r2 := hide (Row.below (unhide HR) B2 (Nat.le_refl _))
  have x12 := hide (Row.below (unhide x1) hb2 (Nat.le_refl _))
  have x2 := hide (Owns.row ho2 (unhide s4) (by rw [unhide l4]; omega))
  clear ho2 hb2 x1 r1 B1
  go_wp2_with fail
  refine (put16_calls a cap bs _ m _ (unhide r2) (by omega) (by omega) (by omega) hm1).mono ?_
  rintro e W3 ⟨g3, c3, rfl, ho3, hb3⟩
  have B3 : Below w.heap.size w W3 := bel_onto B2 hb3 (Nat.le_refl _)
  have r3 := hide (Row.below (unhide HR) B3 (Nat.le_refl _))
  have x13 := hide (Row.below (unhide x12) hb3 (Nat.le_refl _))
  have x23 := hide (Row.below (unhide x2) hb3 (Nat.le_refl _))
  have x3 := hide (Owns.row ho3 (unhide s2) (by rw [unhide l2]; omega))
  clear ho3 hb3 x12 x2 r2 B2
  go_wp2_with fail
  refine (same_calls _ _ cap c1 bs _ (unhide r3) (unhide x13)).mono ?_
  rintro e w' ⟨rfl, k1, rfl⟩
  clear x13
  go_wp2
  go_loopw [11] (fun i wr => ∃ k : Nat, k ≤ bs.length ∧ i = .int .i64 k ∧ ∃ z, wr = W3.drewN z) (fun i _ => bs.length - (intOf i).toNat)
  case atStart => exact ⟨0, Nat.zero_le _, rfl, _, rfl⟩
  case round =>
    obtain ⟨k, hk, rfl, z, rfl⟩ := hrel
    by_cases hkl : k < bs.length
    · obtain ⟨_, _, hz | ⟨b, off, rfl, hc⟩⟩ := unhide r3
      · omega
      have d0 := hc k hkl
      have d2 := row_cell (unhide x23) k (by rw [unhide l4]; exact hkl)
      have d3 := row_cell (unhide x3) k (by rw [unhide l2]; exact hkl)
      clear hc
      obtain ⟨x, hx⟩ : ∃ x : Nat, bs.getD k 0 = x := ⟨_, rfl⟩
      by_cases c1 : k < s
      · rw [put_same bs _ n 4 k hkl (by omega), hx] at d2
        rw [put_same bs _ m 2 k hkl (by omega), hx] at d3
        rw [hx] at d0
        clear hx
        have t1 : (k : Int) < (s : Int) := by omega
        go_wp2
        go_quiet (fail)
        go_wp2
        go_roundw
        case rel => exact ⟨k + 1, by omega, by go_num, _, rfl⟩
        case measure => simp [intOf]; omega
      · have f1 : decide ((k : Int) < (s : Int)) = false := by simp; omega
        by_cases c2 : k < s + 2
        · clear d0 d2 d3 hx
          have f2 : decide ((s : Int) + 4 ≤ (k : Int)) = false := by simp; omega
          have f3 : decide ((s : Int) + 2 ≤ (k : Int)) = false := by simp; omega
          go_wp2
          go_quiet (fail)
          go_wp2
          go_roundw
          case rel => exact ⟨k + 1, by omega, by go_num, _, rfl⟩
          case measure => simp [intOf]; omega
        · rw [put_same bs _ m 2 k hkl (by omega), hx] at d3
          rw [hx] at d0
          have t3 : (s : Int) + 2 ≤ (k : Int) := by omega
          by_cases c3 : k < s + 4
          · clear d2 hx
            have f2 : decide ((s : Int) + 4 ≤ (k : Int)) = false := by simp; omega
            go_wp2
            go_quiet (fail)
            go_wp2
            go_roundw
            case rel => exact ⟨k + 1, by omega, by go_num, _, rfl⟩
            case measure => simp [intOf]; omega
          · rw [put_same bs _ n 4 k hkl (by omega), hx] at d2
            clear hx
            have t2 : (s : Int) + 4 ≤ (k : Int) := by omega
            go_wp2
            go_quiet (fail)
            go_wp2
            go_roundw
            case rel => exact ⟨k + 1, by omega, by go_num, _, rfl⟩
            case measure => simp [intOf]; omega
    · go_wp2_with fail
      refine (len_calls (unhide l4) (u32_calls _ c2 (putN bs (s : Int) n 4) (s : Int) _ (Row.drewN (unhide x23) z) (by omega) (by omega))).mono ?_
      rintro e w' ⟨rfl, rfl⟩
      rw [unhide q4]
      go_wp2_with fail
      refine (len_calls (unhide l2) (u16_calls _ c3 (putN bs (s : Int) m 2) (s : Int) _ (Row.drewN (unhide x3) z) (by omega) (by omega))).mono ?_
      rintro e w' ⟨rfl, rfl⟩
      rw [unhide q2]
      go_wp2_with fail
      refine (len_calls (unhide l4) (u16_calls _ c2 (putN bs (s : Int) n 4) (s : Int) _ (Row.drewN (unhide x23) z) (by omega) (by omega))).mono ?_
      rintro e w' ⟨rfl, rfl⟩
      rw [unhide q42]
      go_wp2_with fail
      refine (len_calls (unhide l4) (u16_calls _ c2 (putN bs (s : Int) n 4) ((s : Int) + 2) _ (Row.drewN (unhide x23) z) (by omega) (by omega))).mono ?_
      rintro e w' ⟨rfl, rfl⟩
      rw [unhide q4h]
      go_wp2_with fail
      refine (u32_calls a cap bs _ _ (Row.drewN (unhide r3) z) (by omega) (by omega)).mono ?_
      rintro e w' ⟨rfl, rfl⟩
      rw [numN_out bs _ 4 (by omega)]
      go_wp2_with fail
      refine (u32_calls a cap bs _ _ (Row.drewN (unhide r3) z) (by omega) (by omega)).mono ?_
      rintro e w' ⟨rfl, rfl⟩
      rw [numN_out bs _ 4 (by omega)]
      go_wp2
      go_ret
      exact ⟨rfl, bel_drewN B3 _⟩
set_option maxHeartbeats 400000 in
theorem back_few (a : Option Addr) (len cap : Nat) (p n : Int) (w : World) (hl : len < 4) :
    Calls Try.prog 4 #[.slice a len cap, .int .i64 p, .int .u32 n] w fun e w' => e = .returned (.bool true) ∧ Below w.heap.size w w' := by
  have hl' : (len : Int) < 4 := by omega
  go_enter Try.func4, Try.ntmps4
  go_wp2_with fail
  refine (first_calls _).mono ?_
  rintro e w' ⟨rfl, k0, rfl⟩
  go_wp2
  go_ret
  exact ⟨rfl, bel_drewN (Below.refl _ _) _⟩
set_option maxHeartbeats 400000 in
theorem back_long (a : Option Addr) (len cap : Nat) (p n : Int) (w : World) (hl : 40 < len) :
    Calls Try.prog 4 #[.slice a len cap, .int .i64 p, .int .u32 n] w fun e w' => e = .returned (.bool true) ∧ Below w.heap.size w w' := by
  have hl' : (40 : Int) < (len : Int) := by omega
  have hl2 : decide ((len : Int) < 4) = false := by simp; omega
  go_enter Try.func4, Try.ntmps4
  go_wp2_with fail
  refine (first_calls _).mono ?_
  rintro e w' ⟨rfl, k0, rfl⟩
  go_wp2
  go_ret
  exact ⟨rfl, bel_drewN (Below.refl _ _) _⟩
theorem back_walk (a : Option Addr) (len cap : Nat) (zs : List Int) (p n : Int) (w : World)
    (h : (a = none ∧ len = 0 ∧ cap = 0 ∧ zs = []) ∨ ∃ x, a = some x ∧ len ≤ cap ∧ cap ≤ maxLen ∧ zs.length = cap ∧ (∀ i, i < zs.length → w.cell? (x.add i) = some (.int .u8 (zs.getD i 0))) ∧ ∀ n ∈ zs, (Lit.int .u8 n).wf = true)
    (w2 : (Lit.int .u32 n).wf = true) :
    Calls Try.prog 4 #[.slice a len cap, .int .i64 p, .int .u32 n] w fun e w' => e = .returned (.bool true) ∧ Below w.heap.size w w' := by
  have b2 := bounds_u32 w2
  by_cases h1 : len < 4
  · exact back_few a len cap p n w h1
  · by_cases hl : len ≤ 40
    · obtain ⟨bs, rfl, hr⟩ := row_of h (by omega)
      obtain ⟨n, rfl⟩ := Int.eq_ofNat_of_zero_le b2.1
      obtain ⟨s, hs⟩ := Int.eq_ofNat_of_zero_le (Int.emod_nonneg p (show ((bs.length : Int) - 3) ≠ 0 from by omega))
      exact back_short a cap bs p s n w hr (by omega) hl (by omega) hs
    · exact back_long a len cap p n w (by omega)
end Go.Proofs.Yticfpbhafjjmdaa
