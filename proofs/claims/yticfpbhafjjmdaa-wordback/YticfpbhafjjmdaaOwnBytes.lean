/- The walk of WordBytes. -/
import Derived.Test.YticfpbhafjjmdaaOwnSays
namespace Go.Proofs.Yticfpbhafjjmdaa
open Go.RowKit
set_option linter.unusedVariables false
theorem num_low (bs : List Nat) (p : Int) : numN bs p 4 % 65536 = numN bs p 2 ∨ ¬ Small bs := by
  by_cases h : Small bs
  · left
    have h2 := num2_lt h p
    rw [numN_snoc bs p 3, numN_snoc bs p 2]
    omega
  · exact .inr h
set_option maxRecDepth 100000 in
set_option maxHeartbeats 2000000 in
theorem bytes_short (a : Option Addr) (cap : Nat) (bs : List Nat) (n : Nat) (w : World) (hr : Row w a bs) (hl : bs.length ≤ 10) (hn : n < 4294967296) :
    Calls Try.prog 7 #[.slice a bs.length cap, .int .u32 (n : Int)] w fun e w' => e = .returned (.bool true) ∧ Below w.heap.size w w' := by
  have hsm := hr.1
  have HR := hide hr
  clear hr
  have hl' : (bs.length : Int) ≤ 10 := by omega
  go_enter Try.func7, Try.ntmps7
  go_wp2_with fail
  refine (first_calls _).mono ?_
  rintro e w' ⟨rfl, k0, rfl⟩
  go_wp2
  go_loopw [6] (fun i wr => ∃ q : Int, -6 ≤ q ∧ q ≤ (bs.length : Int) + 3 ∧ i = .int .i64 q ∧ Below w.heap.size w wr) (fun i _ => ((bs.length : Int) + 3 - intOf i).toNat)
  case atStart => exact ⟨-6, by omega, by omega, rfl, bel_drewN (Below.refl _ _) _⟩
  case round =>
    obtain ⟨q, hq0, hq1, rfl, hbr⟩ := hrel
    by_cases hlt : q ≤ (bs.length : Int) + 2
    · have hrr := hide (Row.below (unhide HR) hbr (Nat.le_refl _))
      go_wp2
      go_loop [7, 8] (fun u i => ∃ j : Int, -1 ≤ j ∧ j < 4 ∧ i = .int .i64 j ∧ u = .int .u32 ((numN bs (q + j + 1) (4 - (j + 1).toNat) : Nat) : Int)) (fun _ i => (intOf i + 1).toNat)
      case atStart => exact ⟨3, by omega, by omega, rfl, rfl⟩
      case round =>
        obtain ⟨j, hj0, hj1, rfl, rfl⟩ := hrel
        by_cases hjl : 0 ≤ j
        · have HS := hide (show 4 - (j - 1 + 1).toNat = 4 - (j + 1).toNat + 1 from by omega)
          have HQ := hide (show q + (j - 1) + 1 = q + j from by omega)
          have hsz : 4 - (j + 1).toNat < 4 := by omega
          by_cases hin : 0 ≤ q + j ∧ q + j < (bs.length : Int)
          · obtain ⟨hi0, hi1⟩ := hin
            obtain ⟨_, _, hz | ⟨b, off, rfl, hc⟩⟩ := unhide hrr
            · omega
            have hcell := hc (q + j).toNat (by omega)
            have hx := byteAt_in bs (q + j).toNat
            rw [← hx, Int.toNat_of_nonneg hi0] at hcell
            clear hx hc
            have hx := byteAt_lt hsm (q + j)
            obtain ⟨x, hxe⟩ : ∃ x : Nat, byteAt bs (q + j) = x := ⟨_, rfl⟩
            rw [hxe] at hcell hx
            have HX := hide hxe
            clear hxe
            go_wp2
            go_round
            case rel =>
              refine ⟨j - 1, by omega, by omega, rfl, ?_⟩
              rw [unhide HS, unhide HQ]
              rw [num_horner hsm (q + j) _ x hsz (unhide HX)]
            case measure => simp [intOf]; omega
          · have HZ := hide (byteAt_out bs (q + j) hin)
            by_cases g1 : 0 ≤ q + j
            · have g2 : decide (q + j < (bs.length : Int)) = false := by simp; omega
              go_wp2
              go_round
              case rel =>
                refine ⟨j - 1, by omega, by omega, rfl, ?_⟩
                rw [unhide HS, unhide HQ]
                rw [num_shift hsm (q + j) _ hsz (unhide HZ)]
              case measure => simp [intOf]; omega
            · have g2 : decide (0 ≤ q + j) = false := by simp; omega
              go_wp2
              go_round
              case rel =>
                refine ⟨j - 1, by omega, by omega, rfl, ?_⟩
                rw [unhide HS, unhide HQ]
                rw [num_shift hsm (q + j) _ hsz (unhide HZ)]
              case measure => simp [intOf]; omega
        · have e : j = -1 := by omega
          subst e
          have e4 : numN bs (q + -1 + 1) (4 - ((-1 : Int) + 1).toNat) = numN bs q 4 := by rw [show q + -1 + 1 = q from by omega]; rfl
          rw [e4]
          clear e4 hj0 hj1 hjl
          go_wp2_with fail
          refine (put32_calls a cap bs q n _ (unhide hrr) (by omega) (by omega) (by omega) hn).mono ?_
          rintro e W1 ⟨g1, c1, rfl, ho1, hb1⟩
          have B1 : Below w.heap.size w W1 := bel_onto hbr hb1 (Nat.le_refl _)
          have r1 := hide (Row.below (unhide HR) B1 (Nat.le_refl _))
          have x1 := hide (Owns.row ho1 (putN_small hsm q n 4) (by rw [putN_len]; omega))
          clear ho1 hb1
          have hm : IntKind.u16.wrap ((numN bs q 4 : Nat) : Int) = ((numN bs q 2 : Nat) : Int) := by
            rw [IntKind.wrap_u16]
            rcases num_low bs q with h | h
            · rw [← h]; omega
            · exact absurd hsm h
          go_wp2_with fail
          refine (u32_calls a cap bs q _ (unhide r1) (by omega) (by omega)).mono ?_
          rintro e w' ⟨rfl, rfl⟩
          go_wp2_with fail
          refine (u16_calls a cap bs q _ (unhide r1) (by omega) (by omega)).mono ?_
          rintro e w' ⟨rfl, rfl⟩
          go_wp2
          clear hm
          go_loop [10] (fun i => ∃ k : Nat, k ≤ bs.length ∧ i = .int .i64 k) (fun i => bs.length - (intOf i).toNat)
          case atStart => exact ⟨0, Nat.zero_le _, rfl⟩
          case round =>
            obtain ⟨k, hk, rfl⟩ := hrel
            by_cases hkl : k < bs.length
            · obtain ⟨_, _, hz | ⟨b, off, rfl, hc⟩⟩ := unhide r1
              · omega
              obtain ⟨_, _, hz | ⟨b2, off2, he2, hc2⟩⟩ := unhide x1
              · rw [putN_len] at hz; omega
              cases he2
              have hcell := hc k hkl
              have hcell2 := hc2 k (by rw [putN_len]; exact hkl)
              rw [putN_get bs q n 4 k hkl, Nat.zero_add] at hcell2
              clear hc hc2
              by_cases hin : q ≤ k ∧ (k : Int) < q + 4
              · rw [show q + ((4 : Nat) : Int) = q + 4 from rfl, if_pos hin] at hcell2
                obtain ⟨hi0, hi1⟩ := hin
                obtain ⟨y, hy⟩ : ∃ y : Nat, n / 2 ^ (8 * ((k : Int) - q).toNat) % 256 = y := ⟨_, rfl⟩
                rw [hy] at hcell2
                have he : (n : Int) / 2 ^ (8 * ((k : Int) - q)).toNat % 256 = (y : Int) := by
                  rw [show (8 * ((k : Int) - q)).toNat = 8 * ((k : Int) - q).toNat from by omega, ← byte_cast, hy]
                clear hy
                go_wp2
                go_round
                case rel => exact ⟨k + 1, by omega, by go_num⟩
                case measure => simp [intOf]; omega
              · rw [show q + ((4 : Nat) : Int) = q + 4 from rfl, if_neg hin] at hcell2
                obtain ⟨x, hx⟩ : ∃ x : Nat, bs.getD k 0 = x := ⟨_, rfl⟩
                rw [hx] at hcell hcell2
                clear hx
                by_cases g1 : q ≤ k
                · have g2 : decide ((k : Int) < q + 4) = false := by simp; omega
                  clear hin
                  go_wp2
                  go_round
                  case rel => exact ⟨k + 1, by omega, by go_num⟩
                  case measure => simp [intOf]; omega
                · have g2 : decide (q ≤ (k : Int)) = false := by simp; omega
                  clear hin
                  go_wp2
                  go_round
                  case rel => exact ⟨k + 1, by omega, by go_num⟩
                  case measure => simp [intOf]; omega
            · go_wp2
              go_roundw
              case rel => exact ⟨q + 1, by omega, by omega, rfl, B1⟩
              case measure => simp [intOf]; omega
    · have g : decide (q ≤ (bs.length : Int) + 2) = false := by simp; omega
      have hrr := hide (Row.below (unhide HR) hbr (Nat.le_refl _))
      clear hlt
      go_wp2_with fail
      refine (put32_calls a cap bs _ n _ (unhide hrr) (by omega) (by omega) (by omega) hn).mono ?_
      rintro e W1 ⟨g1, c1, rfl, ho1, hb1⟩
      have B1 : Below w.heap.size w W1 := bel_onto hbr hb1 (Nat.le_refl _)
      have r1 := hide (Row.below (unhide HR) B1 (Nat.le_refl _))
      rw [putN_out bs _ n 4 (by omega)] at ho1
      have x1 := hide (Owns.row ho1 hsm (by omega))
      clear ho1 hb1
      go_wp2_with fail
      refine (same_calls _ _ c1 cap bs _ (unhide x1) (unhide r1)).mono ?_
      rintro e w' ⟨rfl, k1, rfl⟩
      clear x1
      go_wp2_with fail
      refine (put16_calls a cap bs _ 7 _ (Row.drewN (unhide r1) k1) (by omega) (by omega) (by omega) (by omega)).mono ?_
      rintro e W2 ⟨g2, c2, rfl, ho2, hb2⟩
      have B2 : Below w.heap.size w W2 := bel_onto (bel_drewN B1 k1) hb2 (Nat.le_refl _)
      have r2 := hide (Row.below (unhide HR) B2 (Nat.le_refl _))
      rw [putN_out bs _ 7 2 (by omega)] at ho2
      have x2 := hide (Owns.row ho2 hsm (by omega))
      clear ho2 hb2
      go_wp2_with fail
      refine (same_calls _ _ c2 cap bs _ (unhide x2) (unhide r2)).mono ?_
      rintro e w' ⟨rfl, k2, rfl⟩
      go_wp2_with fail
      refine (u32_calls a cap bs _ _ (Row.drewN (unhide r2) k2) (by omega) (by omega)).mono ?_
      rintro e w' ⟨rfl, rfl⟩
      rw [numN_out bs _ 4 (by omega)]
      go_wp2
      go_ret
      exact ⟨rfl, bel_drewN B2 _⟩
set_option maxHeartbeats 400000 in
theorem bytes_long (a : Option Addr) (len cap : Nat) (n : Int) (w : World) (hl : 10 < len) :
    Calls Try.prog 7 #[.slice a len cap, .int .u32 n] w fun e w' => e = .returned (.bool true) ∧ Below w.heap.size w w' := by
  have hl' : (10 : Int) < (len : Int) := by omega
  go_enter Try.func7, Try.ntmps7
  go_wp2_with fail
  refine (first_calls _).mono ?_
  rintro e w' ⟨rfl, k0, rfl⟩
  go_wp2
  go_ret
  exact ⟨rfl, bel_drewN (Below.refl _ _) _⟩
theorem bytes_walk (a : Option Addr) (len cap : Nat) (zs : List Int) (n : Int) (w : World)
    (h : (a = none ∧ len = 0 ∧ cap = 0 ∧ zs = []) ∨ ∃ x, a = some x ∧ len ≤ cap ∧ cap ≤ maxLen ∧ zs.length = cap ∧ (∀ i, i < zs.length → w.cell? (x.add i) = some (.int .u8 (zs.getD i 0))) ∧ ∀ n ∈ zs, (Lit.int .u8 n).wf = true)
    (w1 : (Lit.int .u32 n).wf = true) :
    Calls Try.prog 7 #[.slice a len cap, .int .u32 n] w fun e w' => e = .returned (.bool true) ∧ Below w.heap.size w w' := by
  have b1 := bounds_u32 w1
  by_cases hl : len ≤ 10
  · obtain ⟨bs, rfl, hr⟩ := row_of h (by omega)
    obtain ⟨n, rfl⟩ := Int.eq_ofNat_of_zero_le b1.1
    exact bytes_short a cap bs n w hr hl (by omega)
  · exact bytes_long a len cap n w (by omega)
end Go.Proofs.Yticfpbhafjjmdaa
