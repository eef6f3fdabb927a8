/- The walk of NotifAgain. -/
import Derived.Test.YtgahekhlbcnmaaaKAgainM13
import Derived.Test.YtgahekhlbcnmaaaKBits13
namespace Go.Proofs.Ytgahekhlbcnmaaa
open Go.RowKit
set_option linter.unusedVariables false
set_option linter.unusedSimpArgs false
set_option maxRecDepth 10000 in
set_option maxHeartbeats 20000000 in
theorem nagain_walk (n0 k0 b0 : Int) (w : World) (_ : (Lit.int .i64 n0).wf = true) (_ : (Lit.int .i64 k0).wf = true) (_ : (Lit.int .u32 b0).wf = true) :
    Calls Try.prog 3 #[.int .i64 n0, .int .i64 k0, .int .u32 b0] w fun e w' => e = .returned (.bool true) ∧ Below w.heap.size w w' := by
  obtain ⟨m, hm⟩ : ∃ m : Nat, n0 % 6 = (m : Int) := ⟨(n0 % 6).toNat, by omega⟩
  have hm6 : m < 6 := by omega
  obtain ⟨n, hn⟩ : ∃ n : Nat, n = m + 2 := ⟨_, rfl⟩
  have hnm : (2 : Int) + (m : Int) = (n : Int) := by omega
  obtain ⟨k, hk⟩ : ∃ k : Nat, k0 % (n : Int) = (k : Int) := ⟨(k0 % (n : Int)).toNat, by have := Int.emod_nonneg k0 (show (n : Int) ≠ 0 by omega); omega⟩
  have hkn : k < n := by have := Int.emod_lt_of_pos k0 (show (0 : Int) < (n : Int) by omega); omega
  have hn8 : n ≤ 7 := by omega
  have hn0 : Hid ((0 : Int) < (n : Int)) := by unfold Hid; omega
  have hn1 : Hid ((n : Int) ≤ 4294967296) := by unfold Hid; omega
  obtain ⟨s, hs⟩ : ∃ s, uor b0 4 = s := ⟨_, rfl⟩
  have hs0 : Hid (s ≠ 0) := by rw [← hs]; exact uor_four b0
  have hsz : Hid (uor 0 s = s) := by rw [← hs]; exact uor_zero b0 4
  have hbs : bits .or .u32 b0 4 = s := hs
  replace hm := hide hm
  replace hk := hide hk
  clear hn hs
  go_enter Try.func3, Try.ntmps3
  go_wp2_with fail
  refine (first_calls _).mono ?_
  rintro e W0 ⟨rfl, K0⟩
  replace K0 := hide K0
  go_wp2_with fail
  refine (number_to _ _ _ _ (by decide) (by decide) (unhide hm)).mono ?_
  rintro e W0' ⟨rfl, hW⟩
  have K0' : Hid (Kp [] w W0') := by rw [hW]; exact unhide K0
  clear hW K0
  go_wp2_with fail
  refine (number_to _ _ _ _ (unhide hn0) (unhide hn1) (unhide hk)).mono ?_
  rintro e W1 ⟨rfl, hW⟩
  have K1 : Hid (Kp [] w W1) := by rw [hW]; exact unhide K0'
  clear hW K0'
  obtain ⟨t, et⟩ : ∃ t, W1.heap.size = t := ⟨_, rfl⟩
  have X0 := hide (NIn.of (unhide K1) et.symm (Kp.refl [] _))
  go_wp2_with fail
  generalize W1.alloc (.cells #[.int .u32 0, .map none, .int .i64 0, .int .i64 0] 31) = W2 at *
  clear K1
  go_loopg [9] n (fun m i wr => ∃ j : Nat, j ≤ n ∧ m = n - j ∧ i = .int .i64 j ∧ NIn w t 0 (wl j) wr)
  case atStart => exact ⟨0, Nat.zero_le _, by omega, rfl, unhide X0⟩
  case round =>
    obtain ⟨j, hj, rfl, rfl, hX⟩ := hrel
    clear X0
    by_cases hlt : j < n
    · have b1 : (j : Int) < (n : Int) := by omega
      have hi : Hid (IdIn (1, (j : Int))) := idIn_of (by decide) (by omega)
      have hls : Hid ((wl j).length < 65536) := by unfold Hid; rw [wl_len]; omega
      have hp := hide (wl_push j)
      replace hX := hide hX
      go_wp2_with fail
      refine (nwait_no (unhide hX) (unhide hi) (unhide hls) (unhide hp)).mono ?_
      rintro e W3 ⟨rfl, X3, _⟩
      replace X3 := hide X3
      clear hX
      go_wp2
      go_roundg (n - (j + 1))
      case measure => omega
      case rel => exact ⟨j + 1, by omega, rfl, by go_num, unhide X3⟩
    · have b1 : decide ((j : Int) < (n : Int)) = false := decide_eq_false (by omega)
      have ej : n = j := by omega
      subst ej
      have hi : Hid (IdIn (1, (k : Int))) := idIn_of (by decide) (by omega)
      have hls : Hid ((wl n).length < 65536) := by unfold Hid; rw [wl_len]; omega
      have hp := hide (wl_there hkn)
      replace hX := hide hX
      go_wp2_with fail
      refine (nwait_no (unhide hX) (unhide hi) (unhide hls) (unhide hp)).mono ?_
      rintro e W3 ⟨rfl, X3, _⟩
      replace X3 := hide X3
      clear hX hp
      go_wp2_with fail
      refine (nwaits (unhide X3)).mono ?_
      rintro e W4 ⟨v4, rfl, R4, K4⟩
      obtain ⟨a4, c4, rfl⟩ := R4.form
      have X4 := hide ((unhide X3).grew K4)
      clear X3 K4 R4
      rw [wl_len]
      go_wp2_with fail
      go_loopg [12] n (fun m i wx => ∃ j : Nat, j ≤ n ∧ m = n - j ∧ i = .int .i64 j ∧ NIn w t 0 ((wl n).drop j) wx)
      case atStart => exact ⟨0, Nat.zero_le _, by omega, rfl, unhide X4⟩
      case round =>
        obtain ⟨j, hj', rfl, rfl, hX⟩ := hrel
        clear X4
        by_cases hlt' : j < n
        · have b2 : (j : Int) < (n : Int) := by omega
          obtain ⟨s1, s2, s3, s4, s5⟩ := sig_at (wl_get hlt') (unhide hsz) (unhide hs0)
          replace s1 := hide s1
          replace s2 := hide s2
          replace s3 := hide s3
          replace s4 := hide s4
          replace s5 := hide s5
          replace hX := hide hX
          go_wp2_with fail
          refine (nsignal (unhide hX) (unhide s1) (unhide s2) (unhide s3) (unhide s4) (unhide s5)).mono ?_
          rintro e W5 ⟨rfl, X5, _⟩
          have X6 := hide (X5.grew ((Kp.refl [] W5).alloc (.cells #[.int .i64 1, .int .i64 (j : Int)] 27)))
          clear X5 hX
          have D := Bk.new W5 27 [.int .i64 1, .int .i64 (j : Int)]
          have d0 := D.cell (i := 0) rfl
          have d1 := D.cell (i := 1) rfl
          clear D
          go_wp2_with fail
          clear d0 d1
          generalize W5.alloc (.cells #[.int .i64 1, .int .i64 (j : Int)] 27) = W6 at *
          refine (nword (unhide X6)).mono ?_
          rintro e W7 ⟨rfl, K7⟩
          have X7 := hide ((unhide X6).grew K7)
          clear X6 K7
          go_wp2
          go_roundg (n - (j + 1))
          case measure => omega
          case rel => exact ⟨j + 1, by omega, rfl, by go_num, unhide X7⟩
        · have b2 : decide ((j : Int) < (n : Int)) = false := decide_eq_false (by omega)
          rw [List.drop_eq_nil_of_le (by rw [wl_len]; omega)] at hX
          have hs0' := unhide hs0
          have b3 := wz_no hs0'
          replace hX := hide hX
          clear hs0'
          go_wp2_with fail
          refine (nsig_none (unhide hX) (unhide hsz)).mono ?_
          rintro e W5 ⟨rfl, X5, _⟩
          have X6 := hide (X5.grew ((Kp.refl [] W5).alloc (.cells #[.int .i64 0, .int .i64 0] 27)))
          clear X5 hX
          go_wp2_with fail
          generalize W5.alloc (.cells #[.int .i64 0, .int .i64 0] 27) = W6 at *
          refine (nwait_yes (unhide X6) 1 50 (unhide hs0)).mono ?_
          rintro e W7 ⟨rfl, X7, _⟩
          replace X7 := hide X7
          clear X6
          have hi51 : Hid (IdIn (1, 51)) := idIn_of (by decide) (by decide)
          go_wp2_with fail
          refine (nwait_no (unhide X7) (unhide hi51) (by decide) rfl).mono ?_
          rintro e W8 ⟨rfl, X8, _⟩
          replace X8 := hide X8
          clear X7
          go_wp2
          go_ret
          exact ⟨rfl, (unhide X8).kp.below (Nat.le_refl _) (by simp)⟩
end Go.Proofs.Ytgahekhlbcnmaaa
