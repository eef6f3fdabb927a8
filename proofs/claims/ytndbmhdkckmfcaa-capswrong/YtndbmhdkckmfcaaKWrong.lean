/- The walk of CapsWrong. -/
import Derived.Test.YtndbmhdkckmfcaaKLaw3
import Derived.Test.YtndbmhdkckmfcaaKRef
namespace Go.Proofs.Ytndbmhdkckmfcaa
open Go.RowKit
set_option linter.unusedVariables false
def goodL : List Value := [.int .i64 1, .int .i64 3, .int .i64 5, .int .i64 0, .int .i64 0, .int .i64 2, .int .i64 3, .int .i64 2, .int .i64 3, .int .i64 0, .int .i64 4, .int .i64 3, .int .i64 0, .int .i64 9, .int .i64 0, .int .i64 3, .int .i64 64, .int .i64 0, .int .i64 0, .int .i64 7]
def badL (M : Int) : List Value := [.int .i64 0, .int .i64 3, .int .i64 0, .int .i64 0, .int .i64 0, .int .i64 (9 + M), .int .i64 3, .int .i64 0, .int .i64 0, .int .i64 0, .int .i64 3, .int .i64 0, .int .i64 0, .int .i64 0, .int .i64 0, .int .i64 3, .int .i64 (64 + M), .int .i64 0, .int .i64 0, .int .i64 0, .int .i64 3, .int .i64 3, .int .i64 0, .int .i64 0, .int .i64 (7 + M), .int .i64 3, .int .i64 3, .int .i64 0, .int .i64 0, .int .i64 (-M), .int .i64 3, .int .i64 3, .int .i64 M, .int .i64 0, .int .i64 0, .int .i64 3, .int .i64 3, .int .i64 0, .int .i64 M, .int .i64 0, .int .i64 1, .int .i64 3, .int .i64 0, .int .i64 0, .int .i64 0, .int .i64 1, .int .i64 3, .int .i64 (62 + M), .int .i64 0, .int .i64 0, .int .i64 1, .int .i64 3, .int .i64 1, .int .i64 M, .int .i64 0, .int .i64 2, .int .i64 3, .int .i64 (8 + M), .int .i64 0, .int .i64 0, .int .i64 2, .int .i64 3, .int .i64 2, .int .i64 (3 + M), .int .i64 0, .int .i64 5, .int .i64 3, .int .i64 0, .int .i64 (-M), .int .i64 0, .int .i64 5, .int .i64 3, .int .i64 M, .int .i64 0, .int .i64 0]
def Wr (w : World) (g h : Nat) (M : Int) (wx : World) : Prop := Bk wx g 23 goodL ∧ Bk wx h 23 (badL M) ∧ Kp [] w wx
theorem Wr.kept {w wx wy : World} {g h : Nat} {M : Int} (H : Wr w g h M wx) (k : Kp [] wx wy) : Wr w g h M wy := ⟨H.1.kept k (by simp), H.2.1.kept k (by simp), H.2.2.then k⟩
theorem Wr.start {w w' : World} {a b : Array Value} (M : Int) (k : Kp [] w w') (ha : a.toList = goodL) (hb : b.toList = badL M) : Wr w w'.heap.size (w'.heap.size + 1) M ((w'.alloc (.cells a 23)).alloc (.cells b 23)) :=
  ⟨by rw [← ha]; exact (Bk.newA w' _ a).alloc _, by
    have := Bk.newA (w'.alloc (.cells a 23)) 23 b
    rw [hb] at this
    simpa using this, (k.alloc _).alloc _⟩
set_option maxHeartbeats 1000000 in
theorem wrong_walk (which n : Int) (w : World) (_ : (Lit.int .i64 which).wf = true) (_ : (Lit.int .i64 n).wf = true) :
    Calls Try.prog 6 #[.int .i64 which, .int .i64 n] w fun e w' => e = .returned (.bool true) ∧ Below w.heap.size w w' := by
  obtain ⟨m, hm⟩ : ∃ x, n % 1000 = x := ⟨_, rfl⟩
  obtain ⟨j, hj⟩ : ∃ x, which % 15 = x := ⟨_, rfl⟩
  have m1 : 0 ≤ m ∧ m < 1000 := by omega
  have j1 : 0 ≤ j ∧ j < 15 := by omega
  replace hm := hide hm
  replace hj := hide hj
  obtain ⟨M, hM⟩ : ∃ A, m + 1 = A := ⟨_, rfl⟩
  go_enter Try.func6, Try.ntmps6
  go_wp2_with fail
  refine (first_calls _).mono ?_
  rintro e W0 ⟨rfl, K0⟩
  replace K0 := hide K0
  go_wp2_with fail
  refine (number_to _ _ _ _ (by omega) (by omega) (unhide hm)).mono ?_
  rintro e w' ⟨rfl, rfl⟩
  go_wp2_with fail
  go_loopw [8] (fun i wx => ∃ k : Nat, k ≤ 4 ∧ i = .int .i64 k ∧ Wr w w'.heap.size (w'.heap.size + 1) M wx) (fun i _ => (4 - intOf i).toNat)
  case atStart => exact ⟨0, by omega, rfl, Wr.start M (unhide K0) rfl rfl⟩
  case round =>
    obtain ⟨k, hk, rfl, hW⟩ := hrel
    have hcase : k = 0 ∨ k = 1 ∨ k = 2 ∨ k = 3 ∨ k = 4 := by omega
    rcases hcase with rfl | rfl | rfl | rfl | rfl
    · have c0 := hW.1.cell (i := 0) rfl
      have c1 := hW.1.cell (i := 1) rfl
      have c2 := hW.1.cell (i := 2) rfl
      have c3 := hW.1.cell (i := 3) rfl
      have c4 := hW.1.cell (i := 4) rfl
      replace hW := hide hW
      go_wp2_with fail
      refine (check_to 1 3 5 0 0 true _ (by decide)).mono ?_
      rintro e W1 ⟨rfl, K1⟩
      replace hW := hide ((unhide hW).kept K1)
      clear K1 c0 c1 c2 c3 c4
      go_wp2
      go_roundw
      case rel => exact ⟨1, by omega, by go_num, unhide hW⟩
      case measure => simp [intOf]
    · have c0 := hW.1.cell (i := 5) rfl
      have c1 := hW.1.cell (i := 6) rfl
      have c2 := hW.1.cell (i := 7) rfl
      have c3 := hW.1.cell (i := 8) rfl
      have c4 := hW.1.cell (i := 9) rfl
      replace hW := hide hW
      go_wp2_with fail
      refine (check_to 2 3 2 3 0 true _ (by decide)).mono ?_
      rintro e W1 ⟨rfl, K1⟩
      replace hW := hide ((unhide hW).kept K1)
      clear K1 c0 c1 c2 c3 c4
      go_wp2
      go_roundw
      case rel => exact ⟨2, by omega, by go_num, unhide hW⟩
      case measure => simp [intOf]
    · have c0 := hW.1.cell (i := 10) rfl
      have c1 := hW.1.cell (i := 11) rfl
      have c2 := hW.1.cell (i := 12) rfl
      have c3 := hW.1.cell (i := 13) rfl
      have c4 := hW.1.cell (i := 14) rfl
      replace hW := hide hW
      go_wp2_with fail
      refine (check_to 4 3 0 9 0 true _ (by decide)).mono ?_
      rintro e W1 ⟨rfl, K1⟩
      replace hW := hide ((unhide hW).kept K1)
      clear K1 c0 c1 c2 c3 c4
      go_wp2
      go_roundw
      case rel => exact ⟨3, by omega, by go_num, unhide hW⟩
      case measure => simp [intOf]
    · have c0 := hW.1.cell (i := 15) rfl
      have c1 := hW.1.cell (i := 16) rfl
      have c2 := hW.1.cell (i := 17) rfl
      have c3 := hW.1.cell (i := 18) rfl
      have c4 := hW.1.cell (i := 19) rfl
      replace hW := hide hW
      go_wp2_with fail
      refine (check_to 3 64 0 0 7 true _ (by decide)).mono ?_
      rintro e W1 ⟨rfl, K1⟩
      replace hW := hide ((unhide hW).kept K1)
      clear K1 c0 c1 c2 c3 c4
      go_wp2
      go_roundw
      case rel => exact ⟨4, by omega, by go_num, unhide hW⟩
      case measure => simp [intOf]
    · replace hW := hide hW
      go_wp2_with fail
      refine (number_to _ _ _ _ (by omega) (by omega) (unhide hj)).mono ?_
      rintro e w' ⟨rfl, rfl⟩
      have hcase : j = 0 ∨ j = 1 ∨ j = 2 ∨ j = 3 ∨ j = 4 ∨ j = 5 ∨ j = 6 ∨ j = 7 ∨ j = 8 ∨ j = 9 ∨ j = 10 ∨ j = 11 ∨ j = 12 ∨ j = 13 ∨ j = 14 := by omega
      rcases hcase with rfl | rfl | rfl | rfl | rfl | rfl | rfl | rfl | rfl | rfl | rfl | rfl | rfl | rfl | rfl
      · have c0 := (unhide hW).2.1.cell (i := 0) rfl
        have c1 := (unhide hW).2.1.cell (i := 1) rfl
        have c2 := (unhide hW).2.1.cell (i := 2) rfl
        have c3 := (unhide hW).2.1.cell (i := 3) rfl
        have c4 := (unhide hW).2.1.cell (i := 4) rfl
        go_wp2_with fail
        refine (check_to 0 3 0 0 0 false _ (chk_no (by simp [chkP, fitP]; try omega))).mono ?_
        rintro e W2 ⟨rfl, K2⟩
        go_wp2
        go_ret
        exact ⟨rfl, ((unhide hW).2.2.then K2).below (Nat.le_refl _) (by simp)⟩
      · have c0 := (unhide hW).2.1.cell (i := 5) rfl
        have c1 := (unhide hW).2.1.cell (i := 6) rfl
        have c2 := (unhide hW).2.1.cell (i := 7) rfl
        have c3 := (unhide hW).2.1.cell (i := 8) rfl
        have c4 := (unhide hW).2.1.cell (i := 9) rfl
        go_wp2_with fail
        refine (check_to (9 + M) 3 0 0 0 false _ (chk_no (by simp [chkP, fitP]; try omega))).mono ?_
        rintro e W2 ⟨rfl, K2⟩
        go_wp2
        go_ret
        exact ⟨rfl, ((unhide hW).2.2.then K2).below (Nat.le_refl _) (by simp)⟩
      · have c0 := (unhide hW).2.1.cell (i := 10) rfl
        have c1 := (unhide hW).2.1.cell (i := 11) rfl
        have c2 := (unhide hW).2.1.cell (i := 12) rfl
        have c3 := (unhide hW).2.1.cell (i := 13) rfl
        have c4 := (unhide hW).2.1.cell (i := 14) rfl
        go_wp2_with fail
        refine (check_to 3 0 0 0 0 false _ (chk_no (by simp [chkP, fitP]; try omega))).mono ?_
        rintro e W2 ⟨rfl, K2⟩
        go_wp2
        go_ret
        exact ⟨rfl, ((unhide hW).2.2.then K2).below (Nat.le_refl _) (by simp)⟩
      · have c0 := (unhide hW).2.1.cell (i := 15) rfl
        have c1 := (unhide hW).2.1.cell (i := 16) rfl
        have c2 := (unhide hW).2.1.cell (i := 17) rfl
        have c3 := (unhide hW).2.1.cell (i := 18) rfl
        have c4 := (unhide hW).2.1.cell (i := 19) rfl
        go_wp2_with fail
        refine (check_to 3 (64 + M) 0 0 0 false _ (chk_no (by simp [chkP, fitP]; try omega))).mono ?_
        rintro e W2 ⟨rfl, K2⟩
        go_wp2
        go_ret
        exact ⟨rfl, ((unhide hW).2.2.then K2).below (Nat.le_refl _) (by simp)⟩
      · have c0 := (unhide hW).2.1.cell (i := 20) rfl
        have c1 := (unhide hW).2.1.cell (i := 21) rfl
        have c2 := (unhide hW).2.1.cell (i := 22) rfl
        have c3 := (unhide hW).2.1.cell (i := 23) rfl
        have c4 := (unhide hW).2.1.cell (i := 24) rfl
        go_wp2_with fail
        refine (check_to 3 3 0 0 (7 + M) false _ (chk_no (by simp [chkP, fitP]; try omega))).mono ?_
        rintro e W2 ⟨rfl, K2⟩
        go_wp2
        go_ret
        exact ⟨rfl, ((unhide hW).2.2.then K2).below (Nat.le_refl _) (by simp)⟩
      · have c0 := (unhide hW).2.1.cell (i := 25) rfl
        have c1 := (unhide hW).2.1.cell (i := 26) rfl
        have c2 := (unhide hW).2.1.cell (i := 27) rfl
        have c3 := (unhide hW).2.1.cell (i := 28) rfl
        have c4 := (unhide hW).2.1.cell (i := 29) rfl
        go_wp2_with fail
        refine (check_to 3 3 0 0 (-M) false _ (chk_no (by simp [chkP, fitP]; try omega))).mono ?_
        rintro e W2 ⟨rfl, K2⟩
        go_wp2
        go_ret
        exact ⟨rfl, ((unhide hW).2.2.then K2).below (Nat.le_refl _) (by simp)⟩
      · have c0 := (unhide hW).2.1.cell (i := 30) rfl
        have c1 := (unhide hW).2.1.cell (i := 31) rfl
        have c2 := (unhide hW).2.1.cell (i := 32) rfl
        have c3 := (unhide hW).2.1.cell (i := 33) rfl
        have c4 := (unhide hW).2.1.cell (i := 34) rfl
        go_wp2_with fail
        refine (check_to 3 3 M 0 0 false _ (chk_no (by simp [chkP, fitP]; try omega))).mono ?_
        rintro e W2 ⟨rfl, K2⟩
        go_wp2
        go_ret
        exact ⟨rfl, ((unhide hW).2.2.then K2).below (Nat.le_refl _) (by simp)⟩
      · have c0 := (unhide hW).2.1.cell (i := 35) rfl
        have c1 := (unhide hW).2.1.cell (i := 36) rfl
        have c2 := (unhide hW).2.1.cell (i := 37) rfl
        have c3 := (unhide hW).2.1.cell (i := 38) rfl
        have c4 := (unhide hW).2.1.cell (i := 39) rfl
        go_wp2_with fail
        refine (check_to 3 3 0 M 0 false _ (chk_no (by simp [chkP, fitP]; try omega))).mono ?_
        rintro e W2 ⟨rfl, K2⟩
        go_wp2
        go_ret
        exact ⟨rfl, ((unhide hW).2.2.then K2).below (Nat.le_refl _) (by simp)⟩
      · have c0 := (unhide hW).2.1.cell (i := 40) rfl
        have c1 := (unhide hW).2.1.cell (i := 41) rfl
        have c2 := (unhide hW).2.1.cell (i := 42) rfl
        have c3 := (unhide hW).2.1.cell (i := 43) rfl
        have c4 := (unhide hW).2.1.cell (i := 44) rfl
        go_wp2_with fail
        refine (check_to 1 3 0 0 0 false _ (chk_no (by simp [chkP, fitP]; try omega))).mono ?_
        rintro e W2 ⟨rfl, K2⟩
        go_wp2
        go_ret
        exact ⟨rfl, ((unhide hW).2.2.then K2).below (Nat.le_refl _) (by simp)⟩
      · have c0 := (unhide hW).2.1.cell (i := 45) rfl
        have c1 := (unhide hW).2.1.cell (i := 46) rfl
        have c2 := (unhide hW).2.1.cell (i := 47) rfl
        have c3 := (unhide hW).2.1.cell (i := 48) rfl
        have c4 := (unhide hW).2.1.cell (i := 49) rfl
        go_wp2_with fail
        refine (check_to 1 3 (62 + M) 0 0 false _ (chk_no (by simp [chkP, fitP]; try omega))).mono ?_
        rintro e W2 ⟨rfl, K2⟩
        go_wp2
        go_ret
        exact ⟨rfl, ((unhide hW).2.2.then K2).below (Nat.le_refl _) (by simp)⟩
      · have c0 := (unhide hW).2.1.cell (i := 50) rfl
        have c1 := (unhide hW).2.1.cell (i := 51) rfl
        have c2 := (unhide hW).2.1.cell (i := 52) rfl
        have c3 := (unhide hW).2.1.cell (i := 53) rfl
        have c4 := (unhide hW).2.1.cell (i := 54) rfl
        go_wp2_with fail
        refine (check_to 1 3 1 M 0 false _ (chk_no (by simp [chkP, fitP]; try omega))).mono ?_
        rintro e W2 ⟨rfl, K2⟩
        go_wp2
        go_ret
        exact ⟨rfl, ((unhide hW).2.2.then K2).below (Nat.le_refl _) (by simp)⟩
      · have c0 := (unhide hW).2.1.cell (i := 55) rfl
        have c1 := (unhide hW).2.1.cell (i := 56) rfl
        have c2 := (unhide hW).2.1.cell (i := 57) rfl
        have c3 := (unhide hW).2.1.cell (i := 58) rfl
        have c4 := (unhide hW).2.1.cell (i := 59) rfl
        go_wp2_with fail
        refine (check_to 2 3 (8 + M) 0 0 false _ (chk_no (by simp [chkP, fitP]; try omega))).mono ?_
        rintro e W2 ⟨rfl, K2⟩
        go_wp2
        go_ret
        exact ⟨rfl, ((unhide hW).2.2.then K2).below (Nat.le_refl _) (by simp)⟩
      · have c0 := (unhide hW).2.1.cell (i := 60) rfl
        have c1 := (unhide hW).2.1.cell (i := 61) rfl
        have c2 := (unhide hW).2.1.cell (i := 62) rfl
        have c3 := (unhide hW).2.1.cell (i := 63) rfl
        have c4 := (unhide hW).2.1.cell (i := 64) rfl
        go_wp2_with fail
        refine (check_to 2 3 2 (3 + M) 0 false _ (chk_no (by simp [chkP, fitP]; try omega))).mono ?_
        rintro e W2 ⟨rfl, K2⟩
        go_wp2
        go_ret
        exact ⟨rfl, ((unhide hW).2.2.then K2).below (Nat.le_refl _) (by simp)⟩
      · have c0 := (unhide hW).2.1.cell (i := 65) rfl
        have c1 := (unhide hW).2.1.cell (i := 66) rfl
        have c2 := (unhide hW).2.1.cell (i := 67) rfl
        have c3 := (unhide hW).2.1.cell (i := 68) rfl
        have c4 := (unhide hW).2.1.cell (i := 69) rfl
        go_wp2_with fail
        refine (check_to 5 3 0 (-M) 0 false _ (chk_no (by simp [chkP, fitP]; try omega))).mono ?_
        rintro e W2 ⟨rfl, K2⟩
        go_wp2
        go_ret
        exact ⟨rfl, ((unhide hW).2.2.then K2).below (Nat.le_refl _) (by simp)⟩
      · have c0 := (unhide hW).2.1.cell (i := 70) rfl
        have c1 := (unhide hW).2.1.cell (i := 71) rfl
        have c2 := (unhide hW).2.1.cell (i := 72) rfl
        have c3 := (unhide hW).2.1.cell (i := 73) rfl
        have c4 := (unhide hW).2.1.cell (i := 74) rfl
        go_wp2_with fail
        refine (check_to 5 3 M 0 0 false _ (chk_no (by simp [chkP, fitP]; try omega))).mono ?_
        rintro e W2 ⟨rfl, K2⟩
        go_wp2
        go_ret
        exact ⟨rfl, ((unhide hW).2.2.then K2).below (Nat.le_refl _) (by simp)⟩
end Go.Proofs.Ytndbmhdkckmfcaa
