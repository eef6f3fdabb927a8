/- The walk of CapsBadge: a guard. -/
import Derived.Test.YtndbmhdkckmfcaaKBadge
namespace Go.Proofs.Ytndbmhdkckmfcaa
open Go.RowKit
set_option linter.unusedVariables false
set_option maxHeartbeats 1000000 in
theorem badge_2far (obj n kind : Int) (w : World) (hk : kind % 9 = 1) (hn : 0 ≤ n ∧ n < 4294967296) (h8 : 8 < n % 256) :
    Calls Try.prog 5 #[.int .i64 obj, .int .u32 n, .int .i64 kind] w fun e w' => e = .returned (.bool true) ∧ Below w.heap.size w w' := by
  obtain ⟨o', ho⟩ : ∃ x, obj % 20 = x := ⟨_, rfl⟩
  have o1 : 0 ≤ o' ∧ o' < 20 := by omega
  replace ho := hide ho
  replace hk := hide hk
  obtain ⟨O, hO⟩ : ∃ A, 1 + o' = A := ⟨_, rfl⟩
  have O1 : 1 ≤ O ∧ O ≤ 20 := by omega
  obtain ⟨g, hg⟩ : ∃ g, n % 256 = g := ⟨_, rfl⟩
  obtain ⟨d, hd⟩ : ∃ d, n / 256 = d := ⟨_, rfl⟩
  have hd0 : 0 ≤ d ∧ d < 16777216 := by omega
  have hg0 : 0 ≤ g ∧ g < 256 := by omega
  have HF : bits .and .u32 n 255 = g := by rw [low8 n hn.1 hn.2]; exact hg
  have hG := hide hg
  have hD := hide hd
  rw [hg] at h8
  clear hg
  have HC := hide (show chk 2 O g d 7 = false from chk_no (by simp [chkP, fitP]; omega))
  go_enter Try.func5, Try.ntmps5
  go_wp2_with fail
  refine (first_calls _).mono ?_
  rintro e W0 ⟨rfl, K0⟩
  replace K0 := hide K0
  go_wp2_with fail
  refine (number_to _ _ _ _ (by omega) (by omega) (unhide hk)).mono ?_
  rintro e w' ⟨rfl, rfl⟩
  go_wp2_with fail
  refine (number_to _ _ _ _ (by omega) (by omega) (unhide ho)).mono ?_
  rintro e w' ⟨rfl, rfl⟩
  go_wp2_with fail
  refine (badge_to 2 O 0 0 7 n _ 0 0 0 0 0 7 (bdg_guard_no _ _ _ _ _ _ _ (unhide hG) (unhide hD) (unhide HC)) hn).mono ?_
  rintro e W1 ⟨rfl, K1⟩
  have C1 := (CapAt.next _ 2 O 0 0 7 rfl).kept K1 (by simp)
  replace K1 := hide (((unhide K0).alloc _).then K1)
  have c1 := C1.cells
  have hne : w'.heap.size < W1.heap.size := Bk.lt C1
  go_wp2
  go_ret
  exact ⟨rfl, ((unhide K1).alloc _).below (Nat.le_refl _) (by simp)⟩
set_option maxHeartbeats 2000000 in
set_option maxRecDepth 4000 in
theorem badge_2in (obj n kind : Int) (w : World) (hk : kind % 9 = 1) (hn : 0 ≤ n ∧ n < 4294967296) (h8 : n % 256 ≤ 8) :
    Calls Try.prog 5 #[.int .i64 obj, .int .u32 n, .int .i64 kind] w fun e w' => e = .returned (.bool true) ∧ Below w.heap.size w w' := by
  obtain ⟨o', ho⟩ : ∃ x, obj % 20 = x := ⟨_, rfl⟩
  have o1 : 0 ≤ o' ∧ o' < 20 := by omega
  replace ho := hide ho
  replace hk := hide hk
  obtain ⟨O, hO⟩ : ∃ A, 1 + o' = A := ⟨_, rfl⟩
  have O1 : 1 ≤ O ∧ O ≤ 20 := by omega
  obtain ⟨g, hg⟩ : ∃ g, n % 256 = g := ⟨_, rfl⟩
  obtain ⟨d, hd⟩ : ∃ d, n / 256 = d := ⟨_, rfl⟩
  have hd0 : 0 ≤ d ∧ d < 16777216 := by omega
  have hg0 : 0 ≤ g ∧ g < 256 := by omega
  have HF : bits .and .u32 n 255 = g := by rw [low8 n hn.1 hn.2]; exact hg
  have hG := hide hg
  have hD := hide hd
  rw [hg] at h8
  clear hg
  have hp := pow_table g hg0.1 h8
  obtain ⟨v, hv⟩ : ∃ v, decide (((2 ^ g.toNat : Nat) : Int) ≤ d) = v := ⟨_, rfl⟩
  have HC := hide (show chk 2 O g d 7 = !v from by
    rw [← hv]; refine Bool.eq_iff_iff.2 ?_; simp only [chk_iff, chkP, fitP]; simp; omega)
  obtain ⟨P, hP⟩ : ∃ P : Int, ((2 ^ g.toNat : Nat) : Int) = P := ⟨_, rfl⟩
  rw [hP] at hv
  have P1 : 1 ≤ P ∧ P ≤ 256 := by omega
  replace hp := hide hp
  have hW : wrap64 ((2 : Int) ^ g.toNat) = P := by rw [ipow, hP]; unfold wrap64; omega
  have g8 : decide (8 < g) = false := decide_eq_false (by omega)
  replace hP := hide hP
  cases v
  · go_enter Try.func5, Try.ntmps5
    go_wp2_with fail
    refine (first_calls _).mono ?_
    rintro e W0 ⟨rfl, K0⟩
    replace K0 := hide K0
    go_wp2_with fail
    refine (number_to _ _ _ _ (by omega) (by omega) (unhide hk)).mono ?_
    rintro e w' ⟨rfl, rfl⟩
    go_wp2_with fail
    refine (number_to _ _ _ _ (by omega) (by omega) (unhide ho)).mono ?_
    rintro e w' ⟨rfl, rfl⟩
    go_wp2_with fail
    refine (badge_to 2 O 0 0 7 n _ 2 O g d 7 0 (bdg_guard _ _ _ _ _ _ _ (unhide hG) (unhide hD) (unhide HC)) hn).mono ?_
    rintro e W1 ⟨rfl, K1⟩
    have C1 := (CapAt.next _ 2 O 0 0 7 rfl).kept K1 (by simp)
    replace K1 := hide (((unhide K0).alloc _).then K1)
    have c1 := C1.cells
    have hne : w'.heap.size < W1.heap.size := Bk.lt C1
    go_wp2_with fail
    refine (badge_to 2 O g d 7 n _ 2 O g d 7 0 (bdg_guard _ _ _ _ _ _ _ (unhide hG) (unhide hD) (unhide HC)) hn).mono ?_
    rintro e W2 ⟨rfl, K2⟩
    have C2 := (C1.alloc _).kept K2 (by simp)
    have X2 := (CapAt.next _ 2 O g d 7 rfl).kept K2 (by simp)
    replace K2 := hide (((unhide K1).alloc _).then K2)
    have c2 := C2.cells
    have x2 := X2.cells
    have hx2 : W1.heap.size < W2.heap.size := Bk.lt X2
    have hc2 : w'.heap.size < W2.heap.size := Bk.lt C2
    have hc3 : (w'.heap.size == W1.heap.size) = false := beq_eq_false_iff_ne.2 (Nat.ne_of_lt hne)
    go_wp2
    go_ret
    exact ⟨rfl, ((((unhide K2).setCell (p := ⟨w'.heap.size, 2, none⟩) (.inr (unhide K0).size) _).setCell (p := ⟨w'.heap.size, 3, none⟩) (.inr (unhide K0).size) _).alloc _).below (Nat.le_refl _) (by simp)⟩
  · go_enter Try.func5, Try.ntmps5
    go_wp2_with fail
    refine (first_calls _).mono ?_
    rintro e W0 ⟨rfl, K0⟩
    replace K0 := hide K0
    go_wp2_with fail
    refine (number_to _ _ _ _ (by omega) (by omega) (unhide hk)).mono ?_
    rintro e w' ⟨rfl, rfl⟩
    go_wp2_with fail
    refine (number_to _ _ _ _ (by omega) (by omega) (unhide ho)).mono ?_
    rintro e w' ⟨rfl, rfl⟩
    go_wp2_with fail
    refine (badge_to 2 O 0 0 7 n _ 0 0 0 0 0 7 (bdg_guard_no _ _ _ _ _ _ _ (unhide hG) (unhide hD) (unhide HC)) hn).mono ?_
    rintro e W1 ⟨rfl, K1⟩
    have C1 := (CapAt.next _ 2 O 0 0 7 rfl).kept K1 (by simp)
    replace K1 := hide (((unhide K0).alloc _).then K1)
    have c1 := C1.cells
    have hne : w'.heap.size < W1.heap.size := Bk.lt C1
    go_wp2
    go_ret
    exact ⟨rfl, ((unhide K1).alloc _).below (Nat.le_refl _) (by simp)⟩
theorem badge_walk (obj n kind : Int) (w : World) (_ : (Lit.int .i64 obj).wf = true) (hn : (Lit.int .u32 n).wf = true) (_ : (Lit.int .i64 kind).wf = true) :
    Calls Try.prog 5 #[.int .i64 obj, .int .u32 n, .int .i64 kind] w fun e w' => e = .returned (.bool true) ∧ Below w.heap.size w w' := by
  have hn : 0 ≤ n ∧ n < 4294967296 := by have := bounds_u32 hn; omega
  by_cases h0 : kind % 9 = 0
  · exact badge_one obj n kind w h0 hn
  by_cases h1 : kind % 9 = 1
  · by_cases h8 : 8 < n % 256
    · exact badge_2far obj n kind w h1 hn h8
    · exact badge_2in obj n kind w h1 hn (by omega)
  by_cases h3 : kind % 9 = 3
  · exact badge_4 obj n kind w h3 hn
  by_cases h4 : kind % 9 = 4
  · exact badge_5 obj n kind w h4 hn
  exact badge_rest obj n kind w _ rfl h0 h1 h3 h4 hn
end Go.Proofs.Ytndbmhdkckmfcaa
