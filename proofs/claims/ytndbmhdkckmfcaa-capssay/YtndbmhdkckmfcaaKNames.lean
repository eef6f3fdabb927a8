/- The walk of CapsNames. -/
import Derived.Test.YtndbmhdkckmfcaaKLaw3
import Derived.Test.YtndbmhdkckmfcaaKRef
namespace Go.Proofs.Ytndbmhdkckmfcaa
open Go.RowKit
set_option linter.unusedVariables false
/-- A capability's own block. -/
def CapAt (w : World) (p : Nat) (k o s b r : Int) : Prop := Bk w p 23 [.int .i64 k, .int .i64 o, .int .i64 s, .int .i64 b, .int .i64 r]
theorem CapAt.cells {w : World} {p : Nat} {k o s b r : Int} (h : CapAt w p k o s b r) :
    w.cell? ⟨p, 0, none⟩ = some (.int .i64 k) ∧ w.cell? ⟨p, 1, none⟩ = some (.int .i64 o) ∧ w.cell? ⟨p, 2, none⟩ = some (.int .i64 s) ∧ w.cell? ⟨p, 3, none⟩ = some (.int .i64 b) ∧ w.cell? ⟨p, 4, none⟩ = some (.int .i64 r) ∧ ∀ i, w.frozen? ⟨p, i, none⟩ = false :=
  ⟨Bk.cell h rfl, Bk.cell h rfl, Bk.cell h rfl, Bk.cell h rfl, Bk.cell h rfl, Bk.frozen h⟩
theorem CapAt.kept {w w' : World} {p : Nat} {k o s b r : Int} {S : List Nat} (h : CapAt w p k o s b r) (kp : Kp S w w') (hp : p ∉ S) : CapAt w' p k o s b r := Bk.kept h kp hp
theorem CapAt.alloc {w : World} {p : Nat} {k o s b r : Int} (h : CapAt w p k o s b r) (o' : Obj) : CapAt (w.alloc o') p k o s b r := Bk.alloc h o'
theorem CapAt.next (w : World) (k o s b r : Int) {p : Nat} (hp : w.heap.size = p) : CapAt (w.alloc (.cells #[.int .i64 k, .int .i64 o, .int .i64 s, .int .i64 b, .int .i64 r] 23)) p k o s b r := Bk.next w _ [.int .i64 k, .int .i64 o, .int .i64 s, .int .i64 b, .int .i64 r] hp
set_option maxHeartbeats 1000000 in
theorem names_one (kind a b size other rights : Int) (w : World) (hk : kind % 9 = 0) :
    Calls Try.prog 7 #[.int .i64 kind, .int .i64 a, .int .i64 b, .int .i64 size, .int .i64 other, .int .i64 rights] w fun e w' => e = .returned (.bool true) ∧ Below w.heap.size w w' := by
  obtain ⟨a', ha⟩ : ∃ x, a % 4 = x := ⟨_, rfl⟩
  obtain ⟨b', hb⟩ : ∃ x, b % 4 = x := ⟨_, rfl⟩
  obtain ⟨s', hs⟩ : ∃ x, size % 3 = x := ⟨_, rfl⟩
  obtain ⟨t', ht⟩ : ∃ x, other % 3 = x := ⟨_, rfl⟩
  obtain ⟨r', hr⟩ : ∃ x, rights % 8 = x := ⟨_, rfl⟩
  have a1 : 0 ≤ a' ∧ a' < 4 := by omega
  have b1 : 0 ≤ b' ∧ b' < 4 := by omega
  have s1 : 0 ≤ s' ∧ s' < 3 := by omega
  have t1 : 0 ≤ t' ∧ t' < 3 := by omega
  replace ha := hide ha
  replace hb := hide hb
  replace hs := hide hs
  replace ht := hide ht
  replace hr := hide hr
  replace hk := hide hk
  obtain ⟨A, hA⟩ : ∃ A, 1 + a' = A := ⟨_, rfl⟩
  obtain ⟨B, hB⟩ : ∃ A, 1 + b' = A := ⟨_, rfl⟩
  obtain ⟨S, hS⟩ : ∃ A, 1 + s' = A := ⟨_, rfl⟩
  obtain ⟨T, hT⟩ : ∃ A, 1 + t' = A := ⟨_, rfl⟩
  obtain ⟨v1, h1⟩ : ∃ v, (A == B) = v := ⟨_, rfl⟩
  obtain ⟨v2, h2⟩ : ∃ v, (S == T) = v := ⟨_, rfl⟩
  have HN := hide (show namesP 1 A S 1 B T = (v1 && v2) from by rw [← h1, ← h2]; refine Bool.eq_iff_iff.2 ?_; simp [namesP])
  have HN2 := hide (show namesP 1 A S 1 A S = true from by simp [namesP])
  cases v1 <;> cases v2 <;>
  · go_enter Try.func7, Try.ntmps7
    go_wp2_with fail
    refine (first_calls _).mono ?_
    rintro e W0 ⟨rfl, K0⟩
    replace K0 := hide K0
    go_wp2_with fail
    refine (number_to _ _ _ _ (by omega) (by omega) (unhide hk)).mono ?_
    rintro e w' ⟨rfl, rfl⟩
    go_wp2_with fail
    refine (number_to _ _ _ _ (by omega) (by omega) (unhide ha)).mono ?_
    rintro e w' ⟨rfl, rfl⟩
    go_wp2_with fail
    refine (number_to _ _ _ _ (by omega) (by omega) (unhide hb)).mono ?_
    rintro e w' ⟨rfl, rfl⟩
    go_wp2_with fail
    refine (number_to _ _ _ _ (by omega) (by omega) (unhide hs)).mono ?_
    rintro e w' ⟨rfl, rfl⟩
    go_wp2_with fail
    refine (number_to _ _ _ _ (by omega) (by omega) (unhide ht)).mono ?_
    rintro e w' ⟨rfl, rfl⟩
    go_wp2_with fail
    refine (number_to _ _ _ _ (by omega) (by omega) (unhide hr)).mono ?_
    rintro e w' ⟨rfl, rfl⟩
    go_wp2_with fail
    refine (names_to 1 A S 0 r' 1 B T 0 7 _ _ (unhide HN)).mono ?_
    rintro e W1 ⟨rfl, K1⟩
    have X1 := ((CapAt.next _ 1 A S 0 r' rfl).alloc _).kept K1 (by simp)
    replace K1 := hide ((((unhide K0).alloc _).alloc _).then K1)
    have x1 := X1.cells
    go_wp2_with fail
    refine (range_calls 1 A S 0 r' _ A S (by simp) (by simp)).mono ?_
    rintro e W2 ⟨rfl, K2⟩
    have X2 := X1.kept K2 (by simp)
    replace K2 := hide ((unhide K1).then K2)
    have x2 := X2.cells
    clear X1 x1
    go_wp2_with fail
    refine (names_to 1 A S 0 r' 1 A S 0 r' _ _ (unhide HN2)).mono ?_
    rintro e W3 ⟨rfl, K3⟩
    replace K3 := hide ((unhide K2).then K3)
    go_wp2
    go_ret
    exact ⟨rfl, (unhide K3).below (Nat.le_refl _) (by simp)⟩
set_option maxHeartbeats 1000000 in
theorem names_four (kind a b size other rights : Int) (w : World) (hk : kind % 9 = 3) :
    Calls Try.prog 7 #[.int .i64 kind, .int .i64 a, .int .i64 b, .int .i64 size, .int .i64 other, .int .i64 rights] w fun e w' => e = .returned (.bool true) ∧ Below w.heap.size w w' := by
  obtain ⟨a', ha⟩ : ∃ x, a % 4 = x := ⟨_, rfl⟩
  obtain ⟨b', hb⟩ : ∃ x, b % 4 = x := ⟨_, rfl⟩
  obtain ⟨s', hs⟩ : ∃ x, size % 3 = x := ⟨_, rfl⟩
  obtain ⟨t', ht⟩ : ∃ x, other % 3 = x := ⟨_, rfl⟩
  obtain ⟨r', hr⟩ : ∃ x, rights % 8 = x := ⟨_, rfl⟩
  have a1 : 0 ≤ a' ∧ a' < 4 := by omega
  have b1 : 0 ≤ b' ∧ b' < 4 := by omega
  have s1 : 0 ≤ s' ∧ s' < 3 := by omega
  have t1 : 0 ≤ t' ∧ t' < 3 := by omega
  replace ha := hide ha
  replace hb := hide hb
  replace hs := hide hs
  replace ht := hide ht
  replace hr := hide hr
  replace hk := hide hk
  obtain ⟨A, hA⟩ : ∃ A, 1 + a' = A := ⟨_, rfl⟩
  obtain ⟨B, hB⟩ : ∃ A, 1 + b' = A := ⟨_, rfl⟩
  obtain ⟨S, hS⟩ : ∃ A, 1 + s' = A := ⟨_, rfl⟩
  obtain ⟨T, hT⟩ : ∃ A, 1 + t' = A := ⟨_, rfl⟩
  obtain ⟨v1, h1⟩ : ∃ v, (A == B) = v := ⟨_, rfl⟩
  have HN := hide (show namesP 4 A 0 4 B 0 = v1 from by rw [← h1]; refine Bool.eq_iff_iff.2 ?_; simp [namesP])
  have HM := hide (show namesP 4 B 0 4 A 0 = v1 from by rw [← h1]; refine Bool.eq_iff_iff.2 ?_; simp [namesP]; exact eq_comm)
  have HZ := hide (show namesP 4 A 0 5 B 0 = false from by simp [namesP])
  cases v1 <;>
  · go_enter Try.func7, Try.ntmps7
    go_wp2_with fail
    refine (first_calls _).mono ?_
    rintro e W0 ⟨rfl, K0⟩
    replace K0 := hide K0
    go_wp2_with fail
    refine (number_to _ _ _ _ (by omega) (by omega) (unhide hk)).mono ?_
    rintro e w' ⟨rfl, rfl⟩
    go_wp2_with fail
    refine (number_to _ _ _ _ (by omega) (by omega) (unhide ha)).mono ?_
    rintro e w' ⟨rfl, rfl⟩
    go_wp2_with fail
    refine (number_to _ _ _ _ (by omega) (by omega) (unhide hb)).mono ?_
    rintro e w' ⟨rfl, rfl⟩
    go_wp2_with fail
    refine (number_to _ _ _ _ (by omega) (by omega) (unhide hs)).mono ?_
    rintro e w' ⟨rfl, rfl⟩
    go_wp2_with fail
    refine (number_to _ _ _ _ (by omega) (by omega) (unhide ht)).mono ?_
    rintro e w' ⟨rfl, rfl⟩
    go_wp2_with fail
    refine (number_to _ _ _ _ (by omega) (by omega) (unhide hr)).mono ?_
    rintro e w' ⟨rfl, rfl⟩
    go_wp2_with fail
    refine (names_to 4 A 0 0 r' 4 B 0 T 7 _ _ (unhide HN)).mono ?_
    rintro e W1 ⟨rfl, K1⟩
    have X1 := (((CapAt.next _ 4 A 0 0 r' rfl).alloc _).alloc _).kept K1 (by simp)
    have Y1 := ((CapAt.next _ 4 B 0 T 7 (by simp; rfl)).alloc _).kept K1 (by simp)
    have Z1 := (CapAt.next _ 5 B 0 T 7 (by simp; rfl)).kept K1 (by simp)
    replace K1 := hide (((((unhide K0).alloc _).alloc _).alloc _).then K1)
    have x1 := X1.cells
    have y1 := Y1.cells
    have z1 := Z1.cells
    go_wp2_with fail
    refine (names_to 4 B 0 T 7 4 A 0 0 r' _ _ (unhide HM)).mono ?_
    rintro e W2 ⟨rfl, K2⟩
    have X2 := X1.kept K2 (by simp)
    have Z2 := Z1.kept K2 (by simp)
    replace K2 := hide ((unhide K1).then K2)
    have x2 := X2.cells
    have z2 := Z2.cells
    clear X1 x1 Y1 y1 Z1 z1
    go_wp2_with fail
    refine (names_to 4 A 0 0 r' 5 B 0 T 7 _ _ (unhide HZ)).mono ?_
    rintro e W3 ⟨rfl, K3⟩
    have X3 := X2.kept K3 (by simp)
    replace K3 := hide ((unhide K2).then K3)
    have x3 := X3.cells
    clear X2 x2 Z2 z2
    go_wp2_with fail
    refine (range_calls 4 A 0 0 r' _ 0 0 (by simp [*]) (by simp [*])).mono ?_
    rintro e W4 ⟨rfl, K4⟩
    replace K4 := hide ((unhide K3).then K4)
    go_wp2
    go_ret
    exact ⟨rfl, (unhide K4).below (Nat.le_refl _) (by simp)⟩
end Go.Proofs.Ytndbmhdkckmfcaa
