/- The mathematics of LookDeep. -/
import Derived.Test.YtjjgjgncnifjmaaKGuardM
namespace Go.Proofs.Ytjjgjgncnifjmaa
open Go.RowKit
set_option linter.unusedVariables false
/-- So many slots of the same number, one behind the other. -/
def dv (s : Nat) : Nat → Nat
  | 0 => 0
  | k + 1 => dv s k * 16 + s
theorem dv_lt {s : Nat} (hs : s < 16) (k : Nat) : dv s k < 16 ^ k := by
  induction k with
  | zero => exact Nat.one_pos
  | succ k ih => rw [dv, Nat.pow_succ]; omega
theorem dv_top (s k : Nat) : dv s (k + 1) = s * 16 ^ k + dv s k := by
  induction k with
  | zero => simp [dv]
  | succ k ih =>
    have e1 : dv s (k + 1 + 1) = dv s (k + 1) * 16 + s := rfl
    have e2 : dv s (k + 1) = dv s k * 16 + s := rfl
    have e3 : s * 16 ^ (k + 1) = s * 16 ^ k * 16 := by rw [Nat.pow_succ, Nat.mul_assoc]
    omega
theorem pow_four (k : Nat) : 2 ^ (4 * k) = 16 ^ k := by rw [Nat.pow_mul]
def dL (s : Nat) : List Sl := [⟨3, (s : Int), 0, 0, 2, 3, 0, 0, 7⟩]
theorem dL_at (s : Nat) : lkS (dL s) 3 s = some ⟨3, (s : Int), 0, 0, 2, 3, 0, 0, 7⟩ := by
  rw [lk_find]
  unfold dL
  have e : isAt 3 (s : Int) ⟨3, (s : Int), 0, 0, 2, 3, 0, 0, 7⟩ = true := isAt_iff.2 ⟨rfl, rfl⟩
  rw [List.find?_cons, e]
theorem dL_is {s : Nat} {S : Int} {x : Sl} (h : lkS (dL s) 3 S = some x) : x = ⟨3, (s : Int), 0, 0, 2, 3, 0, 0, 7⟩ := by
  rw [lk_find] at h
  have := List.mem_of_find?_eq_some h
  unfold dL at this
  simpa using this
theorem deep_go {s : Nat} (hs : s < 16) (k : Nat) : ∀ (m : Nat) (r : Int), k + 1 ≤ m → k + 1 ≤ 6 → 0 ≤ r ∧ r ≤ 7 → goL (dL s) m 2 3 0 0 r (dv s (k + 1) : Int) ((4 * (k + 1) : Nat) : Int) = some (3, (s : Int)) := by
  induction k with
  | zero =>
    intro m r hm _ hr
    obtain ⟨m, rfl⟩ : ∃ m', m = m' + 1 := ⟨m - 1, by omega⟩
    have h := goL_node (L := dL s) (m := m) (z := 0) (l := 0) (o := 3) (b := 0) (r := r) (k := s) (v := 0) (by omega) (by omega) (by omega) hr ⟨by omega, by decide⟩ (by omega) ⟨by omega, by decide⟩
    rw [if_pos rfl] at h
    have e : ((0 * 16 + (s : Int)) * ((2 ^ 0 : Nat) : Int) + 0) = (dv s (0 + 1) : Int) := by
      have : dv s (0 + 1) = s := by simp [dv]
      rw [this, show ((2 ^ 0 : Nat) : Int) = 1 from rfl]; omega
    rw [e] at h
    exact h
  | succ k ih =>
    intro m r hm h6 hr
    obtain ⟨m, rfl⟩ : ∃ m', m = m' + 1 := ⟨m - 1, by omega⟩
    have hv := dv_lt hs (k + 1)
    have h := goL_node (L := dL s) (m := m) (z := 0) (l := 4 * (k + 1)) (o := 3) (b := 0) (r := r) (k := s) (v := dv s (k + 1)) (by omega) (by omega) (by omega) hr ⟨by omega, by decide⟩ (by omega) ⟨by omega, by rw [pow_four]; omega⟩
    rw [if_neg (by omega), dL_at] at h
    have e : ((0 * 16 + (s : Int)) * ((2 ^ (4 * (k + 1)) : Nat) : Int) + (dv s (k + 1) : Int)) = (dv s (k + 1 + 1) : Int) := by
      rw [dv_top s (k + 1), pow_four, Int.natCast_add, Int.natCast_mul]; simp
    have e2 : ((0 + 4 + 4 * (k + 1) : Nat) : Int) = ((4 * (k + 1 + 1) : Nat) : Int) := by omega
    rw [e, e2] at h
    exact h.trans (ih m 7 (by omega) (by omega) (by omega))
theorem deep_odd {s : Nat} (m : Nat) : ∀ (r v d : Int), d % 4 = 1 → goL (dL s) m 2 3 0 0 r v d = none := by
  induction m with
  | zero => intro r v d _; rfl
  | succ m ih =>
    intro r v d hd
    by_cases hs : stepP 2 3 0 0 r v d
    · have h5 := hs.2.2.2.2.1
      have hl : ¬ d - 0 - 4 = 0 := by omega
      cases hx : lkS (dL s) 3 (v / ((2 ^ (d - 0 - 4).toNat : Nat) : Int) % 16) with
      | none => exact goL_none hs hl rfl hx
      | some x =>
        have ex := dL_is hx
        rw [goL_on hs hl rfl hx, ex]
        exact ih _ _ _ (by omega)
    · exact goL_no hs
theorem deep_facts (s n : Nat) (hs : s < 16) (h1 : 1 ≤ n) (h6 : n ≤ 6) : ∃ V A B : Int, (dv s n : Int) = V ∧ joinN V (IntKind.i64.wrap (4 * (n : Int))) = A ∧ joinN V (IntKind.i64.wrap (IntKind.i64.wrap (4 * (n : Int)) + 1)) = B ∧ (0 ≤ A ∧ A < 4294967296) ∧ (0 ≤ B ∧ B < 4294967296) ∧ findL (dL s) 2 3 0 0 0 A = some (3, (s : Int)) ∧ findL (dL s) 2 3 0 0 0 B = none := by
  have hv := dv_lt hs n
  have e1 : IntKind.i64.wrap (4 * (n : Int)) = ((4 * n : Nat) : Int) := by rw [IntWalk.i64_in _ (by omega)]; omega
  have e2 : IntKind.i64.wrap (((4 * n : Nat) : Int) + 1) = ((4 * n : Nat) : Int) + 1 := IntWalk.i64_in _ (by omega)
  have hp : 16 ^ n = 2 ^ (4 * n) := (pow_four n).symm
  rw [hp] at hv
  obtain ⟨f1, f2, f3⟩ := findL_join (L := dL s) (k := 2) (o := 3) (z := 0) (b := 0) (r := 0) (v := dv s n) (d := ((4 * n : Nat) : Int)) (by omega) (by omega) (by omega) (by rw [Int.toNat_natCast]; omega)
  have hgo := deep_go hs (n - 1) 6 0 (by omega) (by omega) (by omega)
  rw [show n - 1 + 1 = n by omega] at hgo
  have hbig : 2 ^ (4 * n) ≤ 2 ^ 24 := Nat.pow_le_pow_right (by omega) (by omega)
  rw [show (2 : Nat) ^ 24 = 16777216 from rfl] at hbig
  have hB : 0 ≤ joinN (dv s n) (((4 * n : Nat) : Int) + 1) ∧ joinN (dv s n) (((4 * n : Nat) : Int) + 1) < 4294967296 := by unfold joinN; omega
  refine ⟨_, _, _, rfl, by rw [e1]; exact f1, by rw [e1, e2], f2, hB, f3.trans hgo, ?_⟩
  by_cases h : n = 6
  · subst h
    unfold findL
    rw [(split_no _ (by unfold joinN; omega)).1]
    rfl
  · obtain ⟨g1, g2, g3⟩ := findL_join (L := dL s) (k := 2) (o := 3) (z := 0) (b := 0) (r := 0) (v := dv s n) (d := ((4 * n : Nat) : Int) + 1) (by omega) (by omega) (by omega) (by
      have e : (((4 * n : Nat) : Int) + 1).toNat = 4 * n + 1 := by omega
      rw [e, Nat.pow_succ]; omega)
    rw [g1, g3]
    exact deep_odd 6 0 _ _ (by omega)
theorem deep_put (s : Nat) (hs : s < 16) : putP [] 3 s 2 3 0 0 7 0 0 := by
  refine ⟨?_, rfl, by decide, .inl ⟨rfl, rfl⟩⟩
  rw [placeOk_iff]
  unfold placeP
  omega
/-- One slot more. -/
theorem deep_more (s k : Nat) (hs : s < 16) (hk : k < 6) : ∃ V Y : Int, (dv s k : Int) = V ∧ (0 ≤ V ∧ V ≤ 16777216) ∧ bits .or .i64 (V * 16) s = Y ∧ Y = (dv s (k + 1) : Int) := by
  have hv := dv_lt hs k
  have hp : 16 ^ k ≤ 16 ^ 5 := Nat.pow_le_pow_right (by omega) (by omega)
  rw [show (16 : Nat) ^ 5 = 1048576 from rfl] at hp
  have h := i64_shl_or (dv s k) 4 s (by omega) (by rw [show (2 : Nat) ^ 4 = 16 from rfl]; omega)
  rw [show (2 : Nat) ^ 4 = 16 from rfl, Int.natCast_mul] at h
  exact ⟨_, _, rfl, by omega, h, rfl⟩
theorem deep_look (s : Nat) : lookAt (dL s) (some (3, (s : Int))) 2 = .tuple #[.agg #[.int .i64 2, .int .i64 3, .int .i64 0, .int .i64 0, .int .i64 7], .agg #[.int .i64 3, .int .i64 s], .int .i64 0] := by
  unfold lookAt
  simp only [dL_at]
  rfl
end Go.Proofs.Ytjjgjgncnifjmaa
