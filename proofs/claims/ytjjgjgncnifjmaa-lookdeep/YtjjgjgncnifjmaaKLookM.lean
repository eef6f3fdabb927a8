/- One step of a way: guard, slot, what is left. -/
import Derived.Test.YtjjgjgncnifjmaaKLook0
namespace Go.Proofs.Ytjjgjgncnifjmaa
open Go.RowKit
set_option linter.unusedVariables false
theorem node_parts {z l : Nat} {b k v : Int} (hb : 0 ≤ b ∧ b < ((2 ^ z : Nat) : Int)) (hk : 0 ≤ k ∧ k < 16) (hv : 0 ≤ v ∧ v < ((2 ^ l : Nat) : Int)) :
    (0 ≤ (b * 16 + k) * ((2 ^ l : Nat) : Int) + v ∧ (b * 16 + k) * ((2 ^ l : Nat) : Int) + v < ((2 ^ (z + 4 + l) : Nat) : Int)) ∧ ((b * 16 + k) * ((2 ^ l : Nat) : Int) + v) / ((2 ^ (4 + l) : Nat) : Int) = b ∧ ((b * 16 + k) * ((2 ^ l : Nat) : Int) + v) / ((2 ^ l : Nat) : Int) = b * 16 + k ∧ ((b * 16 + k) * ((2 ^ l : Nat) : Int) + v) % ((2 ^ l : Nat) : Int) = v := by
  have hP : (0 : Int) < ((2 ^ l : Nat) : Int) := by have := Nat.pow_pos (n := l) (show 0 < 2 by omega); omega
  obtain ⟨P, hPe⟩ : ∃ P : Int, ((2 ^ l : Nat) : Int) = P := ⟨_, rfl⟩
  obtain ⟨Z, hZe⟩ : ∃ Z : Int, ((2 ^ z : Nat) : Int) = Z := ⟨_, rfl⟩
  have e1 : ((2 ^ (4 + l) : Nat) : Int) = 16 * P := by rw [Nat.pow_add, Int.natCast_mul, hPe]; rfl
  have e2 : ((2 ^ (z + 4 + l) : Nat) : Int) = Z * 16 * P := by rw [Nat.pow_add, Nat.pow_add, Int.natCast_mul, Int.natCast_mul, hPe, hZe]; rfl
  rw [e1, e2, hPe]
  rw [hPe] at hP hv
  rw [hZe] at hb
  have q1 : ((b * 16 + k) * P + v) / P = b * 16 + k := by
    rw [Int.mul_comm, Int.add_comm, Int.add_mul_ediv_left _ _ (by omega), Int.ediv_eq_zero_of_lt hv.1 hv.2]; omega
  have q2 : ((b * 16 + k) * P + v) % P = v := by
    rw [Int.mul_comm, Int.add_comm, Int.add_mul_emod_self_left]
    exact Int.emod_eq_of_lt hv.1 hv.2
  refine ⟨⟨?_, ?_⟩, ?_, q1, q2⟩
  · have := Int.mul_nonneg (a := b * 16 + k) (b := P) (by omega) (by omega)
    omega
  · have h1 : (b * 16 + k + 1) * P ≤ Z * 16 * P := Int.mul_le_mul_of_nonneg_right (by omega) (by omega)
    have h2 : (b * 16 + k + 1) * P = (b * 16 + k) * P + P := by rw [Int.add_mul, Int.one_mul]
    omega
  · rw [Int.mul_comm 16 P, ← Int.ediv_ediv_of_nonneg (by omega), q1]
    omega
theorem node_step {z l : Nat} {o b r k v : Int} (hz : z ≤ 8) (hd : z + 4 + l ≤ 24) (ho : 1 ≤ o ∧ o ≤ 64) (hr : 0 ≤ r ∧ r ≤ 7) (hb : 0 ≤ b ∧ b < ((2 ^ z : Nat) : Int)) (hk : 0 ≤ k ∧ k < 16) (hv : 0 ≤ v ∧ v < ((2 ^ l : Nat) : Int)) :
    stepP 2 o z b r ((b * 16 + k) * ((2 ^ l : Nat) : Int) + v) ((z + 4 + l : Nat) : Int) := by
  obtain ⟨h1, h2, _, _⟩ := node_parts (z := z) hb hk hv
  refine ⟨rfl, ⟨by omega, hr, ho, ?_⟩, by omega, ?_, by omega, ?_⟩
  · unfold fitP
    rw [if_neg (by omega), if_pos rfl]
    have e : (z : Int).toNat = z := Int.toNat_natCast z
    rw [e]
    exact ⟨by omega, by omega, hb⟩
  · rw [Int.toNat_natCast]
    exact h1
  · have e : (((z + 4 + l : Nat) : Int) - (z : Int)).toNat = 4 + l := by omega
    rw [e]
    exact h2
/-- The way goes on behind a node whose guard and slot stand ahead. -/
theorem goL_node {L : List Sl} {m z l : Nat} {o b r k v : Int} (hz : z ≤ 8) (hd : z + 4 + l ≤ 24) (ho : 1 ≤ o ∧ o ≤ 64) (hr : 0 ≤ r ∧ r ≤ 7) (hb : 0 ≤ b ∧ b < ((2 ^ z : Nat) : Int)) (hk : 0 ≤ k ∧ k < 16) (hv : 0 ≤ v ∧ v < ((2 ^ l : Nat) : Int)) :
    goL L (m + 1) 2 o z b r ((b * 16 + k) * ((2 ^ l : Nat) : Int) + v) ((z + 4 + l : Nat) : Int) = if l = 0 then some (o, k) else (match lkS L o k with | none => none | some x => goL L m x.k x.o x.z x.b x.r v l) := by
  have hs := node_step hz hd ho hr hb hk hv
  obtain ⟨h1, h2, h3, h4⟩ := node_parts (z := z) hb hk hv
  have e : ((z + 4 + l : Nat) : Int) - (z : Int) - 4 = (l : Int) := by omega
  have et : (l : Int).toNat = l := Int.toNat_natCast l
  have hS : ((b * 16 + k) * ((2 ^ l : Nat) : Int) + v) / ((2 ^ (((z + 4 + l : Nat) : Int) - (z : Int) - 4).toNat : Nat) : Int) % 16 = k := by
    rw [e, et, h3]
    omega
  by_cases hl : l = 0
  · rw [if_pos hl, goL_end hs (by rw [e]; omega), hS]
  · rw [if_neg hl]
    cases hx : lkS L o k with
    | none => exact goL_none hs (by rw [e]; omega) hS hx
    | some x =>
      rw [goL_on hs (by rw [e]; omega) hS hx, e, et, h4]
theorem node_no {L : List Sl} {m z l : Nat} {o b b' r k v : Int} (hb : 0 ≤ b' ∧ b' < ((2 ^ z : Nat) : Int)) (hk : 0 ≤ k ∧ k < 16) (hv : 0 ≤ v ∧ v < ((2 ^ l : Nat) : Int)) (hne : b' ≠ b) :
    goL L m 2 o z b r ((b' * 16 + k) * ((2 ^ l : Nat) : Int) + v) ((z + 4 + l : Nat) : Int) = none := by
  obtain ⟨_, h2, _, _⟩ := node_parts (z := z) hb hk hv
  refine goL_no fun h => ?_
  have h3 := h.2.2.2.2.2
  have e : (((z + 4 + l : Nat) : Int) - (z : Int)).toNat = 4 + l := by omega
  rw [e, h2] at h3
  exact hne h3
theorem goL_other {L : List Sl} {m : Nat} {k o z b r v d : Int} (h : k ≠ 2) : goL L m k o z b r v d = none := goL_no fun q => h q.1
theorem goL_few {L : List Sl} {m : Nat} {k o z b r v d : Int} (h : d < z + 4) : goL L m k o z b r v d = none := goL_no fun q => by have := q.2.2.2.2.1; omega
end Go.Proofs.Ytjjgjgncnifjmaa
