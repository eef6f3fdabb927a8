/- The mathematics of LookGuards and LookDeep. -/
import Derived.Test.YtjjgjgncnifjmaaKLaw6
namespace Go.Proofs.Ytjjgjgncnifjmaa
open Go.RowKit
set_option linter.unusedVariables false
/-- Find, of an address that was joined. -/
theorem findL_join {L : List Sl} {k o z b r v d : Int} (h1 : 4 ≤ d) (h2 : d ≤ 24) (h3 : 0 ≤ v) (h4 : v < ((2 ^ d.toNat : Nat) : Int)) : joinN v d = v * 256 + d ∧ (0 ≤ v * 256 + d ∧ v * 256 + d < 4294967296) ∧ findL L k o z b r (v * 256 + d) = goL L 6 k o z b r v d := by
  obtain ⟨j1, j2, j3, j4⟩ := split_yes v d h1 h2 h3 h4
  have hp := pow24 d (by omega) h2
  refine ⟨j1, by omega, ?_⟩
  unfold findL
  rw [if_pos j2, j3, j4]
theorem pow_add4 (z : Nat) : ((2 ^ (z + 4) : Nat) : Int) = ((2 ^ z : Nat) : Int) * 16 := by rw [Nat.pow_add, Int.natCast_mul]; rfl
/-- One node with a guard, in another's slot. -/
theorem guard_find (z : Nat) (g b s : Int) (hz : 1 ≤ z ∧ z ≤ 8) (hg : 0 ≤ g ∧ g < ((2 ^ z : Nat) : Int)) (hb : 0 ≤ b ∧ b < ((2 ^ z : Nat) : Int)) (hs : 0 ≤ s ∧ s < 16) :
    joinN ((5 * ((2 ^ z : Nat) : Int) + b) * 16 + s) (8 + z) = ((5 * ((2 ^ z : Nat) : Int) + b) * 16 + s) * 256 + (8 + z) ∧ (0 ≤ ((5 * ((2 ^ z : Nat) : Int) + b) * 16 + s) * 256 + (8 + z) ∧ ((5 * ((2 ^ z : Nat) : Int) + b) * 16 + s) * 256 + (8 + z) < 4294967296) ∧ findL [⟨1, 5, 0, 0, 2, 2, z, g, 1⟩] 2 1 0 0 0 (((5 * ((2 ^ z : Nat) : Int) + b) * 16 + s) * 256 + (8 + z)) = if b = g then some (2, s) else none := by
  have e8 : (8 + (z : Int)).toNat = 4 + (z + 4) := by omega
  have hp4 := pow_add4 z
  have hv : 0 ≤ b * 16 + s ∧ b * 16 + s < ((2 ^ (z + 4) : Nat) : Int) := by rw [hp4]; omega
  obtain ⟨⟨n1, n2⟩, _⟩ := node_parts (z := 0) (l := z + 4) (b := 0) (k := 5) (v := b * 16 + s) ⟨by omega, by decide⟩ (by omega) hv
  have eV : (5 * ((2 ^ z : Nat) : Int) + b) * 16 + s = (0 * 16 + 5) * ((2 ^ (z + 4) : Nat) : Int) + (b * 16 + s) := by rw [hp4]; omega
  rw [eV]
  obtain ⟨f1, f2, f3⟩ := findL_join (L := [⟨1, 5, 0, 0, 2, 2, z, g, 1⟩]) (k := 2) (o := 1) (z := 0) (b := 0) (r := 0) (v := (0 * 16 + 5) * ((2 ^ (z + 4) : Nat) : Int) + (b * 16 + s)) (d := 8 + z) (by omega) (by omega) n1 (by rw [e8]; rw [Nat.zero_add] at n2; exact n2)
  refine ⟨f1, f2, ?_⟩
  rw [f3]
  have ed : (8 : Int) + (z : Int) = ((0 + 4 + (z + 4) : Nat) : Int) := by omega
  rw [ed]
  have h1 := goL_node (L := [⟨1, 5, 0, 0, 2, 2, z, g, 1⟩]) (m := 5) (z := 0) (l := z + 4) (o := 1) (b := 0) (r := 0) (k := 5) (v := b * 16 + s) (by omega) (by omega) (by omega) (by omega) ⟨by omega, by decide⟩ (by omega) hv
  have hl : lkS [⟨1, 5, 0, 0, 2, 2, z, g, 1⟩] 1 5 = some ⟨1, 5, 0, 0, 2, 2, z, g, 1⟩ := by rw [lk_find]; rfl
  rw [if_neg (by omega), hl] at h1
  refine h1.trans ?_
  show goL [⟨1, 5, 0, 0, 2, 2, z, g, 1⟩] 5 2 2 z g 1 (b * 16 + s) ((z + 4 : Nat) : Int) = _
  have e0 : b * 16 + s = (b * 16 + s) * ((2 ^ 0 : Nat) : Int) + 0 := by rw [show ((2 ^ 0 : Nat) : Int) = 1 from rfl]; omega
  by_cases hbg : b = g
  · subst hbg
    rw [if_pos rfl, e0]
    have h2 := goL_node (L := [⟨1, 5, 0, 0, 2, 2, z, b, 1⟩]) (m := 4) (z := z) (l := 0) (o := 2) (b := b) (r := 1) (k := s) (v := 0) (by omega) (by omega) (by omega) (by omega) hb hs ⟨by omega, by decide⟩
    rw [if_pos rfl] at h2
    exact h2
  · rw [if_neg hbg, e0]
    exact node_no (l := 0) hb hs ⟨by omega, by decide⟩ hbg
/-- Without the guard the bits are too few. -/
theorem guard_less (z : Nat) (g s : Int) (hz : 1 ≤ z) (hs : 0 ≤ s ∧ s < 16) :
    joinN (80 + s) 8 = (80 + s) * 256 + 8 ∧ (0 ≤ (80 + s) * 256 + 8 ∧ (80 + s) * 256 + 8 < 4294967296) ∧ findL [⟨1, 5, 0, 0, 2, 2, z, g, 1⟩] 2 1 0 0 0 ((80 + s) * 256 + 8) = none := by
  obtain ⟨f1, f2, f3⟩ := findL_join (L := [⟨1, 5, 0, 0, 2, 2, z, g, 1⟩]) (k := 2) (o := 1) (z := 0) (b := 0) (r := 0) (v := 80 + s) (d := 8) (by omega) (by omega) (by omega) (by show 80 + s < 256; omega)
  refine ⟨f1, f2, ?_⟩
  rw [f3]
  have h1 := goL_node (L := [⟨1, 5, 0, 0, 2, 2, z, g, 1⟩]) (m := 5) (z := 0) (l := 4) (o := 1) (b := 0) (r := 0) (k := 5) (v := s) (by omega) (by omega) (by omega) (by omega) ⟨by omega, by decide⟩ (by omega) ⟨hs.1, hs.2⟩
  have hl : lkS [⟨1, 5, 0, 0, 2, 2, z, g, 1⟩] 1 5 = some ⟨1, 5, 0, 0, 2, 2, z, g, 1⟩ := by rw [lk_find]; rfl
  rw [if_neg (by omega), hl] at h1
  have e : ((0 * 16 + 5) * ((2 ^ 4 : Nat) : Int) + s) = 80 + s := by show (0 * 16 + 5) * 16 + s = 80 + s; omega
  rw [e] at h1
  exact h1.trans (goL_few (by show (4 : Int) < (z : Int) + 4; omega))
end Go.Proofs.Ytjjgjgncnifjmaa
