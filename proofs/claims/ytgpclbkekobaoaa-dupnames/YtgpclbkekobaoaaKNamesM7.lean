/- The mathematics of DupNames. -/
import Derived.Test.YtgpclbkekobaoaaKLaw7
import Derived.Test.YtgpclbkekobaoaaKRowsM7
namespace Go.Proofs.Ytgpclbkekobaoaa
open Go.RowKit
set_option linter.unusedVariables false
def nmA (k o z b r : Int) : List Sl := [⟨1, 3, 0, 0, k, o, z, b, r⟩]
def nmB (s k o z b r l : Int) : List Sl := [⟨1, 3, 0, 0, k, o, z, b, r⟩, ⟨2, s, 1, 3, k, o, z, b, l⟩]
def nmC (s k o z b r l : Int) : List Sl := [⟨2, s, 4, 4, k, o, z, b, l⟩, ⟨4, 4, 0, 0, k, o, z, b, r⟩]
theorem sixteen {i : Nat} (h : i < 16) : i = 0 ∨ i = 1 ∨ i = 2 ∨ i = 3 ∨ i = 4 ∨ i = 5 ∨ i = 6 ∨ i = 7 ∨ i = 8 ∨ i = 9 ∨ i = 10 ∨ i = 11 ∨ i = 12 ∨ i = 13 ∨ i = 14 ∨ i = 15 := by omega
theorem chk_less {k o z b r l : Int} (h : chk k o z b r = true) (hl : 0 ≤ l ∧ l < 8) : chk k o z b l = true := by
  rw [chk_iff] at h ⊢
  exact ⟨h.1, by omega, h.2.2.1, h.2.2.2⟩
theorem nm_put {k o z b r : Int} (h : chk k o z b r = true) : putP [] 1 3 k o z b r 0 0 ∧ insL [] ⟨1, 3, 0, 0, k, o, z, b, r⟩ = nmA k o z b r := ⟨⟨by decide, rfl, h, .inl ⟨rfl, rfl⟩⟩, rfl⟩
theorem nm_noput {k o z b r : Int} (h : chk k o z b r = false) : ¬ putP [] 1 3 k o z b r 0 0 := fun q => by rw [q.2.2.1] at h; cases h
theorem nm_parts (i : Nat) (hi : i < 16) (k o z b r l : Int) :
    (bothC (nmA k o z b r) 1 3 2 i = 0 ∧ placeOk 2 i = true ∧ atL (nmA k o z b r) 2 i = none ∧ insL (nmA k o z b r) ⟨2, i, 1, 3, k, o, z, b, l⟩ = nmB i k o z b r l) ∧ (bothC (nmB i k o z b r l) 1 3 2 i = 3 ∧ lookS (nmB i k o z b r l) 2 i = some ⟨2, i, 1, 3, k, o, z, b, l⟩) ∧ (bothC (nmB i k o z b r l) 1 3 4 4 = 0 ∧ moveLL (nmB i k o z b r l) 1 3 4 4 = nmC i k o z b r l) ∧ (bothC (nmC i k o z b r l) 1 3 4 4 = 4 ∧ lookS (nmC i k o z b r l) 4 4 = some ⟨4, 4, 0, 0, k, o, z, b, r⟩ ∧ lookS (nmC i k o z b r l) 1 3 = none ∧ lookS (nmC i k o z b r l) 2 i = some ⟨2, i, 4, 4, k, o, z, b, l⟩) := by
  rcases sixteen hi with rfl | rfl | rfl | rfl | rfl | rfl | rfl | rfl | rfl | rfl | rfl | rfl | rfl | rfl | rfl | rfl <;> exact ⟨⟨rfl, rfl, rfl, rfl⟩, ⟨rfl, rfl⟩, ⟨rfl, rfl⟩, rfl, rfl, rfl, rfl⟩
def nmN (k o z b r l : Int) (i : Nat) : Nat := (sel (lowF (nmC i k o z b r l) 4 4) (nmC i k o z b r l)).length
theorem nm_all (k o z b r l : Int) : (List.range 16).map (nmN k o z b r l) = List.replicate 16 1 := by kernel_rfl
theorem nm_below (i : Nat) (hi : i < 16) (k o z b r l : Int) : (sel (lowF (nmC i k o z b r l) 4 4) (nmC i k o z b r l)).length = 1 := by
  have e := congrArg (fun l => l[i]?) (nm_all k o z b r l)
  have h1 : (List.range 16)[i]? = some i := by rw [List.getElem?_range (by omega)]
  have h2 : (List.replicate 16 1)[i]? = some 1 := by rw [List.getElem?_replicate, if_pos hi]
  simp only [List.getElem?_map, h1, h2, Option.map_some] at e
  exact Option.some.inj e
theorem nm_copy {i : Nat} (hi : i < 16) {k o z b r m : Int} (h : chk k o z b r = true) (hm : 0 ≤ m ∧ m < 8) : copyC (nmA k o z b r) 1 3 2 i m = 0 ∧ copyL (nmA k o z b r) 1 3 2 i m = nmB i k o z b r (lessR r m) := by
  obtain ⟨⟨a1, a2, a3, a4⟩, _⟩ := nm_parts i hi k o z b r (lessR r m)
  have hc : copyC (nmA k o z b r) 1 3 2 i m = 0 := by
    unfold copyC
    rw [a1, if_neg (by decide), if_neg (by omega)]
  refine ⟨hc, ?_⟩
  unfold copyL
  rw [if_pos hc, show lkS (nmA k o z b r) 1 3 = some ⟨1, 3, 0, 0, k, o, z, b, r⟩ from rfl]
  show putR (nmA k o z b r) 2 i k o z b (lessR r m) 1 3 = _
  have hok : putOk (nmA k o z b r) 2 i k o z b (lessR r m) 1 3 = true := by
    unfold putOk
    rw [a2, a3, chk_less h (lessR_bd r m), show atL (nmA k o z b r) 1 3 = some 0 from rfl]
    rfl
  unfold putR
  rw [if_pos hok]
  exact a4
theorem nm_again {i : Nat} (hi : i < 16) (k o z b r l m : Int) : copyC (nmB i k o z b r l) 1 3 2 i m = 3 ∧ copyL (nmB i k o z b r l) 1 3 2 i m = nmB i k o z b r l := by
  obtain ⟨_, ⟨b1, _⟩, _⟩ := nm_parts i hi k o z b r l
  have hc : copyC (nmB i k o z b r l) 1 3 2 i m = 3 := by unfold copyC; rw [b1]; rfl
  refine ⟨hc, ?_⟩
  unfold copyL
  rw [hc, if_neg (by decide)]
theorem nm_gone {i : Nat} (hi : i < 16) (k o z b r l : Int) : moveLL (nmC i k o z b r l) 1 3 4 4 = nmC i k o z b r l := by
  obtain ⟨_, _, _, c1, _⟩ := nm_parts i hi k o z b r l
  unfold moveLL
  rw [c1, if_neg (by decide)]
end Go.Proofs.Ytgpclbkekobaoaa
