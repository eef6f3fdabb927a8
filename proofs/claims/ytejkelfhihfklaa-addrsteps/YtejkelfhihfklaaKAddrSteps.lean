/- The mathematics of AddrSteps: nodes on a way, put one behind the other. -/
import Derived.Test.YtejkelfhihfklaaKLaw4
import Derived.Test.YtejkelfhihfklaaKBits
namespace Go.Proofs.Ytejkelfhihfklaa
open Go.RowKit
set_option linter.unusedVariables false
section
variable (sz gd sl : Nat → Nat)
/-- How many bits so many nodes take. -/
def wayD : Nat → Nat
  | 0 => 0
  | n + 1 => wayD n + sz n + 4
/-- Their guards and slots, put together. -/
def wayV : Nat → Nat
  | 0 => 0
  | n + 1 => (wayV n * 2 ^ sz n + gd n) * 16 + sl n
theorem wayV_lt (hg : ∀ i, gd i < 2 ^ sz i) (hs : ∀ i, sl i < 16) (n : Nat) : wayV sz gd sl n < 2 ^ wayD sz n := by
  induction n with
  | zero => exact Nat.one_pos
  | succ n ih =>
    have h1 := hg n
    have h2 := hs n
    show (wayV sz gd sl n * 2 ^ sz n + gd n) * 16 + sl n < 2 ^ (wayD sz n + sz n + 4)
    rw [Nat.pow_add, Nat.pow_add]
    have h3 : (wayV sz gd sl n + 1) * 2 ^ sz n ≤ 2 ^ wayD sz n * 2 ^ sz n := Nat.mul_le_mul_right _ ih
    rw [Nat.add_mul, Nat.one_mul] at h3
    rw [show (2 : Nat) ^ 4 = 16 from rfl]
    omega
theorem wayD_le (i n : Nat) (h : i ≤ n) : wayD sz i ≤ wayD sz n := by
  induction n with
  | zero => have : i = 0 := by omega
            subst this; exact Nat.le_refl _
  | succ n ih =>
    rcases (show i = n + 1 ∨ i ≤ n by omega) with rfl | h
    · exact Nat.le_refl _
    · exact Nat.le_trans (ih h) (show wayD sz n ≤ wayD sz n + sz n + 4 by omega)
theorem wayV_up (hg : ∀ i, gd i < 2 ^ sz i) (hs : ∀ i, sl i < 16) (n : Nat) : wayV sz gd sl (n + 1) / 2 ^ (sz n + 4) = wayV sz gd sl n := by
  have h1 := hg n
  have h2 := hs n
  show ((wayV sz gd sl n * 2 ^ sz n + gd n) * 16 + sl n) / 2 ^ (sz n + 4) = _
  rw [Nat.add_comm (sz n) 4, Nat.pow_add, ← Nat.div_div_eq_div_mul, show (2 : Nat) ^ 4 = 16 from rfl]
  have e : ((wayV sz gd sl n * 2 ^ sz n + gd n) * 16 + sl n) / 16 = wayV sz gd sl n * 2 ^ sz n + gd n := by omega
  rw [e, Nat.mul_comm, Nat.mul_add_div (Nat.two_pow_pos _), Nat.div_eq_of_lt h1, Nat.add_zero]
theorem wayV_div (hg : ∀ i, gd i < 2 ^ sz i) (hs : ∀ i, sl i < 16) (i n : Nat) (h : i ≤ n) : wayV sz gd sl n / 2 ^ (wayD sz n - wayD sz i) = wayV sz gd sl i := by
  induction n with
  | zero => have : i = 0 := by omega
            subst this; simp
  | succ n ih =>
    rcases (show i = n + 1 ∨ i ≤ n by omega) with rfl | h
    · simp
    · have hd := wayD_le sz i n h
      have e : wayD sz (n + 1) - wayD sz i = sz n + 4 + (wayD sz n - wayD sz i) := by
        show wayD sz n + sz n + 4 - wayD sz i = _
        omega
      rw [e, Nat.pow_add, ← Nat.div_div_eq_div_mul, wayV_up sz gd sl hg hs n, ih h]
/-- What is left of the way, from the node i on. -/
def wayT (n i : Nat) : Nat := wayV sz gd sl n % 2 ^ (wayD sz n - wayD sz i)
theorem wayT_lt (n i : Nat) : wayT sz gd sl n i < 2 ^ (wayD sz n - wayD sz i) := Nat.mod_lt _ (Nat.two_pow_pos _)
theorem way_left (n i : Nat) (h : i < n) : wayD sz n - wayD sz i = wayD sz n - wayD sz (i + 1) + (sz i + 4) := by
  have h1 := wayD_le sz (i + 1) n h
  have e : wayD sz (i + 1) = wayD sz i + sz i + 4 := rfl
  omega
theorem wayT_div (hg : ∀ i, gd i < 2 ^ sz i) (hs : ∀ i, sl i < 16) (n i : Nat) (h : i < n) : wayT sz gd sl n i / 2 ^ (wayD sz n - wayD sz (i + 1)) = gd i * 16 + sl i := by
  unfold wayT
  rw [way_left sz n i h, Nat.pow_add, Nat.mod_mul_right_div_self, wayV_div sz gd sl hg hs (i + 1) n h]
  have h1 := hg i
  have h2 := hs i
  show ((wayV sz gd sl i * 2 ^ sz i + gd i) * 16 + sl i) % 2 ^ (sz i + 4) = _
  have e : (wayV sz gd sl i * 2 ^ sz i + gd i) * 16 + sl i = 2 ^ (sz i + 4) * wayV sz gd sl i + (gd i * 16 + sl i) := by
    rw [Nat.pow_add, show (2 : Nat) ^ 4 = 16 from rfl]
    generalize 2 ^ sz i = p
    generalize wayV sz gd sl i = v
    have e1 : p * 16 * v = v * p * 16 := by rw [Nat.mul_comm (p * 16) v, Nat.mul_assoc]
    rw [e1, Nat.add_mul, Nat.add_assoc]
  rw [e, Nat.mul_add_mod]
  refine Nat.mod_eq_of_lt ?_
  rw [Nat.pow_add, show (2 : Nat) ^ 4 = 16 from rfl]
  omega
theorem wayT_next (n i : Nat) (h : i < n) : wayT sz gd sl n i % 2 ^ (wayD sz n - wayD sz (i + 1)) = wayT sz gd sl n (i + 1) := by
  unfold wayT
  rw [way_left sz n i h, Nat.pow_add]
  exact Nat.mod_mul_right_mod _ _ _
theorem wayT_start (hg : ∀ i, gd i < 2 ^ sz i) (hs : ∀ i, sl i < 16) (n : Nat) : wayT sz gd sl n 0 = wayV sz gd sl n := Nat.mod_eq_of_lt (wayV_lt sz gd sl hg hs n)
theorem wayT_end (n : Nat) : wayT sz gd sl n n = 0 := by unfold wayT; simp [Nat.mod_one]
/-- The step at the node i of a way. -/
theorem way_step (hg : ∀ i, gd i < 2 ^ sz i) (hs : ∀ i, sl i < 16) (hz : ∀ i, sz i < 4) (n i : Nat) (h : i < n) (h24 : wayD sz n ≤ 24) (V D S G T : Int) (hV : V = (wayT sz gd sl n i : Int)) (hD : D = ((wayD sz n - wayD sz i : Nat) : Int)) (hS : S = (sz i : Int)) (hG : G = (gd i : Int)) (hT : T = (sl i : Int)) :
    stepP 2 1 S G 0 V D ∧ V / ((2 ^ (D - S - 4).toNat : Nat) : Int) % 16 = T ∧ D - S - 4 = ((wayD sz n - wayD sz (i + 1) : Nat) : Int) ∧ ∀ b : Int, b ≠ G → ¬ stepP 2 1 S b 0 V D := by
  subst hV; subst hD; subst hS; subst hG; subst hT
  have hl := way_left sz n i h
  have hlt := wayT_lt sz gd sl n i
  have hq := wayT_div sz gd sl hg hs n i h
  have h1 := hg i
  have h2 := hs i
  have h3 := hz i
  have eL : ((((wayD sz n - wayD sz i : Nat) : Int) - (sz i : Int) - 4).toNat) = wayD sz n - wayD sz (i + 1) := by omega
  have eS : ((((wayD sz n - wayD sz i : Nat) : Int) - (sz i : Int)).toNat) = wayD sz n - wayD sz (i + 1) + 4 := by omega
  have g1 : (wayT sz gd sl n i : Int) / ((2 ^ (wayD sz n - wayD sz (i + 1) + 4) : Nat) : Int) = (gd i : Int) := by
    rw [Nat.pow_add, ← Int.natCast_ediv, ← Nat.div_div_eq_div_mul, hq, show (2 : Nat) ^ 4 = 16 from rfl]
    omega
  refine ⟨⟨rfl, ⟨by omega, by omega, by omega, ?_⟩, by omega, ⟨by omega, ?_⟩, by omega, by rw [eS]; exact g1⟩, ?_, by omega, ?_⟩
  · unfold fitP
    rw [if_neg (by decide), if_pos rfl]
    refine ⟨by omega, by omega, by omega, ?_⟩
    rw [Int.toNat_natCast]
    omega
  · rw [Int.toNat_natCast]; omega
  · rw [eL, ← Int.natCast_ediv, hq]
    omega
  · intro b hb H
    obtain ⟨_, _, _, _, _, h⟩ := H
    rw [eS, g1] at h
    exact hb h.symm
end
end Go.Proofs.Ytejkelfhihfklaa
