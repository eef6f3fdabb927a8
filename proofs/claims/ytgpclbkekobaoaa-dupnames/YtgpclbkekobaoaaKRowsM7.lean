/- The mathematics of DupRows. -/
import Derived.Test.YtgpclbkekobaoaaKLaw7
import Derived.Test.YtgpclbkekobaoaaKMath
namespace Go.Proofs.Ytgpclbkekobaoaa
open Go.RowKit
set_option linter.unusedVariables false
/-- The slot of number i of the row. -/
def nsl (ws : Nat → Int) (i : Nat) : Sl := ⟨1, (i : Int), if i = 0 then 0 else 1, if i = 0 then 0 else (i : Int) - 1, 5, 3, 0, 0, ws i⟩
def nrow (ws : Nat → Int) (n : Nat) : List Sl := (List.range n).map (nsl ws)
theorem fifteen {i : Nat} (h : i < 15) : i = 0 ∨ i = 1 ∨ i = 2 ∨ i = 3 ∨ i = 4 ∨ i = 5 ∨ i = 6 ∨ i = 7 ∨ i = 8 ∨ i = 9 ∨ i = 10 ∨ i = 11 ∨ i = 12 ∨ i = 13 ∨ i = 14 := by omega
theorem nrow_both (ws : Nat → Int) (i : Nat) (h : i < 15) : bothC (nrow ws (i + 1)) 1 i 1 ((i : Int) + 1) = 0 := by
  rcases fifteen h with rfl | rfl | rfl | rfl | rfl | rfl | rfl | rfl | rfl | rfl | rfl | rfl | rfl | rfl | rfl <;> rfl
theorem nrow_at (ws : Nat → Int) (i : Nat) (h : i < 15) : lkS (nrow ws (i + 1)) 1 i = some (nsl ws i) ∧ placeOk 1 ((i : Int) + 1) = true ∧ atL (nrow ws (i + 1)) 1 ((i : Int) + 1) = none ∧ (atL (nrow ws (i + 1)) 1 i).isSome = true := by
  rcases fifteen h with rfl | rfl | rfl | rfl | rfl | rfl | rfl | rfl | rfl | rfl | rfl | rfl | rfl | rfl | rfl <;> exact ⟨rfl, rfl, rfl, rfl⟩
theorem nrow_ins (ws : Nat → Int) (i : Nat) (h : i < 15) : insL (nrow ws (i + 1)) ⟨1, (i : Int) + 1, 1, (i : Int), 5, 3, 0, 0, ws (i + 1)⟩ = nrow ws (i + 2) := by
  rcases fifteen h with rfl | rfl | rfl | rfl | rfl | rfl | rfl | rfl | rfl | rfl | rfl | rfl | rfl | rfl | rfl <;> rfl
theorem nrow_new (ws : Nat → Int) (i : Nat) (h : i < 15) : lookS (nrow ws (i + 2)) 1 ((i : Int) + 1) = some ⟨1, (i : Int) + 1, 1, (i : Int), 5, 3, 0, 0, ws (i + 1)⟩ := by
  rcases fifteen h with rfl | rfl | rfl | rfl | rfl | rfl | rfl | rfl | rfl | rfl | rfl | rfl | rfl | rfl | rfl <;> rfl
def belowN (ws : Nat → Int) (n : Nat) : Nat := (sel (lowF (nrow ws (n + 1)) 1 0) (nrow ws (n + 1))).length
theorem below_all (ws : Nat → Int) : (List.range 16).map (belowN ws) = List.range 16 := by kernel_rfl
theorem nrow_below (ws : Nat → Int) (n : Nat) (h : n ≤ 15) : (sel (lowF (nrow ws (n + 1)) 1 0) (nrow ws (n + 1))).length = n := by
  have e := congrArg (fun l => l[n]?) (below_all ws)
  have h1 : (List.range 16)[n]? = some n := by rw [List.getElem?_range (by omega)]
  simp only [List.getElem?_map, h1, Option.map_some] at e
  exact Option.some.inj e
theorem nrow_len (ws : Nat → Int) (n : Nat) : (nrow ws n).length = n := by unfold nrow; simp
theorem less_and {a r : Int} (ha : 0 ≤ a ∧ a < 8) (hr : 0 ≤ r ∧ r < 8) : bits .and .i64 a r = lessR a r := by
  obtain ⟨x, rfl⟩ := Int.eq_ofNat_of_zero_le ha.1
  obtain ⟨y, rfl⟩ := Int.eq_ofNat_of_zero_le hr.1
  have h := i64_and_nat x y (by omega) (by omega)
  unfold lessR
  have e1 : ((x : Int) % 8).toNat = x := by omega
  have e2 : ((y : Int) % 8).toNat = y := by omega
  show bits .and .i64 (x : Int) (y : Int) = (((((x : Int) % 8).toNat &&& ((y : Int) % 8).toNat : Nat)) : Int)
  rw [e1, e2]
  exact h
/-- The rights that are left. -/
def wsF (zs : List Int) : Nat → Int
  | 0 => 7
  | i + 1 => lessR (wsF zs i) (zs.getD i 0 % 8)
theorem wsF_bd (zs : List Int) (i : Nat) : 0 ≤ wsF zs i ∧ wsF zs i < 8 := by
  cases i with
  | zero => show (0 : Int) ≤ 7 ∧ (7 : Int) < 8; omega
  | succ i => exact lessR_bd _ _
/-- One copy more. -/
theorem nrow_copy (zs : List Int) (i : Nat) (h : i < 15) {r : Int} (hr : zs.getD i 0 % 8 = r) : copyC (nrow (wsF zs) (i + 1)) 1 i 1 ((i : Int) + 1) r = 0 ∧ copyL (nrow (wsF zs) (i + 1)) 1 i 1 ((i : Int) + 1) r = nrow (wsF zs) (i + 2) := by
  have hb := nrow_both (wsF zs) i h
  have hrb : 0 ≤ r ∧ r < 8 := by omega
  have hc : copyC (nrow (wsF zs) (i + 1)) 1 i 1 ((i : Int) + 1) r = 0 := by
    unfold copyC
    rw [hb, if_neg (by decide), if_neg (by omega)]
  obtain ⟨a1, a2, a3, a4⟩ := nrow_at (wsF zs) i h
  refine ⟨hc, ?_⟩
  unfold copyL
  rw [if_pos hc, a1]
  show putR (nrow (wsF zs) (i + 1)) 1 ((i : Int) + 1) 5 3 0 0 (lessR (wsF zs i) r) 1 i = _
  have hw : lessR (wsF zs i) r = wsF zs (i + 1) := by rw [← hr]; rfl
  rw [hw]
  have hbd := wsF_bd zs (i + 1)
  have hchk : chk 5 3 0 0 (wsF zs (i + 1)) = true := by
    rw [chk_iff]
    refine ⟨by omega, by omega, by omega, ?_⟩
    unfold fitP
    rw [if_neg (by omega), if_neg (by omega)]
    simp
  have hok : putOk (nrow (wsF zs) (i + 1)) 1 ((i : Int) + 1) 5 3 0 0 (wsF zs (i + 1)) 1 i = true := by
    unfold putOk
    rw [a2, a3, a4, hchk]
    simp
  unfold putR
  rw [if_pos hok]
  exact nrow_ins (wsF zs) i h
theorem rows_first (zs : List Int) : putP [] 1 0 5 3 0 0 7 0 0 ∧ insL [] ⟨1, 0, 0, 0, 5, 3, 0, 0, 7⟩ = nrow (wsF zs) 1 := ⟨⟨by decide, rfl, by decide, .inl ⟨rfl, rfl⟩⟩, rfl⟩
end Go.Proofs.Ytgpclbkekobaoaa
