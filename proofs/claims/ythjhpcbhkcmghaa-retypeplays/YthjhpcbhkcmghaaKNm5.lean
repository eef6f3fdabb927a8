/- SlotsNamed: one slot behind the other, each with an object of its number. -/
import Derived.Test.YthjhpcbhkcmghaaKIntRow
import Derived.Test.YthjhpcbhkcmghaaKRefuse
namespace Go.Proofs.Ythjhpcbhkcmghaa
open Go.RowKit
set_option linter.unusedVariables false
def nob (zs : List Int) (i : Nat) : Int := 1 + zs.getD i 0 % 5
def nsl (zs : List Int) (i : Nat) : Sl := ⟨1 + (i : Int) / 16, (i : Int) % 16, 0, 0, 4, nob zs i, 0, (i : Int), (i : Int) % 8⟩
def nmS (zs : List Int) (n : Nat) : List Sl := (List.range n).map (nsl zs)
def nobs (zs : List Int) (n : Nat) : List Int := (List.range n).map (nob zs)
theorem nobs_succ (zs : List Int) (n : Nat) : nobs zs (n + 1) = nobs zs n ++ [nob zs n] := by unfold nobs; rw [List.range_succ, List.map_append]; rfl
theorem nobs_len (zs : List Int) (n : Nat) : (nobs zs n).length = n := by unfold nobs; simp
theorem nobs_get (zs : List Int) (n i : Nat) (h : i < n) : (nobs zs n)[i]? = some (nob zs i) := by unfold nobs; simp [h]
theorem nmS_len (zs : List Int) (n : Nat) : (nmS zs n).length = n := by unfold nmS; simp
theorem nmS_get (zs : List Int) (n i : Nat) (h : i < n) : (nmS zs n)[i]? = some (nsl zs i) := by unfold nmS; simp [h]
theorem ins_end {L : List Sl} {x : Sl} (h : ∀ y ∈ L, before y.n y.s x.n x.s = true) : insL L x = L ++ [x] := by
  unfold insL
  have h1 : L.takeWhile (fun y => before y.n y.s x.n x.s) = L := by
    induction L with
    | nil => rfl
    | cons a L ih => rw [List.takeWhile_cons, if_pos (h a (List.mem_cons_self ..)), ih (fun y hy => h y (List.mem_cons_of_mem _ hy))]
  have h2 : L.dropWhile (fun y => before y.n y.s x.n x.s) = [] := by
    induction L with
    | nil => rfl
    | cons a L ih =>
      rw [List.dropWhile_cons, if_pos (h a (List.mem_cons_self ..))]
      refine ih (fun y hy => h y (List.mem_cons_of_mem _ hy)) ?_
      rw [List.takeWhile_cons, if_pos (h a (List.mem_cons_self ..))] at h1
      exact (List.cons.inj h1).2
  rw [h1, h2]
theorem nm_ins (zs : List Int) (i : Nat) : insL (nmS zs i) (nsl zs i) = nmS zs (i + 1) := by
  rw [ins_end]
  · unfold nmS; rw [List.range_succ, List.map_append]; rfl
  · intro y hy
    unfold nmS at hy
    obtain ⟨k, hk, rfl⟩ := List.mem_map.1 hy
    have hk' := List.mem_range.1 hk
    rw [before_iff]
    unfold beforeP nsl
    simp only
    omega
theorem nob_bd (zs : List Int) (i : Nat) : 1 ≤ nob zs i ∧ nob zs i ≤ 5 := by unfold nob; omega
theorem nm_put (zs : List Int) (i : Nat) (h : i < 30) : putP (nmS zs i) (1 + (i : Int) / 16) ((i : Int) % 16) 4 (nob zs i) 0 (i : Int) ((i : Int) % 8) 0 0 := by
  have hb := nob_bd zs i
  refine put_is ?_ ?_ ?_ (.inl rfl)
  · rw [placeOk_iff]; unfold placeP; omega
  · rw [at_none_iff]
    intro x hx e
    unfold nmS at hx
    obtain ⟨k, hk, rfl⟩ := List.mem_map.1 hx
    have hk' := List.mem_range.1 hk
    unfold nsl at e
    simp only at e
    omega
  · rw [chk_iff]
    unfold chkP fitP
    refine ⟨by omega, by omega, by omega, ?_⟩
    simp
    omega
theorem name_is (zs : List Int) (i : Nat) (o : Int) : nameF 4 o 0 (nsl zs i) = decide (nob zs i = o) := by
  unfold nameF namesP nsl
  simp
theorem name_not (zs : List Int) (n : Nat) (o : Int) : sel (nameF 5 o 0) (nmS zs n) = [] := by
  unfold sel
  rw [List.map_eq_nil_iff, List.filter_eq_nil_iff]
  intro x hx
  unfold nmS at hx
  obtain ⟨k, hk, rfl⟩ := List.mem_map.1 hx
  unfold nameF namesP nsl
  simp
/-- How many of the first j are named. -/
def cnt (zs : List Int) (n : Nat) (o : Int) (j : Nat) : Nat := (sel (nameF 4 o 0) ((nmS zs n).take j)).length
theorem cnt_zero (zs : List Int) (n : Nat) (o : Int) : cnt zs n o 0 = 0 := by unfold cnt; simp [sel]
theorem cnt_le (zs : List Int) (n : Nat) (o : Int) (j : Nat) : cnt zs n o j ≤ j := by
  unfold cnt
  have := sel_len (nameF 4 o 0) ((nmS zs n).take j)
  rw [List.length_take] at this
  omega
theorem cnt_all (zs : List Int) (n : Nat) (o : Int) : cnt zs n o n = (sel (nameF 4 o 0) (nmS zs n)).length := by
  unfold cnt
  rw [List.take_of_length_le (by rw [nmS_len]; exact Nat.le_refl _)]
theorem cnt_no (zs : List Int) (n : Nat) (o : Int) (j : Nat) (hj : j < n) (h : ¬ nob zs j = o) : cnt zs n o (j + 1) = cnt zs n o j := by
  unfold cnt
  rw [sel_no (nmS_get zs n j hj) (by rw [name_is]; exact decide_eq_false h)]
theorem cnt_yes (zs : List Int) (n : Nat) (o : Int) (j : Nat) (hj : j < n) (h : nob zs j = o) :
    cnt zs n o (j + 1) = cnt zs n o j + 1 ∧ (sel (nameF 4 o 0) (nmS zs n))[cnt zs n o j]? = some (1 + (j : Int) / 16, (j : Int) % 16) := by
  have hs := sel_yes (f := nameF 4 o 0) (nmS_get zs n j hj) (by rw [name_is]; exact decide_eq_true h)
  constructor
  · unfold cnt
    rw [hs, List.length_append]
    rfl
  · have e : sel (nameF 4 o 0) (nmS zs n) = sel (nameF 4 o 0) ((nmS zs n).take (j + 1)) ++ sel (nameF 4 o 0) ((nmS zs n).drop (j + 1)) := by
      unfold sel
      rw [← List.map_append, ← List.filter_append, List.take_append_drop]
    rw [e, hs, List.append_assoc, List.getElem?_append_right (by unfold cnt; omega)]
    unfold cnt
    rw [Nat.sub_self]
    rfl
theorem cnt_lt (zs : List Int) (n : Nat) (o : Int) (j : Nat) (hj : j < n) (h : nob zs j = o) : cnt zs n o j < (sel (nameF 4 o 0) (nmS zs n)).length :=
  (List.getElem?_eq_some_iff.1 (cnt_yes zs n o j hj h).2).1
end Go.Proofs.Ythjhpcbhkcmghaa
