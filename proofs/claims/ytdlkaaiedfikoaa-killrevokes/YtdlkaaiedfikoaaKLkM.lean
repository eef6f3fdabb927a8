/- What lies at a place when one more is put, or one is dropped. -/
import Derived.Test.YtdlkaaiedfikoaaKTb
import Derived.Test.YtdlkaaiedfikoaaKLk
namespace Go.Proofs.Ytdlkaaiedfikoaa
open Go.RowKit
set_option linter.unusedVariables false
def isAt (n s : Int) (x : Sl) : Bool := x.n == n && x.s == s
theorem isAt_iff {n s : Int} {x : Sl} : isAt n s x = true ↔ x.n = n ∧ x.s = s := by unfold isAt; simp
theorem lk_find (L : List Sl) (n s : Int) : lkS L n s = L.find? (isAt n s) := by
  unfold lkS atL
  induction L with
  | nil => rfl
  | cons x L ih =>
    rw [List.findIdx?_cons, List.find?_cons]
    have e : (x.n == n && x.s == s) = isAt n s x := rfl
    rw [e]
    cases hx : isAt n s x with
    | true => rfl
    | false =>
      rw [← ih]
      have e2 : (fun x : Sl => x.n == n && x.s == s) = isAt n s := rfl
      rw [e2]
      cases List.findIdx? (isAt n s) L with
      | none => rfl
      | some i => rfl
theorem lk_none {L : List Sl} {n s : Int} (h : atL L n s = none) : lkS L n s = none := by unfold lkS; rw [h]
theorem at_none {L : List Sl} {n s : Int} (h : lkS L n s = none) : atL L n s = none := by
  cases ha : atL L n s with
  | none => rfl
  | some i =>
    obtain ⟨y, hy, _⟩ := atL_some ha
    unfold lkS at h
    rw [ha] at h
    simp only at h
    rw [hy] at h
    cases h
theorem at_some {L : List Sl} {n s : Int} {x : Sl} (h : lkS L n s = some x) : ∃ i, atL L n s = some i ∧ L[i]? = some x := by
  cases ha : atL L n s with
  | none => rw [lk_none ha] at h; cases h
  | some i => unfold lkS at h; rw [ha] at h; exact ⟨i, rfl, h⟩
theorem lk_ins {L : List Sl} {x : Sl} (h : lkS L x.n x.s = none) (n s : Int) : lkS (insL L x) n s = if x.n = n ∧ x.s = s then some x else lkS L n s := by
  rw [lk_find, lk_find]
  rw [lk_find] at h
  unfold insL
  rw [List.find?_append, List.find?_cons]
  by_cases e : x.n = n ∧ x.s = s
  · obtain ⟨rfl, rfl⟩ := e
    rw [if_pos ⟨rfl, rfl⟩, isAt_iff.2 ⟨rfl, rfl⟩]
    have e1 : (L.takeWhile fun y => before y.n y.s x.n x.s).find? (isAt x.n x.s) = none := by
      rw [List.find?_eq_none] at h ⊢
      exact fun y hy => h y ((List.takeWhile_sublist _).mem hy)
    rw [e1]
    rfl
  · rw [if_neg e]
    have e1 : isAt n s x = false := by
      cases q : isAt n s x with
      | false => rfl
      | true => exact absurd (isAt_iff.1 q) e
    rw [e1]
    simp only
    rw [← List.find?_append, List.takeWhile_append_dropWhile]
theorem find_erase {L : List Sl} {n s n' s' : Int} {i : Nat} (ha : L.findIdx? (isAt n s) = some i) (hne : ¬ (n = n' ∧ s = s')) : (L.eraseIdx i).find? (isAt n' s') = L.find? (isAt n' s') := by
  induction L generalizing i with
  | nil => cases ha
  | cons x L ih =>
    rw [List.findIdx?_cons] at ha
    cases hx : isAt n s x with
    | true =>
      rw [hx] at ha
      have e : i = 0 := by simpa using ha.symm
      subst e
      have e1 : isAt n' s' x = false := by
        cases q : isAt n' s' x with
        | false => rfl
        | true =>
          have h1 := isAt_iff.1 hx
          have h2 := isAt_iff.1 q
          exact absurd ⟨h1.1.symm.trans h2.1, h1.2.symm.trans h2.2⟩ hne
      rw [List.eraseIdx_cons_zero, List.find?_cons, e1]
    | false =>
      rw [hx] at ha
      cases hL : L.findIdx? (isAt n s) with
      | none => rw [hL] at ha; simp at ha
      | some j =>
        rw [hL] at ha
        have e : i = j + 1 := by simpa using ha.symm
        subst e
        rw [List.eraseIdx_cons_succ, List.find?_cons, List.find?_cons, ih hL]
theorem find_map_re (L : List Sl) (n s u v a b : Int) : (L.map (reF a b u v)).find? (isAt n s) = (L.find? (isAt n s)).map (reF a b u v) := by
  rw [List.find?_map]
  have e : isAt n s ∘ reF a b u v = isAt n s := by
    funext x
    show isAt n s (reF a b u v x) = isAt n s x
    unfold reF
    split <;> rfl
  rw [e]
/-- Elsewhere the same, but for its parent. -/
theorem lk_drop {L : List Sl} {n s n' s' : Int} {i : Nat} {x : Sl} (ha : atL L n s = some i) (hne : ¬ (n = n' ∧ s = s')) : lkS (dropL L n s i x) n' s' = (lkS L n' s').map (reF n s x.u x.v) := by
  rw [lk_find, lk_find]
  unfold dropL
  rw [find_map_re, find_erase ha hne]
theorem find_gone {L : List Sl} {n s : Int} {i : Nat} (hn : (L.map ppl).Nodup) (ha : L.findIdx? (isAt n s) = some i) : (L.eraseIdx i).find? (isAt n s) = none := by
  induction L generalizing i with
  | nil => cases ha
  | cons x L ih =>
    rw [List.map_cons, List.nodup_cons] at hn
    rw [List.findIdx?_cons] at ha
    cases hx : isAt n s x with
    | true =>
      rw [hx] at ha
      have e : i = 0 := by simpa using ha.symm
      subst e
      rw [List.eraseIdx_cons_zero, List.find?_eq_none]
      intro y hy q
      have h1 := isAt_iff.1 hx
      have h2 := isAt_iff.1 q
      refine hn.1 (List.mem_map.2 ⟨y, hy, ?_⟩)
      unfold ppl
      rw [h2.1, h2.2, h1.1, h1.2]
    | false =>
      rw [hx] at ha
      cases hL : L.findIdx? (isAt n s) with
      | none => rw [hL] at ha; simp at ha
      | some j =>
        rw [hL] at ha
        have e : i = j + 1 := by simpa using ha.symm
        subst e
        rw [List.eraseIdx_cons_succ, List.find?_cons, hx, ih hn.2 hL]
theorem lk_gone {L : List Sl} {n s : Int} {i : Nat} {x : Sl} (hn : (L.map ppl).Nodup) (ha : atL L n s = some i) : lkS (dropL L n s i x) n s = none := by
  rw [lk_find]
  unfold dropL
  rw [find_map_re, find_gone hn ha]
  rfl
theorem reF_same (n s u v : Int) (x : Sl) : (reF n s u v x).k = x.k ∧ (reF n s u v x).o = x.o ∧ (reF n s u v x).z = x.z ∧ (reF n s u v x).b = x.b ∧ (reF n s u v x).r = x.r := by
  unfold reF
  split <;> exact ⟨rfl, rfl, rfl, rfl, rfl⟩
end Go.Proofs.Ytdlkaaiedfikoaa
