/- What Delete and Revoke of chapter 8 come to, as functions of the slots. -/
import Derived.Test.YtdlkaaiedfikoaaKTab7
import Derived.Test.YtdlkaaiedfikoaaKLk
namespace Go.Proofs.Ytdlkaaiedfikoaa
open Go.RowKit
set_option linter.unusedVariables false
/-- So many slots of a node from one on, each deleted by f: what is gone, what is left. -/
def delS (f : List Sl → Int → Int → List (Int × Int) × List Sl × Int) (o : Int) : Nat → Int → List Sl → List (Int × Int) × List Sl
  | 0, _, L => ([], L)
  | c + 1, s, L => ((f L o s).1 ++ (delS f o c (s + 1) (f L o s).2.1).1, (delS f o c (s + 1) (f L o s).2.1).2)
/-- Deleted, with so many steps at most: what is gone, what is left, the code. -/
def delF : Nat → List Sl → Int → Int → List (Int × Int) × List Sl × Int
  | 0, L, _, _ => ([], L, 4)
  | m + 1, L, n, s => match atL L n s with
    | none => ([], L, 4)
    | some i => match L[i]? with
      | none => ([], L, 4)
      | some y => if 0 < (sel (nameF y.k y.o y.z) (dropL L n s i y)).length then ([], dropL L n s i y, 0) else if y.k ≠ 2 then ([(y.k, y.o)], dropL L n s i y, 0) else ((y.k, y.o) :: (delS (delF m) y.o 16 0 (dropL L n s i y)).1, (delS (delF m) y.o 16 0 (dropL L n s i y)).2, 0)
/-- f leaves as many as there were, less what is gone. -/
def Shrinks (f : List Sl → Int → Int → List (Int × Int) × List Sl × Int) : Prop := ∀ L n s, (f L n s).1.length + (f L n s).2.1.length ≤ L.length
theorem delS_len {f : List Sl → Int → Int → List (Int × Int) × List Sl × Int} (h : Shrinks f) (o : Int) (c : Nat) : ∀ s L, (delS f o c s L).1.length + (delS f o c s L).2.length ≤ L.length := by
  induction c with
  | zero => intro s L; simp [delS]
  | succ c ih =>
    intro s L
    have h1 := h L o s
    have h2 := ih (s + 1) (f L o s).2.1
    simp only [delS, List.length_append]
    omega
theorem drop_len1 {L : List Sl} {n s : Int} {i : Nat} {y : Sl} (h : L[i]? = some y) : (dropL L n s i y).length + 1 = L.length := by
  have hi := (List.getElem?_eq_some_iff.1 h).1
  unfold dropL
  rw [List.length_map, List.length_eraseIdx, if_pos hi]
  omega
theorem delF_len (m : Nat) : Shrinks (delF m) := by
  induction m with
  | zero => intro L n s; simp [delF]
  | succ m ih =>
    intro L n s
    unfold delF
    cases ha : atL L n s with
    | none => simp
    | some i =>
      simp only
      cases hy : L[i]? with
      | none => simp
      | some y =>
        have hd := drop_len1 (n := n) (s := s) hy
        simp only
        split
        · simp; omega
        · split
          · simp; omega
          · have h2 := delS_len ih y.o 16 0 (dropL L n s i y)
            simp only [List.length_cons]
            omega
/-- One slot more. -/
theorem delS_more (f : List Sl → Int → Int → List (Int × Int) × List Sl × Int) (o : Int) (c : Nat) (s : Int) (L : List Sl) : delS f o (c + 1) s L = ((f L o s).1 ++ (delS f o c (s + 1) (f L o s).2.1).1, (delS f o c (s + 1) (f L o s).2.1).2) := rfl
theorem delF_none {m : Nat} {L : List Sl} {n s : Int} (h : lkS L n s = none) : delF m L n s = ([], L, 4) := by
  cases m with
  | zero => rfl
  | succ m =>
    unfold delF
    cases ha : atL L n s with
    | none => rfl
    | some i =>
      obtain ⟨y, hy, _⟩ := atL_some ha
      unfold lkS at h
      rw [ha] at h
      simp only at h
      rw [hy] at h
      cases h
theorem delF_some {m : Nat} {L : List Sl} {n s : Int} {i : Nat} {y : Sl} (ha : atL L n s = some i) (hy : L[i]? = some y) : delF (m + 1) L n s = if 0 < (sel (nameF y.k y.o y.z) (dropL L n s i y)).length then ([], dropL L n s i y, 0) else if y.k ≠ 2 then ([(y.k, y.o)], dropL L n s i y, 0) else ((y.k, y.o) :: (delS (delF m) y.o 16 0 (dropL L n s i y)).1, (delS (delF m) y.o 16 0 (dropL L n s i y)).2, 0) := by
  rw [delF, ha]
  simp only [hy]
/-- The first below a place deleted, as long as there is one. -/
def revF : Nat → List Sl → Int → Int → List (Int × Int) × List Sl
  | 0, L, _, _ => ([], L)
  | m + 1, L, n, s => match sel (lowF L n s) L with
    | [] => ([], L)
    | q :: _ => if (lkS (delF L.length L q.1 q.2).2.1 n s).isSome = true then ((delF L.length L q.1 q.2).1 ++ (revF m (delF L.length L q.1 q.2).2.1 n s).1, (revF m (delF L.length L q.1 q.2).2.1 n s).2) else ((delF L.length L q.1 q.2).1, (delF L.length L q.1 q.2).2.1)
theorem revF_len (m : Nat) : ∀ L n s, (revF m L n s).1.length + (revF m L n s).2.length ≤ L.length := by
  induction m with
  | zero => intro L n s; simp [revF]
  | succ m ih =>
    intro L n s
    unfold revF
    cases hs : sel (lowF L n s) L with
    | nil => simp
    | cons q qs =>
      have h1 := delF_len L.length L q.1 q.2
      simp only
      split
      · have h2 := ih (delF L.length L q.1 q.2).2.1 n s
        simp only [List.length_append]
        omega
      · exact h1
end Go.Proofs.Ytdlkaaiedfikoaa
