/- Mathematics of KillNodes: all that can be, reckoned. -/
import Derived.Test.YtdlkaaiedfikoaaKLaw8
namespace Go.Proofs.Ytdlkaaiedfikoaa
open Go.RowKit
set_option linter.unusedVariables false
/-- The table behind j nodes of N; b: which frames are kept. -/
def nodA (N : Nat) (b : List Bool) (i : Nat) (L : List Sl) : List Sl := insL L ⟨(i : Int), 2, 0, 0, 3, 30 + (i : Int), 0, 0, 0⟩
def nodB (b : List Bool) (i : Nat) (L : List Sl) : List Sl := if b.getD i false = true then insL L ⟨21, (i : Int), 0, 0, 3, 30 + (i : Int), 0, 0, 0⟩ else L
def nodC (N i : Nat) (L : List Sl) : List Sl := if i < N then insL L ⟨(i : Int), 9, 0, 0, 2, (i : Int) + 1, 0, 0, 0⟩ else L
def nodT (N : Nat) (b : List Bool) : Nat → List Sl
  | 0 => [⟨20, 0, 0, 0, 2, 1, 0, 0, 0⟩]
  | j + 1 => nodC N (j + 1) (nodB b (j + 1) (nodA N b (j + 1) (nodT N b j)))
def nodW (N : Nat) (b : List Bool) : Nat → List (Int × Int)
  | 0 => [(2, 1)]
  | j + 1 => (nodW N b j ++ (if b.getD (j + 1) false = true then [] else [(3, 30 + ((j + 1 : Nat) : Int))])) ++ (if j + 1 < N then [(2, ((j + 1 : Nat) : Int) + 1)] else [])
def nodS (b : List Bool) : Nat → Nat
  | 0 => 0
  | j + 1 => if b.getD (j + 1) false = true then nodS b j + 1 else nodS b j
def putB (L : List Sl) (n s k o : Int) : Bool := placeOk n s && (atL L n s).isNone && chk k o 0 0 0
theorem putB_put {L : List Sl} {n s k o : Int} (h : putB L n s k o = true) : putP L n s k o 0 0 0 0 0 := by
  unfold putB at h
  rw [Bool.and_eq_true, Bool.and_eq_true, Option.isNone_iff_eq_none] at h
  exact ⟨h.1.1, h.1.2, h.2, .inl ⟨rfl, rfl⟩⟩
/-- All lists of so many Booleans. -/
def allB : Nat → List (List Bool)
  | 0 => [[]]
  | n + 1 => (allB n).map (fun l => false :: l) ++ (allB n).map (fun l => true :: l)
theorem allB_mem (n : Nat) : ∀ l : List Bool, l.length = n → l ∈ allB n := by
  induction n with
  | zero => intro l h; rw [List.length_eq_zero_iff.1 h]; simp [allB]
  | succ n ih =>
    intro l h
    cases l with
    | nil => cases h
    | cons x l =>
      have := ih l (by simpa using h)
      unfold allB
      cases x
      · exact List.mem_append_left _ (List.mem_map.2 ⟨l, this, rfl⟩)
      · exact List.mem_append_right _ (List.mem_map.2 ⟨l, this, rfl⟩)
def stepB (N : Nat) (b : List Bool) (j : Nat) : Bool :=
  putB (nodT N b j) ((j + 1 : Nat) : Int) 2 3 (30 + ((j + 1 : Nat) : Int)) && (!(b.getD (j + 1) false) || putB (nodA N b (j + 1) (nodT N b j)) 21 ((j + 1 : Nat) : Int) 3 (30 + ((j + 1 : Nat) : Int))) && (!(decide (j + 1 < N)) || putB (nodB b (j + 1) (nodA N b (j + 1) (nodT N b j))) ((j + 1 : Nat) : Int) 9 2 (((j + 1 : Nat) : Int) + 1))
def endB (N : Nat) (b : List Bool) : Bool :=
  decide ((nodT N b N).length ≤ 18) && ((delF 18 (nodT N b N) 20 0).1 == nodW N b N && ((delF 18 (nodT N b N) 20 0).2.2 == 0 && ((delF 18 (nodT N b N) 20 0).2.1.length == nodS b N)))
def nodAll (N : Nat) : Bool := (allB 6).all (fun b => (List.range N).all (fun j => stepB N (false :: b) j) && endB N (false :: b))
theorem nod1 : nodAll 1 = true := by kernel_rfl
theorem nod2 : nodAll 2 = true := by kernel_rfl
theorem nod3 : nodAll 3 = true := by kernel_rfl
theorem nod4 : nodAll 4 = true := by kernel_rfl
theorem nod5 : nodAll 5 = true := by kernel_rfl
theorem nod6 : nodAll 6 = true := by kernel_rfl
theorem nod_all {N : Nat} (h1 : 1 ≤ N) (h6 : N ≤ 6) : nodAll N = true := by
  have : N = 1 ∨ N = 2 ∨ N = 3 ∨ N = 4 ∨ N = 5 ∨ N = 6 := by omega
  rcases this with rfl | rfl | rfl | rfl | rfl | rfl
  · exact nod1
  · exact nod2
  · exact nod3
  · exact nod4
  · exact nod5
  · exact nod6
/-- Which frames are kept, of the first six. -/
def nbits (ks : List Bool) : List Bool := false :: (List.range 6).map (fun i => ks.getD (i + 1) false)
theorem nbits_get (ks : List Bool) {i : Nat} (h1 : 1 ≤ i) (h6 : i ≤ 6) : (nbits ks).getD i false = ks.getD i false := by
  have : i = 1 ∨ i = 2 ∨ i = 3 ∨ i = 4 ∨ i = 5 ∨ i = 6 := by omega
  rcases this with rfl | rfl | rfl | rfl | rfl | rfl <;> rfl
theorem nod_facts (ks : List Bool) {N : Nat} (h1 : 1 ≤ N) (h6 : N ≤ 6) : (∀ j, j < N → stepB N (nbits ks) j = true) ∧ endB N (nbits ks) = true := by
  have h := List.all_eq_true.1 (nod_all h1 h6) ((List.range 6).map (fun i => ks.getD (i + 1) false)) (allB_mem 6 _ (by simp))
  rw [Bool.and_eq_true] at h
  exact ⟨fun j hj => List.all_eq_true.1 h.1 j (List.mem_range.2 hj), h.2⟩
theorem nod_1 {N : Nat} {b : List Bool} {j i : Nat} (hs : stepB N b j = true) (hi : j + 1 = i) : putP (nodT N b j) (i : Int) 2 3 (30 + (i : Int)) 0 0 0 0 0 := by
  subst hi
  unfold stepB at hs
  rw [Bool.and_eq_true, Bool.and_eq_true] at hs
  exact putB_put hs.1.1
theorem nod_2 {N : Nat} {b : List Bool} {j i : Nat} (hs : stepB N b j = true) (hi : j + 1 = i) (hb : b.getD i false = true) : putP (nodA N b i (nodT N b j)) 21 (i : Int) 3 (30 + (i : Int)) 0 0 0 0 0 := by
  subst hi
  unfold stepB at hs
  rw [Bool.and_eq_true, Bool.and_eq_true, hb] at hs
  exact putB_put (by simpa using hs.1.2)
theorem nod_3 {N : Nat} {b : List Bool} {j i : Nat} (hs : stepB N b j = true) (hi : j + 1 = i) (hn : i < N) : putP (nodB b i (nodA N b i (nodT N b j))) (i : Int) 9 2 ((i : Int) + 1) 0 0 0 0 0 := by
  subst hi
  unfold stepB at hs
  rw [Bool.and_eq_true, Bool.and_eq_true, decide_eq_true hn] at hs
  exact putB_put (by simpa using hs.2)
theorem nod_len (N : Nat) (b : List Bool) (j : Nat) : (nodT N b j).length ≤ 1 + 3 * j := by
  induction j with
  | zero => simp [nodT]
  | succ j ih =>
    have hin : ∀ (L : List Sl) x, (insL L x).length = L.length + 1 := fun L x => by rw [(ins_perm L x).length_eq]; simp
    unfold nodT nodC nodB nodA
    split <;> split <;> simp only [hin] <;> omega
theorem nodW_len (N : Nat) (b : List Bool) (j : Nat) : (nodW N b j).length ≤ 1 + 2 * j := by
  induction j with
  | zero => simp [nodW]
  | succ j ih =>
    unfold nodW
    split <;> split <;> simp <;> omega
theorem nodS_len (b : List Bool) (j : Nat) : nodS b j ≤ j := by
  induction j with
  | zero => simp [nodS]
  | succ j ih => unfold nodS; split <;> omega
theorem trip8 {a : List (Int × Int)} {c : Int} {R : List (Int × Int) × List Sl × Int} (h1 : R.1 = a) (h2 : R.2.2 = c) : R = (a, R.2.1, c) := by rw [← h1, ← h2]
theorem nod_end {N : Nat} {b : List Bool} (h : endB N b = true) : (nodT N b N).length ≤ 18 ∧ ∃ L', delF 18 (nodT N b N) 20 0 = (nodW N b N, L', 0) ∧ L'.length = nodS b N := by
  unfold endB at h
  rw [Bool.and_eq_true, Bool.and_eq_true, Bool.and_eq_true] at h
  obtain ⟨h1, h2, h3, h4⟩ := h
  exact ⟨of_decide_eq_true h1, (delF 18 (nodT N b N) 20 0).2.1, trip8 (eq_of_beq h2) (eq_of_beq h3), eq_of_beq h4⟩
/-- What is wanted ahead of the next node. -/
def nodV (N : Nat) (b : List Bool) (j i : Nat) : List (Int × Int) := nodW N b j ++ (if b.getD i false = true then [] else [(3, 30 + (i : Int))])
theorem nodT_more {N : Nat} {b : List Bool} {j i : Nat} (hi : j + 1 = i) (h : i < N) : nodT N b i = insL (nodB b i (nodA N b i (nodT N b j))) ⟨(i : Int), 9, 0, 0, 2, (i : Int) + 1, 0, 0, 0⟩ ∧ nodW N b i = nodV N b j i ++ [(2, (i : Int) + 1)] := by
  subst hi
  exact ⟨by rw [nodT, nodC, if_pos h], by rw [nodW, if_pos h]; rfl⟩
theorem nodT_same {N : Nat} {b : List Bool} {j i : Nat} (hi : j + 1 = i) (h : ¬ i < N) : nodT N b i = nodB b i (nodA N b i (nodT N b j)) ∧ nodW N b i = nodV N b j i := by
  subst hi
  exact ⟨by rw [nodT, nodC, if_neg h], by rw [nodW, if_neg h, List.append_nil]; rfl⟩
theorem nodB_yes {N : Nat} {b : List Bool} {j i : Nat} (hi : j + 1 = i) (h : b.getD i false = true) (L : List Sl) : nodB b i L = insL L ⟨21, (i : Int), 0, 0, 3, 30 + (i : Int), 0, 0, 0⟩ ∧ nodV N b j i = nodW N b j ∧ nodS b i = nodS b j + 1 := by
  subst hi
  exact ⟨by rw [nodB, if_pos h], by rw [nodV, if_pos h, List.append_nil], by rw [nodS, if_pos h]⟩
theorem nodB_no {N : Nat} {b : List Bool} {j i : Nat} (hi : j + 1 = i) (h : b.getD i false = false) (L : List Sl) : nodB b i L = L ∧ nodV N b j i = nodW N b j ++ [(3, 30 + (i : Int))] ∧ nodS b i = nodS b j := by
  subst hi
  exact ⟨by rw [nodB, if_neg (by rw [h]; simp)], by rw [nodV, if_neg (by rw [h]; simp)], by rw [nodS, if_neg (by rw [h]; simp)]⟩
end Go.Proofs.Ytdlkaaiedfikoaa
