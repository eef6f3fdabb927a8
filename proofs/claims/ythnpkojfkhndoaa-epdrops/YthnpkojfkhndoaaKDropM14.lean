/- EpDrops, reckoned. -/
import Derived.Test.YthnpkojfkhndoaaKTw14
import Derived.Test.YthnpkojfkhndoaaKRem
namespace Go.Proofs.Ythnpkojfkhndoaa
open Go.RowKit
set_option linter.unusedVariables false
def mkd (i : Nat) : Ms := (1, (i : Int), (i : Int), (i : Int), false)
def rkd (i : Nat) : Rc := (1, (i : Int), (i : Int))
/-- Those that wait, of so many, where they send, or receive. -/
def eS (b : Bool) (G : Nat → Bool) (j n : Nat) : List Ms := if b = true then (remN G j n).map mkd else []
def eR (b : Bool) (G : Nat → Bool) (j n : Nat) : List Rc := if b = true then [] else (remN G j n).map rkd
theorem eS_len (b : Bool) (G : Nat → Bool) (j n : Nat) : (eS b G j n).length ≤ n := by
  unfold eS
  split
  · rw [List.length_map]; exact remN_len G j n
  · exact Nat.zero_le _
theorem eR_len (b : Bool) (G : Nat → Bool) (j n : Nat) : (eR b G j n).length ≤ n := by
  unfold eR
  split
  · exact Nat.zero_le _
  · rw [List.length_map]; exact remN_len G j n
theorem id_other (i k : Nat) : (!decide (((1 : Int), (i : Int)) = ((1 : Int), (k : Int)))) = (i != k) := by
  by_cases h : i = k
  · subst h; simp
  · have e1 : (i != k) = true := bne_iff_ne.2 h
    rw [e1, decide_eq_false (by intro e; have := congrArg Prod.snd e; simp at this; omega)]; rfl
theorem msN_mkd (i k : Nat) : msN (1, (k : Int)) (mkd i) = (i != k) := id_other i k
theorem rcN_rkd (i k : Nat) : rcN (1, (k : Int)) (rkd i) = (i != k) := id_other i k
theorem eS_drop (b : Bool) (G : Nat → Bool) (n k : Nat) : (eS b G 0 n).filter (msN (1, (k : Int))) = eS b (setG G k) 0 n := by
  unfold eS
  cases b with
  | false => rfl
  | true =>
    rw [if_pos rfl, if_pos rfl, ← remN_drop, List.filter_map]
    congr 1
    exact List.filter_congr fun i _ => msN_mkd i k
theorem eR_drop (b : Bool) (G : Nat → Bool) (n k : Nat) : (eR b G 0 n).filter (rcN (1, (k : Int))) = eR b (setG G k) 0 n := by
  unfold eR
  cases b with
  | true => rfl
  | false =>
    rw [if_neg (by simp), if_neg (by simp), ← remN_drop, List.filter_map]
    congr 1
    exact List.filter_congr fun i _ => rcN_rkd i k
theorem e_less {b : Bool} {G : Nat → Bool} {n k : Nat} (hk : k < n) : (decide ((eS b (setG G k) 0 n).length < (eS b G 0 n).length) || decide ((eR b (setG G k) 0 n).length < (eR b G 0 n).length)) = !G k := by
  rw [← remN_less hk]
  unfold eS eR
  cases b <;> simp
theorem eS_more (n : Nat) : eS true (fun _ => false) 0 (n + 1) = eS true (fun _ => false) 0 n ++ [mkd n] := by unfold eS; rw [if_pos rfl, if_pos rfl, remN_more, List.map_append]; rfl
theorem eR_more (n : Nat) : eR false (fun _ => false) 0 (n + 1) = eR false (fun _ => false) 0 n ++ [rkd n] := by unfold eR; rw [if_neg (by simp), if_neg (by simp), remN_more, List.map_append]; rfl
theorem eS_gone (b : Bool) {G : Nat → Bool} {n j : Nat} (h : j < n) (hg : G j = true) : eS b G j n = eS b G (j + 1) n := by unfold eS; rw [remN_at h, if_pos hg]
theorem eR_gone (b : Bool) {G : Nat → Bool} {n j : Nat} (h : j < n) (hg : G j = true) : eR b G j n = eR b G (j + 1) n := by unfold eR; rw [remN_at h, if_pos hg]
theorem eS_here {G : Nat → Bool} {n j : Nat} (h : j < n) (hg : G j = false) : eS true G j n = mkd j :: eS true G (j + 1) n := by unfold eS; rw [if_pos rfl, if_pos rfl, remN_at h, if_neg (by simp [hg])]; rfl
theorem eR_here {G : Nat → Bool} {n j : Nat} (h : j < n) (hg : G j = false) : eR false G j n = rkd j :: eR false G (j + 1) n := by unfold eR; rw [if_neg (by simp), if_neg (by simp), remN_at h, if_neg (by simp [hg])]; rfl
theorem eS_end (b : Bool) (G : Nat → Bool) (n : Nat) : eS b G n n = [] := by unfold eS; rw [remN_end]; cases b <;> rfl
theorem eR_end (b : Bool) (G : Nat → Bool) (n : Nat) : eR b G n n = [] := by unfold eR; rw [remN_end]; cases b <;> rfl
theorem eS_zero (b : Bool) : eS b (fun _ => false) 0 0 = [] := eS_end b _ 0
theorem eR_zero (b : Bool) : eR b (fun _ => false) 0 0 = [] := eR_end b _ 0
theorem eS_not (G : Nat → Bool) (j n : Nat) : eS false G j n = [] := rfl
theorem eR_not (G : Nat → Bool) (j n : Nat) : eR true G j n = [] := rfl
end Go.Proofs.Ythnpkojfkhndoaa
