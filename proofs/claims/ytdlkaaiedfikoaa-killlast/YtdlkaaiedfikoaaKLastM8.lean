/- Mathematics of KillLast: capabilities of one object, deleted one by one. -/
import Derived.Test.YtdlkaaiedfikoaaKLaw8
import Derived.Test.YtdlkaaiedfikoaaKNm5
namespace Go.Proofs.Ytdlkaaiedfikoaa
open Go.RowKit
set_option linter.unusedVariables false
def laS (i : Nat) : Sl := ⟨9, (i : Int), 0, 0, 4, 7, 0, (i : Int), (i : Int) % 8⟩
def laL (l : List Nat) : List Sl := l.map laS
def laZ (l : List Nat) : List Int := l.map fun (i : Nat) => (i : Int)
theorem laL_len (l : List Nat) : (laL l).length = l.length := by unfold laL; simp
theorem laZ_len (l : List Nat) : (laZ l).length = l.length := by unfold laZ; simp
theorem laZ_get {l : List Nat} {k i : Nat} (h : l[k]? = some i) : (laZ l)[k]? = some (i : Int) := by unfold laZ; rw [List.getElem?_map, h]; rfl
theorem laZ_cut (l : List Nat) (k : Nat) : (laZ l).take k ++ (laZ l).drop (k + 1) = laZ (l.eraseIdx k) := by
  unfold laZ
  rw [← List.map_take, ← List.map_drop, ← List.map_append, List.eraseIdx_eq_take_drop_succ]
theorem laL_succ (n : Nat) : laL (List.range (n + 1)) = laL (List.range n) ++ [laS n] := by unfold laL; rw [List.range_succ, List.map_append]; rfl
theorem laZ_succ (n : Nat) : laZ (List.range (n + 1)) = laZ (List.range n) ++ [(n : Int)] := by unfold laZ; rw [List.range_succ, List.map_append]; rfl
theorem la_ins (n : Nat) : insL (laL (List.range n)) ⟨9, (n : Int), 0, 0, 4, 7, 0, (n : Int), (n : Int) % 8⟩ = laL (List.range (n + 1)) := by
  rw [ins_end, laL_succ]
  · rfl
  · intro y hy
    unfold laL at hy
    obtain ⟨j, hj, rfl⟩ := List.mem_map.1 hy
    have hj' := List.mem_range.1 hj
    rw [before_iff]
    exact .inr ⟨rfl, show (j : Int) < (n : Int) by omega⟩
theorem la_put (n : Nat) (h : n < 12) : putP (laL (List.range n)) 9 (n : Int) 4 7 0 (n : Int) ((n : Int) % 8) 0 0 := by
  refine ⟨?_, ?_, ?_, .inl ⟨rfl, rfl⟩⟩
  · rw [placeOk_iff]; unfold placeP; omega
  · refine at_none_iff.2 fun x hx => ?_
    unfold laL at hx
    obtain ⟨j, hj, rfl⟩ := List.mem_map.1 hx
    have hj' := List.mem_range.1 hj
    intro q
    have : (j : Int) = (n : Int) := q.2
    omega
  · rw [chk_iff]
    unfold chkP fitP
    rw [if_neg (by decide), if_neg (by decide), if_pos (by decide)]
    omega
theorem la_at {l : List Nat} (hn : l.Nodup) {k i : Nat} (h : l[k]? = some i) : atL (laL l) 9 (i : Int) = some k ∧ (laL l)[k]? = some (laS i) := by
  obtain ⟨hk, e⟩ := List.getElem?_eq_some_iff.1 h
  have hg : (laL l)[k]? = some (laS i) := by unfold laL; rw [List.getElem?_map, h]; rfl
  refine ⟨?_, hg⟩
  unfold atL
  rw [List.findIdx?_eq_some_iff_getElem]
  refine ⟨by rw [laL_len]; exact hk, ?_, ?_⟩
  · have := (List.getElem?_eq_some_iff.1 hg).2
    rw [this]
    simp [laS]
  · intro j hj
    have hjl : j < l.length := by omega
    have : (laL l)[j]'(by rw [laL_len]; exact hjl) = laS (l[j]) := by unfold laL; simp
    rw [this]
    have hne : l[j] ≠ i := by
      intro q
      rw [← e] at q
      exact List.pairwise_iff_getElem.1 hn j k hjl hk hj q
    simp [laS]
    omega
theorem la_drop (l : List Nat) (k i : Nat) : dropL (laL l) 9 (i : Int) k (laS i) = laL (l.eraseIdx k) := by
  unfold dropL laL
  rw [List.eraseIdx_eq_take_drop_succ, List.eraseIdx_eq_take_drop_succ, ← List.map_take, ← List.map_drop, ← List.map_append, List.map_map]
  refine List.map_congr_left fun x _ => ?_
  show reF 9 _ _ _ (laS x) = laS x
  unfold reF
  rw [if_neg]
  intro q
  have : (0 : Int) = 9 := q.1
  omega
theorem la_named (l : List Nat) : (sel (nameF 4 7 0) (laL l)).length = l.length := by
  unfold sel
  rw [List.length_map, List.filter_eq_self.2, laL_len]
  intro x hx
  unfold laL at hx
  obtain ⟨j, _, rfl⟩ := List.mem_map.1 hx
  unfold nameF namesP laS
  simp
/-- What is gone with one of them. -/
def laO (l : List Nat) : List (Int × Int) := if l.length = 0 then [(4, 7)] else []
theorem laO_len (l : List Nat) : (laO l).length = if l.length = 0 then 1 else 0 := by unfold laO; split <;> rfl
theorem la_del {l : List Nat} (hn : l.Nodup) {k i m : Nat} (h : l[k]? = some i) (hm : 0 < m) : delF m (laL l) 9 (i : Int) = (laO (l.eraseIdx k), laL (l.eraseIdx k), 0) := by
  obtain ⟨m, rfl⟩ : ∃ j, m = j + 1 := ⟨m - 1, by omega⟩
  obtain ⟨h1, h2⟩ := la_at hn h
  have e : nameF (laS i).k (laS i).o (laS i).z = nameF 4 7 0 := rfl
  rw [delF_some h1 h2, la_drop, e, la_named]
  unfold laO
  by_cases h0 : (l.eraseIdx k).length = 0
  · rw [if_neg (by omega), if_pos (show (laS i).k ≠ 2 from by show (4 : Int) ≠ 2; decide), if_pos h0]
    rfl
  · rw [if_pos (by omega), if_neg h0]
theorem la_nodup (n : Nat) : (List.range n).Nodup := List.nodup_range
theorem la_erase {l : List Nat} (h : l.Nodup) (k : Nat) : (l.eraseIdx k).Nodup := List.Sublist.nodup (List.eraseIdx_sublist l k) h
theorem la_erase_len {l : List Nat} {k : Nat} (h : k < l.length) : (l.eraseIdx k).length + 1 = l.length := by rw [List.length_eraseIdx, if_pos h]; omega
end Go.Proofs.Ytdlkaaiedfikoaa
