/- RunqRound, reckoned: those of a lesser priority, those of the greater one gone round, some of them taken away. -/
import Derived.Test.YtennmoaaieedpaaKQue2
namespace Go.Proofs.Ytennmoaaieedpaa
open Go.RowKit
set_option linter.unusedVariables false
theorem qMost_of {L : List (Int × Int)} {p t : Int} (hm : (t, p) ∈ L) (ha : ∀ x ∈ L, x.2 ≤ p) (hp : -1 ≤ p) : qMost L = p := by
  have h1 := (qMax_ge (-1) L).2 _ hm
  unfold qMost
  rcases qMax_mem (-1) L with e | ⟨x, hx, e⟩
  · simp only at h1; omega
  · have := ha x hx
    simp only at h1
    omega
def lowQ (p : Int) (m : Nat) : List (Int × Int) := (List.range m).map fun i : Nat => (100 + (i : Int), p - 1)
def highQ (p : Int) (n j : Nat) : List (Int × Int) := (List.range n).map fun i : Nat => (1 + (((j + i) % n : Nat) : Int), p)
def risQ (p : Int) (m : Nat) : List (Int × Int) := (List.range m).map fun i : Nat => (1 + (i : Int), p)
theorem lowQ_succ (p : Int) (m : Nat) : lowQ p (m + 1) = lowQ p m ++ [(100 + (m : Int), p - 1)] := by unfold lowQ; rw [List.range_succ, List.map_append]; rfl
theorem risQ_succ (p : Int) (m : Nat) : risQ p (m + 1) = risQ p m ++ [(1 + (m : Int), p)] := by unfold risQ; rw [List.range_succ, List.map_append]; rfl
theorem lowQ_mem {p : Int} {m : Nat} {x : Int × Int} (h : x ∈ lowQ p m) : 100 ≤ x.1 ∧ x.1 < 100 + (m : Int) ∧ x.2 = p - 1 := by
  unfold lowQ at h
  obtain ⟨i, hi, rfl⟩ := List.mem_map.1 h
  have := List.mem_range.1 hi
  simp
  omega
theorem risQ_mem {p : Int} {m : Nat} {x : Int × Int} (h : x ∈ risQ p m) : 1 ≤ x.1 ∧ x.1 < 1 + (m : Int) ∧ x.2 = p := by
  unfold risQ at h
  obtain ⟨i, hi, rfl⟩ := List.mem_map.1 h
  have := List.mem_range.1 hi
  simp
  omega
theorem highQ_mem {p : Int} {n j : Nat} {x : Int × Int} (h : x ∈ highQ p n j) : 1 ≤ x.1 ∧ x.1 < 1 + (n : Int) ∧ x.2 = p := by
  unfold highQ at h
  obtain ⟨i, hi, rfl⟩ := List.mem_map.1 h
  have hi := List.mem_range.1 hi
  have := Nat.mod_lt (j + i) (show 0 < n by omega)
  refine ⟨by simp only; omega, by simp only; omega, rfl⟩
theorem highQ_zero (p : Int) (n : Nat) : highQ p n 0 = risQ p n := by
  unfold highQ risQ
  refine List.map_congr_left fun i hi => ?_
  have := List.mem_range.1 hi
  rw [Nat.zero_add, Nat.mod_eq_of_lt this]
theorem qAt_not {L : List (Int × Int)} {t : Int} (h : ∀ x ∈ L, x.1 ≠ t) : qAt L t = none := by
  unfold qAt
  refine List.findIdx?_eq_none_iff.2 fun x hx => ?_
  have := h x hx
  simpa using this
theorem qAdd_new {L : List (Int × Int)} {t p : Int} (h : ∀ x ∈ L, x.1 ≠ t) (hp : 0 ≤ p ∧ p < 8) : qAdd L t p = some (L ++ [(t, p)]) := if_pos ⟨qAt_not h, (prioOk_iff p).2 hp⟩
theorem qAdd_low {p : Int} (hp : 1 ≤ p ∧ p < 8) (m : Nat) : qAdd (lowQ p m) (100 + (m : Int)) (p - 1) = some (lowQ p (m + 1)) := by
  rw [lowQ_succ]
  exact qAdd_new (fun x hx => by have := lowQ_mem hx; omega) (by omega)
theorem qAdd_ris {p : Int} (hp : 1 ≤ p ∧ p < 8) (l m : Nat) (hm : m < 8) : qAdd (lowQ p l ++ risQ p m) (1 + (m : Int)) p = some (lowQ p l ++ risQ p (m + 1)) := by
  rw [risQ_succ, ← List.append_assoc]
  refine qAdd_new (fun x hx => ?_) (by omega)
  rcases List.mem_append.1 hx with q | q
  · have := lowQ_mem q; omega
  · have := risQ_mem q; omega
/-- Those below, those gone round j times. -/
def rndQ (p : Int) (l n j : Nat) : List (Int × Int) := lowQ p l ++ highQ p n j
theorem highQ_head (p : Int) {n : Nat} (hn : 0 < n) (j : Nat) : ∃ T, highQ p n j = (1 + ((j % n : Nat) : Int), p) :: T ∧ highQ p n (j + 1) = T ++ [(1 + ((j % n : Nat) : Int), p)] := by
  obtain ⟨m, rfl⟩ : ∃ m, n = m + 1 := ⟨n - 1, by omega⟩
  refine ⟨(List.range m).map fun i : Nat => (1 + (((j + (i + 1)) % (m + 1) : Nat) : Int), p), ?_, ?_⟩
  · unfold highQ
    rw [List.range_succ_eq_map, List.map_cons, List.map_map]
    rfl
  · unfold highQ
    rw [List.range_succ, List.map_append]
    congr 1
    · refine List.map_congr_left fun i _ => ?_
      rw [show j + 1 + i = j + (i + 1) by omega]
    · rw [List.map_cons, List.map_nil, show j + 1 + m = j + (m + 1) by omega, Nat.add_mod_right]
theorem highQ_nd {p : Int} {n j : Nat} (hn : n ≤ 8) : ((highQ p n j).map (·.1)).Nodup := by
  unfold highQ
  rw [List.map_map, List.nodup_iff_pairwise_ne, List.pairwise_map]
  refine List.Pairwise.imp_of_mem ?_ (List.nodup_range (n := n))
  intro a b ha hb hab e
  have ha := List.mem_range.1 ha
  have hb := List.mem_range.1 hb
  simp only [Function.comp] at e
  have e' : (j + a) % n = (j + b) % n := by omega
  apply hab
  match n, hn with
  | 0, _ => omega
  | 1, _ => omega
  | 2, _ => omega
  | 3, _ => omega
  | 4, _ => omega
  | 5, _ => omega
  | 6, _ => omega
  | 7, _ => omega
  | 8, _ => omega
theorem rndQ_most {p : Int} (hp : 1 ≤ p ∧ p < 8) (l : Nat) {n : Nat} (hn : 0 < n) (j : Nat) : qMost (rndQ p l n j) = p := by
  obtain ⟨T, h1, _⟩ := highQ_head p hn j
  refine qMost_of (t := 1 + ((j % n : Nat) : Int)) ?_ (fun x hx => ?_) (by omega)
  · unfold rndQ; rw [h1]; simp
  · rcases List.mem_append.1 hx with q | q
    · have := lowQ_mem q; omega
    · have := highQ_mem q; omega
theorem qRow_app (L M : List (Int × Int)) (r : Int) : qRow (L ++ M) r = qRow L r ++ qRow M r := by unfold qRow; rw [List.filter_append, List.map_append]
theorem qRow_none {L : List (Int × Int)} {r : Int} (h : ∀ x ∈ L, x.2 ≠ r) : qRow L r = [] := by
  unfold qRow
  rw [List.filter_eq_nil_iff.2 (fun x hx => by simpa using h x hx)]
  rfl
theorem qRow_all {L : List (Int × Int)} {r : Int} (h : ∀ x ∈ L, x.2 = r) : qRow L r = L.map (·.1) := by
  unfold qRow
  rw [List.filter_eq_self.2 (fun x hx => by simpa using h x hx)]
theorem rndQ_pick {p : Int} (hp : 1 ≤ p ∧ p < 8) (l : Nat) {n : Nat} (hn : 0 < n) (h8 : n ≤ 8) (j : Nat) :
    qPick (rndQ p l n j) 0 = some (1 + ((j % n : Nat) : Int)) ∧ qPicked (rndQ p l n j) (some (1 + ((j % n : Nat) : Int))) = rndQ p l n (j + 1) := by
  obtain ⟨T, h1, h2⟩ := highQ_head p hn j
  have hm := rndQ_most hp l hn j
  have hr : qReady (rndQ p l n j) = (highQ p n j).map (·.1) := by
    unfold qReady
    rw [hm]
    unfold rndQ
    rw [qRow_app, qRow_none (fun x hx => by have := lowQ_mem hx; omega), qRow_all (fun x hx => (highQ_mem hx).2.2), List.nil_append]
  have hpl : qPlace (rndQ p l n j) 0 = 0 := by
    unfold qPlace
    simp
  constructor
  · unfold qPick
    rw [hpl, hr, h1]
    rfl
  · show qTurn _ _ = _
    unfold qTurn
    rw [hm]
    unfold rndQ qDel
    rw [List.filter_append, h2, ← List.append_assoc]
    congr 2
    · refine List.filter_eq_self.2 fun x hx => ?_
      have := lowQ_mem hx
      have := Nat.mod_lt j hn
      simp only [bne_iff_ne, ne_eq]
      omega
    · have hnd := highQ_nd (p := p) (j := j) h8
      rw [h1, List.map_cons, List.nodup_cons] at hnd
      rw [h1, List.filter_cons_of_neg (by simp)]
      refine List.filter_eq_self.2 fun x hx => ?_
      simp only [bne_iff_ne, ne_eq]
      intro e
      have hm : x.1 ∈ T.map (·.1) := List.mem_map.2 ⟨x, hx, rfl⟩
      rw [e] at hm
      exact hnd.1 hm
/-- .. and without the threads 1 to k. -/
def cutQ (p : Int) (l n j k : Nat) : List (Int × Int) := lowQ p l ++ (highQ p n j).filter fun x => decide ((k : Int) < x.1)
theorem cutQ_zero (p : Int) (l n j : Nat) : cutQ p l n j 0 = rndQ p l n j := by
  unfold cutQ rndQ
  congr 1
  refine List.filter_eq_self.2 fun x hx => ?_
  have := highQ_mem hx
  simp
  omega
theorem cutQ_all (p : Int) (l n j : Nat) : cutQ p l n j n = lowQ p l := by
  unfold cutQ
  rw [List.filter_eq_nil_iff.2 (fun x hx => by have := highQ_mem hx; simp; omega), List.append_nil]
theorem highQ_has (p : Int) {n k : Nat} (h8 : n ≤ 8) (hk : k < n) (j : Nat) : (1 + (k : Int), p) ∈ highQ p n j := by
  unfold highQ
  refine List.mem_map.2 ⟨(k + (n - j % n)) % n, List.mem_range.2 (Nat.mod_lt _ (by omega)), ?_⟩
  have : (j + (k + (n - j % n)) % n) % n = k := by
    match n, h8 with
    | 0, _ => omega
    | 1, _ => omega
    | 2, _ => omega
    | 3, _ => omega
    | 4, _ => omega
    | 5, _ => omega
    | 6, _ => omega
    | 7, _ => omega
    | 8, _ => omega
  rw [this]
theorem cutQ_del (p : Int) (l : Nat) {n k : Nat} (h8 : n ≤ 8) (hk : k < n) (j : Nat) : qDel (cutQ p l n j k) (1 + (k : Int)) = cutQ p l n j (k + 1) ∧ (qAt (cutQ p l n j k) (1 + (k : Int))).isSome = true := by
  constructor
  · unfold cutQ qDel
    rw [List.filter_append, List.filter_filter]
    congr 1
    · refine List.filter_eq_self.2 fun x hx => ?_
      have := lowQ_mem hx
      simp only [bne_iff_ne, ne_eq]
      omega
    · refine List.filter_congr fun x _ => ?_
      rw [Bool.eq_iff_iff]
      simp only [Bool.and_eq_true, bne_iff_ne, ne_eq, decide_eq_true_eq]
      omega
  · obtain ⟨i, hi⟩ := qAt_of (L := cutQ p l n j k) (t := 1 + (k : Int)) (p := p) (by
      unfold cutQ
      refine List.mem_append.2 (.inr (List.mem_filter.2 ⟨highQ_has p h8 hk j, ?_⟩))
      simp only [decide_eq_true_eq]
      omega)
    rw [hi]
    rfl
theorem lowQ_ready {p : Int} (hp : 1 ≤ p ∧ p < 8) (l : Nat) : (qReady (lowQ p l)).length = l := by
  cases l with
  | zero => rfl
  | succ l =>
    have hm : qMost (lowQ p (l + 1)) = p - 1 := qMost_of (t := 100 + (l : Int)) (by rw [lowQ_succ]; simp) (fun x hx => by have := lowQ_mem hx; omega) (by omega)
    unfold qReady
    rw [hm, qRow_all (fun x hx => (lowQ_mem hx).2.2)]
    simp [lowQ]
theorem lowQ_seven (p : Int) (l : Nat) : qAt (lowQ p l) 7 = none := qAt_not (fun x hx => by have := lowQ_mem hx; omega)
end Go.Proofs.Ytennmoaaieedpaa
