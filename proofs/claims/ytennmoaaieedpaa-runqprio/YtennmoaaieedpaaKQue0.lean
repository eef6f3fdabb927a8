/- A queue of threads as a list: where one stands, its priority, who is ready, who is picked. -/
import Derived.Test.YtennmoaaieedpaaKSeg
namespace Go.Proofs.Ytennmoaaieedpaa
open Go.RowKit
set_option linter.unusedVariables false
/-- Where a thread stands. -/
def qAt (L : List (Int × Int)) (t : Int) : Option Nat := L.findIdx? fun x => x.1 == t
def qI (L : List (Int × Int)) (t : Int) : Int := match qAt L t with | some i => (i : Int) | none => -1
theorem qAt_some {L : List (Int × Int)} {t : Int} {i : Nat} (h : qAt L t = some i) : ∃ p, L[i]? = some (t, p) := by
  unfold qAt at h
  obtain ⟨hi, h1, _⟩ := List.findIdx?_eq_some_iff_getElem.1 h
  refine ⟨L[i].2, ?_⟩
  rw [List.getElem?_eq_getElem hi]
  have e : L[i].1 = t := by simpa using h1
  rw [← e]
theorem qAt_none {L : List (Int × Int)} {t : Int} (h : qAt L t = none) : ∀ p, (t, p) ∉ L := by
  intro p hp
  unfold qAt at h
  have := List.findIdx?_eq_none_iff.1 h _ hp
  simp at this
theorem qAt_of {L : List (Int × Int)} {t p : Int} (h : (t, p) ∈ L) : ∃ i, qAt L t = some i := by
  cases e : qAt L t with
  | none => exact (qAt_none e p h).elim
  | some i => exact ⟨i, rfl⟩
theorem qAt_hit {L : List (Int × Int)} {t p : Int} {j : Nat} (h : ∀ l, l < j → ∀ x, L[l]? = some x → x.1 ≠ t) (hx : L[j]? = some (t, p)) : qAt L t = some j := by
  obtain ⟨hj, hx⟩ := List.getElem?_eq_some_iff.1 hx
  unfold qAt
  refine List.findIdx?_eq_some_iff_getElem.2 ⟨hj, by rw [hx]; simp, fun l hl => ?_⟩
  have := h l hl _ (List.getElem?_eq_getElem (by omega))
  simpa using this
theorem qAt_miss {L : List (Int × Int)} {t : Int} (h : ∀ l, l < L.length → ∀ x, L[l]? = some x → x.1 ≠ t) : qAt L t = none := by
  unfold qAt
  refine List.findIdx?_eq_none_iff.2 fun x hx => ?_
  obtain ⟨l, hl, rfl⟩ := List.mem_iff_getElem.1 hx
  have := h l hl _ (List.getElem?_eq_getElem hl)
  simpa using this
theorem qI_some {L : List (Int × Int)} {t : Int} {i : Nat} (h : qAt L t = some i) : qI L t = (i : Int) := by unfold qI; rw [h]
theorem qI_none {L : List (Int × Int)} {t : Int} (h : qAt L t = none) : qI L t = -1 := by unfold qI; rw [h]
theorem q_more {L : List (Int × Int)} {t : Int} {j : Nat} {x : Int × Int} (h : ∀ l, l < j → ∀ x, L[l]? = some x → x.1 ≠ t) (hx : L[j]? = some x) (hn : x.1 ≠ t) : ∀ l, l < j + 1 → ∀ x, L[l]? = some x → x.1 ≠ t := by
  intro l hl y hy
  by_cases e : l = j
  · subst e; rw [hx] at hy; cases hy; exact hn
  · exact h l (by omega) y hy
/-- Its priority. -/
def qPr (L : List (Int × Int)) (t : Int) : Option Int := match qAt L t with | some i => (L[i]?).map (·.2) | none => none
theorem qPr_none {L : List (Int × Int)} {t : Int} (h : qPr L t = none) : qAt L t = none := by
  unfold qPr at h
  cases e : qAt L t with
  | none => rfl
  | some i =>
    obtain ⟨p, hp⟩ := qAt_some e
    rw [e] at h
    simp [hp] at h
theorem qPr_some {L : List (Int × Int)} {t p : Int} (h : qPr L t = some p) : ∃ i, qAt L t = some i ∧ L[i]? = some (t, p) := by
  unfold qPr at h
  cases e : qAt L t with
  | none => rw [e] at h; cases h
  | some i =>
    rw [e] at h
    obtain ⟨p', hp⟩ := qAt_some e
    simp only [hp, Option.map_some, Option.some.injEq] at h
    subst h
    exact ⟨i, rfl, hp⟩
theorem qPr_at {L : List (Int × Int)} {t : Int} (h : qAt L t = none) : qPr L t = none := by unfold qPr; rw [h]
/-- Each once, each of a priority. -/
structure QOk (L : List (Int × Int)) : Prop where
  nd : (L.map (·.1)).Nodup
  pr : ∀ x ∈ L, 0 ≤ x.2 ∧ x.2 < 8
theorem QOk.nil : QOk [] := ⟨by simp, by simp⟩
/-- Without a thread. -/
def qDel (L : List (Int × Int)) (t : Int) : List (Int × Int) := L.filter fun x => x.1 != t
theorem QOk.del {L : List (Int × Int)} (h : QOk L) (t : Int) : QOk (qDel L t) :=
  ⟨h.nd.sublist ((List.filter_sublist).map _), fun x hx => h.pr x (List.mem_filter.1 hx).1⟩
theorem QOk.add {L : List (Int × Int)} (h : QOk L) {t p : Int} (ht : qAt L t = none) (hp : 0 ≤ p ∧ p < 8) : QOk (L ++ [(t, p)]) := by
  refine ⟨?_, fun x hx => ?_⟩
  · rw [List.map_append, List.nodup_append]
    refine ⟨h.nd, by simp, fun a ha b hb => ?_⟩
    obtain ⟨x, hx, rfl⟩ := List.mem_map.1 ha
    obtain rfl : b = t := by simpa using hb
    rintro rfl
    exact qAt_none ht x.2 hx
  · rcases List.mem_append.1 hx with m | m
    · exact h.pr x m
    · obtain rfl : x = (t, p) := by simpa using m
      exact hp
theorem qDel_gone (L : List (Int × Int)) (t : Int) : qAt (qDel L t) t = none := by
  unfold qAt qDel
  refine List.findIdx?_eq_none_iff.2 fun x hx => ?_
  have := (List.mem_filter.1 hx).2
  simpa using this
theorem erase_filt {α : Type} (f : α → Int) {L : List α} (hn : (L.map f).Nodup) {i : Nat} {x : α} (hx : L[i]? = some x) : L.eraseIdx i = L.filter fun y => f y != f x := by
  induction L generalizing i with
  | nil => cases hx
  | cons y L ih =>
    rw [List.map_cons, List.nodup_cons] at hn
    cases i with
    | zero =>
      cases hx
      rw [List.eraseIdx_cons_zero, List.filter_cons_of_neg (by simp)]
      refine (List.filter_eq_self.2 fun z hz => ?_).symm
      simp only [bne_iff_ne, ne_eq]
      intro e
      exact hn.1 (e ▸ List.mem_map_of_mem hz)
    | succ i =>
      have hx' : L[i]? = some x := by simpa using hx
      have hy : (f y != f x) = true := by
        simp only [bne_iff_ne, ne_eq]
        intro e
        exact hn.1 (e ▸ List.mem_map_of_mem (List.mem_of_getElem? hx'))
      rw [List.eraseIdx_cons_succ, List.filter_cons_of_pos (p := fun y => f y != f x) hy, ih hn.2 hx']
theorem qDel_some {L : List (Int × Int)} (h : QOk L) {t : Int} {i : Nat} (hi : qAt L t = some i) : L.eraseIdx i = qDel L t := by
  obtain ⟨p, hp⟩ := qAt_some hi
  exact erase_filt (·.1) h.nd hp
theorem qDel_none {L : List (Int × Int)} {t : Int} (h : qAt L t = none) : qDel L t = L := by
  unfold qDel
  refine List.filter_eq_self.2 fun x hx => ?_
  simp only [bne_iff_ne, ne_eq]
  rintro rfl
  exact qAt_none h x.2 hx
theorem qDel_len (L : List (Int × Int)) (t : Int) : (qDel L t).length ≤ L.length := List.length_filter_le _ _
/-- Those of a priority. -/
def qRow (L : List (Int × Int)) (p : Int) : List Int := (L.filter fun x => x.2 == p).map (·.1)
theorem qRow_mem {L : List (Int × Int)} {p t : Int} : t ∈ qRow L p ↔ (t, p) ∈ L := by
  unfold qRow
  constructor
  · intro h
    obtain ⟨x, hx, rfl⟩ := List.mem_map.1 h
    obtain ⟨h1, h2⟩ := List.mem_filter.1 hx
    obtain rfl : x.2 = p := by simpa using h2
    exact h1
  · intro h
    exact List.mem_map.2 ⟨(t, p), List.mem_filter.2 ⟨h, by simp⟩, rfl⟩
theorem qRow_len (L : List (Int × Int)) (p : Int) : (qRow L p).length ≤ L.length := by unfold qRow; rw [List.length_map]; exact List.length_filter_le _ _
theorem qRow_nd {L : List (Int × Int)} (h : QOk L) (p : Int) : (qRow L p).Nodup := h.nd.sublist ((List.filter_sublist).map _)
theorem qRow_add (L : List (Int × Int)) (t p r : Int) : qRow (L ++ [(t, p)]) r = if p = r then qRow L r ++ [t] else qRow L r := by
  unfold qRow
  rw [List.filter_append, List.map_append]
  by_cases h : p = r
  · simp [h]
  · rw [if_neg h]
    have : (p == r) = false := beq_eq_false_iff_ne.2 h
    simp [this]
theorem qRow_del (L : List (Int × Int)) (t r : Int) : qRow (qDel L t) r = (qRow L r).filter fun x => x != t := by
  unfold qRow qDel
  rw [List.filter_map, List.filter_filter, List.filter_filter]
  congr 1
  refine List.filter_congr fun x _ => ?_
  simp [Bool.and_comm]
theorem q_one {L : List (Int × Int)} (h : (L.map (·.1)).Nodup) {t p r : Int} (ht : (t, p) ∈ L) (hr : (t, r) ∈ L) : p = r := by
  induction L with
  | nil => cases ht
  | cons y L ih =>
    rw [List.map_cons, List.nodup_cons] at h
    rcases List.mem_cons.1 ht with e | m
    · rcases List.mem_cons.1 hr with e' | m'
      · rw [← e] at e'; cases e'; rfl
      · subst e; exact (h.1 (List.mem_map_of_mem (f := (·.1)) m')).elim
    · rcases List.mem_cons.1 hr with e' | m'
      · subst e'; exact (h.1 (List.mem_map_of_mem (f := (·.1)) m)).elim
      · exact ih h.2 m m'
theorem qRow_other {L : List (Int × Int)} (h : QOk L) {t p r : Int} (ht : (t, p) ∈ L) (hr : r ≠ p) : (qRow L r).filter (fun x => x != t) = qRow L r := by
  refine List.filter_eq_self.2 fun x hx => ?_
  simp only [bne_iff_ne, ne_eq]
  rintro rfl
  exact hr (q_one h.nd (qRow_mem.1 hx) ht)
theorem filt_erase {M : List Int} (hn : M.Nodup) {k : Nat} {t : Int} (hk : M[k]? = some t) : M.eraseIdx k = M.filter fun x => x != t :=
  erase_filt (fun x : Int => x) (by simpa using hn) hk
/-- The greatest priority that any has, at least that. -/
def qMax (m : Int) (L : List (Int × Int)) : Int := L.foldl (fun m x => max m x.2) m
def qMost (L : List (Int × Int)) : Int := qMax (-1) L
theorem qMax_take {m : Int} {L : List (Int × Int)} {j : Nat} {x : Int × Int} (hx : L[j]? = some x) : qMax m (L.take (j + 1)) = max (qMax m (L.take j)) x.2 := by
  obtain ⟨hj, rfl⟩ := List.getElem?_eq_some_iff.1 hx
  unfold qMax
  rw [List.take_succ_eq_append_getElem hj, List.foldl_append]
  rfl
theorem qMax_ge (m : Int) (L : List (Int × Int)) : m ≤ qMax m L ∧ ∀ x ∈ L, x.2 ≤ qMax m L := by
  induction L generalizing m with
  | nil => exact ⟨Int.le_refl _, by simp⟩
  | cons y L ih =>
    have e : qMax m (y :: L) = qMax (max m y.2) L := rfl
    rw [e]
    obtain ⟨h1, h2⟩ := ih (max m y.2)
    refine ⟨by omega, fun x hx => ?_⟩
    rcases List.mem_cons.1 hx with rfl | hx
    · omega
    · exact h2 x hx
theorem qMax_mem (m : Int) (L : List (Int × Int)) : qMax m L = m ∨ ∃ x ∈ L, x.2 = qMax m L := by
  induction L generalizing m with
  | nil => exact .inl rfl
  | cons y L ih =>
    have e : qMax m (y :: L) = qMax (max m y.2) L := rfl
    rw [e]
    rcases ih (max m y.2) with h | ⟨x, hx, h⟩
    · by_cases hm : m ≤ y.2
      · exact .inr ⟨y, by simp, by rw [h]; omega⟩
      · exact .inl (by rw [h]; omega)
    · exact .inr ⟨x, by simp [hx], h⟩
def qReady (L : List (Int × Int)) : List Int := qRow L (qMost L)
theorem qMost_nil {L : List (Int × Int)} (h : QOk L) : qReady L = [] ↔ L = [] := by
  constructor
  · intro e
    cases L with
    | nil => rfl
    | cons y L =>
      exfalso
      have h0 := (h.pr y (by simp)).1
      have h1 := (qMax_ge (-1) (y :: L)).2 y (by simp)
      rcases qMax_mem (-1) (y :: L) with q | ⟨x, hx, q⟩
      · omega
      · have : x.1 ∈ qReady (y :: L) := qRow_mem.2 (by unfold qMost; rw [← q]; exact hx)
        rw [e] at this
        cases this
  · rintro rfl; rfl
theorem qMost_in {L : List (Int × Int)} (h : QOk L) (hn : L ≠ []) : 0 ≤ qMost L ∧ qMost L < 8 := by
  obtain ⟨y, hy⟩ := List.exists_mem_of_ne_nil L hn
  have h0 := (h.pr y hy).1
  have h1 := (qMax_ge (-1) L).2 y hy
  unfold qMost
  rcases qMax_mem (-1) L with q | ⟨x, hx, q⟩
  · omega
  · have := h.pr x hx; omega
theorem qMost_above {L : List (Int × Int)} {r : Int} (hr : qMost L < r) : qRow L r = [] := by
  cases e : qRow L r with
  | nil => rfl
  | cons t M =>
    exfalso
    have : t ∈ qRow L r := by rw [e]; simp
    have h1 := (qMax_ge (-1) L).2 _ (qRow_mem.1 this)
    unfold qMost at hr
    omega
/-- Number i of those ready, the place. -/
def qPlace (L : List (Int × Int)) (i : Int) : Nat := ((max i 0) % ((qReady L).length : Int)).toNat
theorem qPlace_lt {L : List (Int × Int)} (h : qReady L ≠ []) (i : Int) : qPlace L i < (qReady L).length := by
  have h0 : 0 < (qReady L).length := List.length_pos_iff.2 h
  have h1 := Int.emod_lt_of_pos (max i 0) (show (0 : Int) < ((qReady L).length : Int) by omega)
  have h2 := Int.emod_nonneg (max i 0) (show ((qReady L).length : Int) ≠ 0 by omega)
  unfold qPlace
  omega
theorem qPlace_is {L : List (Int × Int)} (h : qReady L ≠ []) (i : Int) : (qPlace L i : Int) = (max i 0) % ((qReady L).length : Int) := by
  have h0 : 0 < (qReady L).length := List.length_pos_iff.2 h
  have h2 := Int.emod_nonneg (max i 0) (show ((qReady L).length : Int) ≠ 0 by omega)
  unfold qPlace
  omega
/-- Picked: it goes to the end. -/
def qTurn (L : List (Int × Int)) (t : Int) : List (Int × Int) := qDel L t ++ [(t, qMost L)]
theorem qTurn_ok {L : List (Int × Int)} (h : QOk L) (hn : L ≠ []) (t : Int) : QOk (qTurn L t) := (h.del t).add (qDel_gone L t) (qMost_in h hn)
theorem qDel_less {L : List (Int × Int)} {t p : Int} (h : (t, p) ∈ L) : (qDel L t).length + 1 ≤ L.length := by
  induction L with
  | nil => cases h
  | cons y L ih =>
    by_cases e : y.1 = t
    · have e2 : qDel (y :: L) t = qDel L t := by unfold qDel; rw [List.filter_cons_of_neg (by simp [e])]
      rw [e2, List.length_cons]
      have := qDel_len L t
      omega
    · have e2 : qDel (y :: L) t = y :: qDel L t := by unfold qDel; rw [List.filter_cons_of_pos (by simp [e])]
      rw [e2, List.length_cons, List.length_cons]
      rcases List.mem_cons.1 h with q | q
      · subst q; exact (e rfl).elim
      · have := ih q; omega
/-- Set to a priority. -/
def qSet (L : List (Int × Int)) (t p : Int) : Option (List (Int × Int)) := match qPr L t with
  | none => none
  | some q => if 0 ≤ p ∧ p < 8 then if q = p then some L else some (qDel L t ++ [(t, p)]) else none
theorem qSet_ok {L L' : List (Int × Int)} (h : QOk L) {t p : Int} (hs : qSet L t p = some L') : QOk L' ∧ L'.length ≤ L.length := by
  unfold qSet at hs
  cases e : qPr L t with
  | none => rw [e] at hs; cases hs
  | some q =>
    obtain ⟨i, _, hi⟩ := qPr_some e
    simp only [e] at hs
    by_cases hp : 0 ≤ p ∧ p < 8
    · rw [if_pos hp] at hs
      by_cases hq : q = p
      · rw [if_pos hq] at hs; cases hs; exact ⟨h, Nat.le_refl _⟩
      · rw [if_neg hq] at hs; cases hs
        refine ⟨(h.del t).add (qDel_gone L t) hp, ?_⟩
        have := qDel_less (List.mem_of_getElem? hi)
        simpa using this
    · rw [if_neg hp] at hs; cases hs
end Go.Proofs.Ytennmoaaieedpaa
