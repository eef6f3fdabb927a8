/- Slots as a forest: it stays one, whatever is put, dropped, moved. -/
import Derived.Test.YtnkpjefbmmhjjaaKTree
namespace Go.Proofs.Ytnkpjefbmmhjjaa
open Go.RowKit
set_option linter.unusedVariables false
theorem Forest.nil : Forest [] := ⟨by simp, by simp, by simp, ⟨fun _ => 0, by simp⟩⟩
theorem Forest.self {L : List Sl} (h : Forest L) {x : Sl} (hx : x ∈ L) : parP x ≠ ppl x := by
  intro e
  obtain ⟨d, hd⟩ := h.rank
  have : parP x ≠ (0, 0) := by
    rw [e]
    intro q
    exact h.zero (List.mem_map.2 ⟨x, hx, q⟩)
  have := hd x hx this
  rw [e] at this
  exact Nat.lt_irrefl _ this
theorem ok_ne {n s : Int} (h : placeOk n s = true) : (n, s) ≠ ((0 : Int), (0 : Int)) := by
  intro e
  have e1 : n = 0 := congrArg Prod.fst e
  have e2 : s = 0 := congrArg Prod.snd e
  have := ok_notN h
  rw [e1, e2] at this
  simp [isN] at this
theorem not_in {L : List Sl} {n s : Int} (h : atL L n s = none) : (n, s) ∉ L.map ppl := by
  intro hm
  obtain ⟨x, hx, e⟩ := List.mem_map.1 hm
  exact at_none_iff.1 h x hx ⟨congrArg Prod.fst e, congrArg Prod.snd e⟩
theorem in_of {L : List Sl} {n s : Int} (h : atL L n s ≠ none) : (n, s) ∈ L.map ppl := by
  cases ha : atL L n s with
  | none => exact absurd ha h
  | some i =>
    obtain ⟨x, hx, e1, e2⟩ := atL_some ha
    exact List.mem_map.2 ⟨x, List.mem_of_getElem? hx, by unfold ppl; rw [e1, e2]⟩
theorem Forest.up' {L : List Sl} (h : Forest L) {x : Sl} (hx : x ∈ L) : parP x = (0, 0) ∨ parP x ∈ L.map ppl := by
  rcases h.up x hx with e | ⟨y, hy, e⟩
  · exact .inl e
  · exact .inr (List.mem_map.2 ⟨y, hy, e⟩)
theorem Forest.of {L : List Sl} (nd : (L.map ppl).Nodup) (ok : ∀ x ∈ L, placeOk x.n x.s = true) (up : ∀ x ∈ L, parP x = (0, 0) ∨ parP x ∈ L.map ppl) (rank : ∃ d : Int × Int → Nat, ∀ x ∈ L, parP x ≠ (0, 0) → d (parP x) < d (ppl x)) : Forest L :=
  ⟨nd, ok, fun x hx => by
    rcases up x hx with e | e
    · exact .inl e
    · obtain ⟨y, hy, e⟩ := List.mem_map.1 e
      exact .inr ⟨y, hy, e⟩, rank⟩
theorem Forest.perm {L M : List Sl} (h : Forest L) (p : L.Perm M) : Forest M := by
  obtain ⟨d, hd⟩ := h.rank
  exact Forest.of ((p.map _).nodup_iff.1 h.nd) (fun x hx => h.ok x (p.mem_iff.2 hx)) (fun x hx => (h.up' (p.mem_iff.2 hx)).imp id (fun q => (p.map _).mem_iff.1 q)) ⟨d, fun x hx => hd x (p.mem_iff.2 hx)⟩
theorem Forest.put {L : List Sl} (h : Forest L) {n s k o z b r u v : Int} (hp : putP L n s k o z b r u v) : Forest (insL L ⟨n, s, u, v, k, o, z, b, r⟩) := by
  obtain ⟨p1, p2, p3, p4⟩ := hp
  refine Forest.perm ?_ (ins_perm L _).symm
  have hno := not_in p2
  have hz := ok_ne p1
  have hpar : (u, v) = ((0 : Int), (0 : Int)) ∨ (u, v) ∈ L.map ppl := by
    rcases p4 with ⟨e1, e2⟩ | q
    · exact .inl (by rw [e1, e2])
    · exact .inr (in_of q)
  have hne : (u, v) ≠ (n, s) := by
    intro e
    rcases hpar with q | q
    · exact hz (e.symm.trans q)
    · exact hno (e ▸ q)
  obtain ⟨d, hd⟩ := h.rank
  refine Forest.of ?_ ?_ ?_ ⟨fun q => if q = (n, s) then d (u, v) + 1 else d q, ?_⟩
  · rw [List.map_append]
    refine List.nodup_append.2 ⟨h.nd, by simp, fun a ha c hc e => ?_⟩
    simp at hc
    subst e hc
    exact hno ha
  · intro x hx
    rcases List.mem_append.1 hx with m | m
    · exact h.ok x m
    · simp at m
      rw [m]
      exact p1
  · intro x hx
    rw [List.map_append]
    rcases List.mem_append.1 hx with m | m
    · exact (h.up' m).imp id (fun q => List.mem_append.2 (.inl q))
    · simp at m
      rw [m]
      exact hpar.imp id (fun q => List.mem_append.2 (.inl q))
  · intro x hx hne0
    rcases List.mem_append.1 hx with m | m
    · have e1 : ppl x ≠ (n, s) := fun e => hno (e ▸ List.mem_map.2 ⟨x, m, rfl⟩)
      have e2 : parP x ≠ (n, s) := by
        intro e
        rcases h.up' m with q | q
        · exact hne0 q
        · exact hno (e ▸ q)
      simp only [e1, e2, if_false]
      exact hd x m hne0
    · simp at m
      rw [m]
      show (if (u, v) = (n, s) then _ else d (u, v)) < (if (n, s) = (n, s) then d (u, v) + 1 else _)
      rw [if_neg hne, if_pos rfl]
      omega
theorem Forest.drop {L : List Sl} (h : Forest L) {n s : Int} {i : Nat} {x : Sl} (ha : atL L n s = some i) (hx : L[i]? = some x) : Forest (dropL L n s i x) := by
  have hxL := List.mem_of_getElem? hx
  obtain ⟨x', hx', e1, e2⟩ := atL_some ha
  rw [hx] at hx'
  cases hx'
  have hpx : ppl x = (n, s) := by unfold ppl; rw [e1, e2]
  have hk : ∀ y, ppl (reF n s x.u x.v y) = ppl y := reF_key n s x.u x.v
  obtain ⟨d, hd⟩ := h.rank
  have hmap : (dropL L n s i x).map ppl = (L.eraseIdx i).map ppl := by unfold dropL; rw [List.map_map]; exact List.map_congr_left fun y _ => hk y
  have hmem : ∀ q, q ∈ L.map ppl → q ≠ (n, s) → q ∈ (dropL L n s i x).map ppl := by
    intro q hq hne
    rw [hmap, erase_key h.nd hx]
    obtain ⟨y, hy, e⟩ := List.mem_map.1 hq
    refine List.mem_map.2 ⟨y, List.mem_filter.2 ⟨hy, ?_⟩, e⟩
    rw [hpx, e]
    simpa using hne
  have hpar : ∀ y ∈ L, y ≠ x → (parP (reF n s x.u x.v y) = parP y ∧ parP y ≠ (n, s)) ∨ (parP (reF n s x.u x.v y) = parP x ∧ parP y = (n, s)) := by
    intro y hy hne
    unfold reF
    by_cases e : y.u = n ∧ y.v = s
    · rw [if_pos e]
      exact .inr ⟨rfl, by unfold parP; rw [e.1, e.2]⟩
    · rw [if_neg e]
      exact .inl ⟨rfl, fun q => e ⟨congrArg Prod.fst q, congrArg Prod.snd q⟩⟩
  have hxs := h.self hxL
  rw [hpx] at hxs
  have hne : ∀ y ∈ L.eraseIdx i, y ∈ L ∧ y ≠ x := by
    intro y hy
    refine ⟨(List.eraseIdx_sublist L i).subset hy, ?_⟩
    rintro rfl
    rw [erase_key h.nd hx] at hy
    have := (List.mem_filter.1 hy).2
    simp at this
  refine Forest.of ?_ (drop_ok h.ok n s i x) ?_ ⟨d, ?_⟩
  · rw [hmap]
    exact List.Sublist.nodup ((List.eraseIdx_sublist L i).map _) h.nd
  · intro y' hy'
    unfold dropL at hy'
    obtain ⟨y, hy, rfl⟩ := List.mem_map.1 hy'
    obtain ⟨hyL, hyx⟩ := hne y hy
    rcases hpar y hyL hyx with ⟨e, q⟩ | ⟨e, q⟩
    · rw [e]
      rcases h.up' hyL with z | z
      · exact .inl z
      · exact .inr (hmem _ z q)
    · rw [e]
      rcases h.up' hxL with z | z
      · exact .inl z
      · exact .inr (hmem _ z hxs)
  · intro y' hy' hz
    unfold dropL at hy'
    obtain ⟨y, hy, rfl⟩ := List.mem_map.1 hy'
    obtain ⟨hyL, hyx⟩ := hne y hy
    rw [hk]
    rcases hpar y hyL hyx with ⟨e, q⟩ | ⟨e, q⟩
    · rw [e] at hz ⊢
      exact hd y hyL hz
    · rw [e] at hz ⊢
      have h1 := hd x hxL hz
      have h2 := hd y hyL (by rw [q]; exact ok_ne (by have := h.ok x hxL; rw [e1, e2] at this; exact this))
      rw [q, ← hpx] at h2
      omega
theorem Forest.move {L : List Sl} (h : Forest L) {n s n' s' : Int} {i : Nat} {x : Sl} (ha : atL L n s = some i) (hx : L[i]? = some x) (hp : placeOk n' s' = true) (hn' : atL L n' s' = none) : Forest (moveL L n s n' s' i x) := by
  have hxL := List.mem_of_getElem? hx
  obtain ⟨x', hx', e1, e2⟩ := atL_some ha
  rw [hx] at hx'
  cases hx'
  have hpx : ppl x = (n, s) := by unfold ppl; rw [e1, e2]
  have hno := not_in hn'
  have hz' := ok_ne hp
  have hzn : (n, s) ≠ ((0 : Int), (0 : Int)) := ok_ne (by have := h.ok x hxL; rw [e1, e2] at this; exact this)
  obtain ⟨d, hd⟩ := h.rank
  have hxs := h.self hxL
  rw [hpx] at hxs
  refine Forest.perm (L := (L.eraseIdx i).map (reF n s n' s') ++ [{ x with n := n', s := s' }]) ?_ ?_
  rotate_left
  · unfold moveL
    have h1 := (ins_perm (L.eraseIdx i) { x with n := n', s := s' }).map (reF n s n' s')
    refine List.Perm.trans ?_ h1.symm
    rw [List.map_append]
    have e3 : reF n s n' s' { x with n := n', s := s' } = { x with n := n', s := s' } := by
      unfold reF
      exact if_neg fun q => hxs (by unfold parP; exact Prod.ext q.1 q.2)
    rw [List.map_cons, e3]
    exact List.Perm.refl _
  have hk : ∀ y, ppl (reF n s n' s' y) = ppl y := reF_key n s n' s'
  have hmap : ((L.eraseIdx i).map (reF n s n' s') ++ [{ x with n := n', s := s' }]).map ppl = (L.eraseIdx i).map ppl ++ [(n', s')] := by
    rw [List.map_append, List.map_map]
    congr 1
    exact List.map_congr_left fun y _ => hk y
  have hmem : ∀ q, q ∈ L.map ppl → q ≠ (n, s) → q ∈ (L.eraseIdx i).map ppl ++ [(n', s')] := by
    intro q hq hne
    rw [erase_key h.nd hx]
    obtain ⟨y, hy, e⟩ := List.mem_map.1 hq
    refine List.mem_append.2 (.inl (List.mem_map.2 ⟨y, List.mem_filter.2 ⟨hy, ?_⟩, e⟩))
    rw [hpx, e]
    simpa using hne
  have hpar : ∀ y ∈ L, (parP (reF n s n' s' y) = parP y ∧ parP y ≠ (n, s)) ∨ (parP (reF n s n' s' y) = (n', s') ∧ parP y = (n, s)) := by
    intro y hy
    unfold reF
    by_cases e : y.u = n ∧ y.v = s
    · rw [if_pos e]
      exact .inr ⟨rfl, by unfold parP; rw [e.1, e.2]⟩
    · rw [if_neg e]
      exact .inl ⟨rfl, fun q => e ⟨congrArg Prod.fst q, congrArg Prod.snd q⟩⟩
  have hsub : ∀ y ∈ L.eraseIdx i, y ∈ L := fun y hy => (List.eraseIdx_sublist L i).subset hy
  have hpn : ∀ y ∈ L, parP y ≠ (n', s') := by
    intro y hy e
    rcases h.up' hy with q | q
    · exact hz' (e.symm.trans q)
    · exact hno (e ▸ q)
  refine Forest.of ?_ ?_ ?_ ⟨fun q => if q = (n', s') then d (n, s) else d q, ?_⟩
  · rw [hmap]
    refine List.nodup_append.2 ⟨List.Sublist.nodup ((List.eraseIdx_sublist L i).map _) h.nd, by simp, fun a ha c hc e => ?_⟩
    simp at hc
    subst e hc
    exact hno (((List.eraseIdx_sublist L i).map ppl).subset ha)
  · intro y' hy'
    rcases List.mem_append.1 hy' with m | m
    · obtain ⟨y, hy, rfl⟩ := List.mem_map.1 m
      have e := hk y
      have q1 : (reF n s n' s' y).n = y.n := congrArg Prod.fst e
      have q2 : (reF n s n' s' y).s = y.s := congrArg Prod.snd e
      rw [q1, q2]
      exact h.ok y (hsub y hy)
    · simp at m
      rw [m]
      exact hp
  · intro y' hy'
    rw [hmap]
    rcases List.mem_append.1 hy' with m | m
    · obtain ⟨y, hy, rfl⟩ := List.mem_map.1 m
      rcases hpar y (hsub y hy) with ⟨e, q⟩ | ⟨e, q⟩
      · rw [e]
        rcases h.up' (hsub y hy) with z | z
        · exact .inl z
        · exact .inr (hmem _ z q)
      · rw [e]
        exact .inr (by simp)
    · simp at m
      rw [m]
      show parP x = (0, 0) ∨ parP x ∈ _
      rcases h.up' hxL with z | z
      · exact .inl z
      · exact .inr (hmem _ z hxs)
  · intro y' hy' hz
    rcases List.mem_append.1 hy' with m | m
    · obtain ⟨y, hy, rfl⟩ := List.mem_map.1 m
      have hyL := hsub y hy
      rw [hk]
      have q1 : ppl y ≠ (n', s') := fun e => hno (e ▸ List.mem_map.2 ⟨y, hyL, rfl⟩)
      simp only [q1, if_false]
      rcases hpar y hyL with ⟨e, q⟩ | ⟨e, q⟩
      · rw [e] at hz ⊢
        rw [if_neg (hpn y hyL)]
        exact hd y hyL hz
      · rw [e, if_pos rfl]
        have h2 := hd y hyL (by rw [q]; exact hzn)
        rw [q] at h2
        exact h2
    · simp at m
      rw [m] at hz ⊢
      show (if parP x = (n', s') then _ else d (parP x)) < (if (n', s') = (n', s') then d (n, s) else _)
      rw [if_neg (hpn x hxL), if_pos rfl, ← hpx]
      exact hd x hxL hz
end Go.Proofs.Ytnkpjefbmmhjjaa
