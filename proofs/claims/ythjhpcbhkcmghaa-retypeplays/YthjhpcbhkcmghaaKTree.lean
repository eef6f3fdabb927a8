/- Slots as a forest: what is below a place, found in whatever way. -/
import Derived.Test.YthjhpcbhkcmghaaKSlots9
namespace Go.Proofs.Ythjhpcbhkcmghaa
open Go.RowKit
set_option linter.unusedVariables false
def parP (x : Sl) : Int × Int := (x.u, x.v)
/-- No place twice; each parent is there; nobody is below itself. -/
structure Forest (L : List Sl) : Prop where
  nd : (L.map ppl).Nodup
  ok : ∀ x ∈ L, placeOk x.n x.s = true
  up : ∀ x ∈ L, parP x = (0, 0) ∨ ∃ y ∈ L, ppl y = parP x
  rank : ∃ d : Int × Int → Nat, ∀ x ∈ L, parP x ≠ (0, 0) → d (parP x) < d (ppl x)
theorem Forest.zero {L : List Sl} (h : Forest L) : ((0 : Int), (0 : Int)) ∉ L.map ppl := by
  intro hm
  obtain ⟨x, hx, e⟩ := List.mem_map.1 hm
  have := ok_notN (h.ok x hx)
  have e1 : x.n = 0 := congrArg Prod.fst e
  have e2 : x.s = 0 := congrArg Prod.snd e
  rw [e1, e2] at this
  simp [isN] at this
theorem Forest.pin {L : List Sl} (h : Forest L) : ∀ x ∈ L, PIn (x.u, x.v) := by
  intro x hx
  rcases h.up x hx with e | ⟨y, hy, e⟩
  · unfold parP at e
    rw [e]
    exact ⟨in64_of (by decide) (by decide), in64_of (by decide) (by decide)⟩
  · unfold parP at e
    rw [← e]
    exact pin_ok (h.ok y hy)
theorem par_is {L : List Sl} (hn : (L.map ppl).Nodup) {y : Sl} (hy : y ∈ L) : parL L y.n y.s = parP y := by
  unfold parL
  cases ha : atL L y.n y.s with
  | none => exact absurd ⟨rfl, rfl⟩ (at_none_iff.1 ha y hy)
  | some i =>
    obtain ⟨x, hx, e1, e2⟩ := atL_some ha
    simp only [hx]
    have : x = y := key_eq hn (List.mem_of_getElem? hx) hy (by unfold ppl; rw [e1, e2])
    rw [this]
    rfl
/-- The lists of children, in whatever order. -/
structure Kids (L : List Sl) (K : Int × Int → List (Int × Int)) : Prop where
  none : K (0, 0) = []
  some : ∀ q, q ≠ (0, 0) → (K q).Perm (sel (sonF q.1 q.2) L)
theorem sonF_iff {q : Int × Int} {x : Sl} : sonF q.1 q.2 x = true ↔ parP x = q := by
  unfold sonF parP
  constructor
  · intro h
    simp at h
    exact Prod.ext h.1 h.2
  · intro h
    rw [← h]
    simp
theorem Kids.mem {L : List Sl} {K : Int × Int → List (Int × Int)} (h : Kids L K) {y q : Int × Int} : y ∈ K q ↔ q ≠ (0, 0) ∧ ∃ x ∈ L, ppl x = y ∧ parP x = q := by
  by_cases hq : q = (0, 0)
  · subst hq
    rw [h.none]
    simp
  · rw [(h.some q hq).mem_iff, mem_sel]
    constructor
    · rintro ⟨x, hx, hf, e⟩
      exact ⟨hq, x, hx, e, sonF_iff.1 hf⟩
    · rintro ⟨_, x, hx, e, hf⟩
      exact ⟨x, hx, sonF_iff.2 hf, e⟩
theorem Kids.nd {L : List Sl} {K : Int × Int → List (Int × Int)} (h : Kids L K) (hn : (L.map ppl).Nodup) (q : Int × Int) : (K q).Nodup := by
  by_cases hq : q = (0, 0)
  · subst hq
    rw [h.none]
    exact List.nodup_nil
  · rw [(h.some q hq).nodup_iff]
    unfold sel
    exact List.Sublist.nodup (List.Sublist.map _ List.filter_sublist) hn
theorem Kids.count {L : List Sl} {K : Int × Int → List (Int × Int)} (h : Kids L K) (hn : (L.map ppl).Nodup) {x : Sl} (hx : x ∈ L) (hp : parP x ≠ (0, 0)) (q : Int × Int) : (K q).count (ppl x) = if q = parP x then 1 else 0 := by
  by_cases e : q = parP x
  · rw [if_pos e]
    have hm : ppl x ∈ K q := h.mem.2 ⟨by rw [e]; exact hp, x, hx, rfl, e.symm⟩
    have h1 := List.nodup_iff_count.1 (h.nd hn q) (ppl x)
    have h2 := List.count_pos_iff.2 hm
    omega
  · rw [if_neg e]
    refine List.count_eq_zero.2 fun hm => ?_
    obtain ⟨_, y, hy, e1, e2⟩ := h.mem.1 hm
    have := key_eq hn hy hx e1
    subst this
    exact e e2.symm
theorem Kids.countAll {L : List Sl} {K : Int × Int → List (Int × Int)} (h : Kids L K) (hn : (L.map ppl).Nodup) {x : Sl} (hx : x ∈ L) (hp : parP x ≠ (0, 0)) (l : List (Int × Int)) : (l.flatMap K).count (ppl x) = l.count (parP x) := by
  induction l with
  | nil => rfl
  | cons a l ih =>
    rw [List.flatMap_cons, List.count_append, ih, h.count hn hx hp a, List.count_cons]
    by_cases e : a = parP x
    · rw [if_pos e, e]
      simp
      omega
    · rw [if_neg e]
      have : (a == parP x) = false := beq_eq_false_iff_ne.2 e
      simp [this]
/-- One by one: the children of p, those of the first so many. -/
def Bfs (K : Int × Int → List (Int × Int)) (p : Int × Int) (out : List (Int × Int)) (i : Nat) : Prop := out = K p ++ (out.take i).flatMap K
theorem Bfs.sub {L : List Sl} {K : Int × Int → List (Int × Int)} {p : Int × Int} {out : List (Int × Int)} {i : Nat} (h : Bfs K p out i) (hK : Kids L K) : ∀ y ∈ out, ∃ x ∈ L, ppl x = y ∧ parP x ≠ (0, 0) := by
  intro y hy
  rw [h] at hy
  rcases List.mem_append.1 hy with m | m
  · obtain ⟨h1, x, hx, e, e2⟩ := hK.mem.1 m
    exact ⟨x, hx, e, by rw [e2]; exact h1⟩
  · obtain ⟨q, _, hq⟩ := List.mem_flatMap.1 m
    obtain ⟨h1, x, hx, e, e2⟩ := hK.mem.1 hq
    exact ⟨x, hx, e, by rw [e2]; exact h1⟩
theorem Bfs.count {L : List Sl} {K : Int × Int → List (Int × Int)} {p : Int × Int} {out : List (Int × Int)} {i : Nat} (h : Bfs K p out i) (hK : Kids L K) (hF : Forest L) : ∀ y, out.count y ≤ 1 := by
  obtain ⟨d, hd⟩ := hF.rank
  have key : ∀ n : Nat, ∀ y, d y = n → out.count y ≤ 1 ∧ (d y ≤ d p → out.count y = 0) := by
    intro n
    induction n using Nat.strongRecOn with
    | _ n ih =>
      intro y hy
      by_cases hm : y ∈ out
      · obtain ⟨x, hx, e, hp⟩ := h.sub hK y hm
        subst e
        have hc : out.count (ppl x) = (if p = parP x then 1 else 0) + (out.take i).count (parP x) := by
          conv => lhs; rw [h]
          rw [List.count_append, hK.count hF.nd hx hp, hK.countAll hF.nd hx hp]
        have hlt := hd x hx hp
        have hle : (out.take i).count (parP x) ≤ out.count (parP x) := (List.take_sublist i out).count_le _
        obtain ⟨i1, i2⟩ := ih (d (parP x)) (by omega) (parP x) rfl
        by_cases e : p = parP x
        · rw [if_pos e] at hc
          have := i2 (by rw [e]; exact Nat.le_refl _)
          refine ⟨by omega, fun q => ?_⟩
          rw [e] at q
          omega
        · rw [if_neg e] at hc
          refine ⟨by omega, fun q => ?_⟩
          have := i2 (by omega)
          omega
      · have := List.count_eq_zero.2 hm
        exact ⟨by omega, fun _ => this⟩
  exact fun y => (key (d y) y rfl).1
theorem Bfs.nodup {L : List Sl} {K : Int × Int → List (Int × Int)} {p : Int × Int} {out : List (Int × Int)} {i : Nat} (h : Bfs K p out i) (hK : Kids L K) (hF : Forest L) : out.Nodup := List.nodup_iff_count.2 (h.count hK hF)
theorem sub_len {l m : List (Int × Int)} (hn : l.Nodup) (h : ∀ y ∈ l, y ∈ m) : l.length ≤ m.length := by
  induction l generalizing m with
  | nil => simp
  | cons a l ih =>
    rw [List.nodup_cons] at hn
    have ha := h a (by simp)
    obtain ⟨A, B, rfl⟩ := List.append_of_mem ha
    have := ih (m := A ++ B) hn.2 (fun y hy => by
      have := h y (by simp [hy])
      rcases List.mem_append.1 this with q | q
      · exact List.mem_append.2 (.inl q)
      · rcases List.mem_cons.1 q with rfl | q
        · exact absurd hy hn.1
        · exact List.mem_append.2 (.inr q))
    simp at this ⊢
    omega
theorem Bfs.len {L : List Sl} {K : Int × Int → List (Int × Int)} {p : Int × Int} {out : List (Int × Int)} {i : Nat} (h : Bfs K p out i) (hK : Kids L K) (hF : Forest L) : out.length ≤ L.length := by
  have := sub_len (m := L.map ppl) (h.nodup hK hF) (fun y hy => by
    obtain ⟨x, hx, e, _⟩ := h.sub hK y hy
    exact List.mem_map.2 ⟨x, hx, e⟩)
  simpa using this
theorem Bfs.mem {L : List Sl} {K : Int × Int → List (Int × Int)} {p : Int × Int} {out : List (Int × Int)} (h : Bfs K p out out.length) (hK : Kids L K) (hF : Forest L) {x : Sl} (hx : x ∈ L) : ppl x ∈ out ↔ parP x ≠ (0, 0) ∧ (parP x = p ∨ parP x ∈ out) := by
  unfold Bfs at h
  rw [List.take_length] at h
  constructor
  · intro hm
    rw [h] at hm
    rcases List.mem_append.1 hm with m | m
    · obtain ⟨h1, y, hy, e, e2⟩ := hK.mem.1 m
      have := key_eq hF.nd hy hx e
      subst this
      exact ⟨by rw [e2]; exact h1, .inl e2⟩
    · obtain ⟨q, hq, hm⟩ := List.mem_flatMap.1 m
      obtain ⟨h1, y, hy, e, e2⟩ := hK.mem.1 hm
      have := key_eq hF.nd hy hx e
      subst this
      exact ⟨by rw [e2]; exact h1, .inr (by rw [e2]; exact hq)⟩
  · rintro ⟨h1, h2⟩
    rw [h]
    rcases h2 with e | m
    · exact List.mem_append.2 (.inl (hK.mem.2 ⟨by rw [← e]; exact h1, x, hx, rfl, e⟩))
    · exact List.mem_append.2 (.inr (List.mem_flatMap.2 ⟨parP x, m, hK.mem.2 ⟨h1, x, hx, rfl, rfl⟩⟩))
theorem Bfs.zero {L : List Sl} {K : Int × Int → List (Int × Int)} {p : Int × Int} {out : List (Int × Int)} {i : Nat} (h : Bfs K p out i) (hK : Kids L K) (hF : Forest L) : ((0 : Int), (0 : Int)) ∉ out := by
  intro hm
  obtain ⟨x, hx, e, _⟩ := h.sub hK _ hm
  exact hF.zero (List.mem_map.2 ⟨x, hx, e⟩)
theorem climb_iff {L : List Sl} {K : Int × Int → List (Int × Int)} {n s : Int} {out : List (Int × Int)} (h : Bfs K (n, s) out out.length) (hK : Kids L K) (hF : Forest L) (hp : (n, s) ≠ (0, 0)) (d : Int × Int → Nat) (hd : ∀ x ∈ L, parP x ≠ (0, 0) → d (parP x) < d (ppl x)) (m : Nat) :
    ∀ (V : List (Int × Int)) (q : Int × Int), V.Nodup → (∀ y ∈ V, y ∈ L.map ppl) → (q ≠ (0, 0) → ∀ y ∈ V, d q < d y) → (q = (0, 0) ∨ q ∈ L.map ppl) → L.length + 1 ≤ m + V.length → (climb L n s m q.1 q.2 = (n, s) ↔ (q = (n, s) ∨ q ∈ out)) := by
  induction m with
  | zero =>
    intro V q hV hs hr hq hm
    have := sub_len hV hs
    simp at this
    omega
  | succ m ih =>
    intro V q hV hs hr hq hm
    by_cases e : q = (n, s)
    · rw [climb_stop (.inl ⟨congrArg Prod.fst e, congrArg Prod.snd e⟩)]
      exact ⟨fun _ => .inl e, fun _ => e⟩
    · by_cases e0 : q = (0, 0)
      · rw [climb_stop (.inr ⟨congrArg Prod.fst e0, congrArg Prod.snd e0⟩)]
        subst e0
        exact ⟨fun q => absurd q.symm hp, fun q => q.elim (fun q => absurd q e) (fun q => absurd q (h.zero hK hF))⟩
      · obtain ⟨y, hy, ey⟩ := List.mem_map.1 (hq.resolve_left e0)
        subst ey
        have hnot : ppl y ∉ V := fun hm => Nat.lt_irrefl _ (hr e0 _ hm)
        have hpar : parL L (ppl y).1 (ppl y).2 = (y.u, y.v) := par_is hF.nd hy
        rw [climb_up (fun q => by
          rcases q with ⟨q1, q2⟩ | ⟨q1, q2⟩
          · exact e (Prod.ext q1 q2)
          · exact e0 (Prod.ext q1 q2)) hpar]
        have hr2 : parP y ≠ (0, 0) → ∀ v ∈ ppl y :: V, d (parP y) < d v := by
          intro hz v hv
          have h1 := hd y hy hz
          rcases List.mem_cons.1 hv with rfl | hv
          · exact h1
          · exact Nat.lt_trans h1 (hr e0 v hv)
        have := ih (ppl y :: V) (parP y) (List.nodup_cons.2 ⟨hnot, hV⟩) (by
          intro v hv
          rcases List.mem_cons.1 hv with rfl | hv
          · exact List.mem_map.2 ⟨y, hy, rfl⟩
          · exact hs v hv) hr2 (by
          rcases hF.up y hy with q | ⟨z, hz, ez⟩
          · exact .inl q
          · exact .inr (List.mem_map.2 ⟨z, hz, ez⟩)) (by simp; omega)
        have e2 : climb L n s m (parP y).1 (parP y).2 = climb L n s m y.u y.v := rfl
        rw [← e2, this, h.mem hK hF hy]
        constructor
        · intro q
          refine .inr ⟨?_, q⟩
          intro z
          rw [z] at q
          exact q.elim (fun q => hp q.symm) (h.zero hK hF)
        · rintro (q | q)
          · exact absurd q e
          · exact q.2
theorem low_iff {L : List Sl} {K : Int × Int → List (Int × Int)} {n s : Int} {out : List (Int × Int)} (h : Bfs K (n, s) out out.length) (hK : Kids L K) (hF : Forest L) {x : Sl} (hx : x ∈ L) : lowF L n s x = true ↔ ppl x ∈ out := by
  by_cases hp : (n, s) = (0, 0)
  · have e1 : n = 0 := congrArg Prod.fst hp
    have e2 : s = 0 := congrArg Prod.snd hp
    subst e1 e2
    constructor
    · intro q
      unfold lowF at q
      simp at q
    · intro hm
      exfalso
      obtain ⟨d, hd⟩ := hF.rank
      have key : ∀ n : Nat, ∀ y ∈ L, d (ppl y) = n → ppl y ∉ out := by
        intro n
        induction n using Nat.strongRecOn with
        | _ n ih =>
          intro y hy hdy hm
          obtain ⟨h1, h2⟩ := (h.mem hK hF hy).1 hm
          rcases h2 with q | q
          · exact h1 q
          · have hlt := hd y hy h1
            obtain ⟨z, hz, e, _⟩ := h.sub hK _ q
            rw [← e] at q hlt
            exact ih (d (ppl z)) (by omega) z hz rfl q
      exact key _ x hx rfl hm
  · obtain ⟨d, hd⟩ := hF.rank
    have := climb_iff h hK hF hp d hd (L.length + 1) [ppl x] (parP x) (by simp) (by intro y hy; simp at hy; subst hy; exact List.mem_map.2 ⟨x, hx, rfl⟩) (by intro hz y hy; simp at hy; subst hy; exact hd x hx hz) (by
      rcases hF.up x hx with q | ⟨z, hz, ez⟩
      · exact .inl q
      · exact .inr (List.mem_map.2 ⟨z, hz, ez⟩)) (by simp)
    rw [h.mem hK hF hx]
    have hz : isN n s = false := by
      cases hi : isN n s with
      | false => rfl
      | true =>
        obtain ⟨q1, q2⟩ := isN_iff.1 hi
        exact absurd (Prod.ext q1 q2) hp
    unfold isN at hz
    have e3 : lowF L n s x = true ↔ climb L n s (L.length + 1) (parP x).1 (parP x).2 = (n, s) := by
      unfold lowF
      rw [hz]
      show (((climb L n s (L.length + 1) (parP x).1 (parP x).2).1 == n && (climb L n s (L.length + 1) (parP x).1 (parP x).2).2 == s) && !false) = true ↔ _
      constructor
      · intro q
        simp at q
        exact Prod.ext q.1 q.2
      · intro q
        rw [q]
        simp
    rw [e3, this]
    constructor
    · intro q
      refine ⟨?_, q⟩
      intro z
      rw [z] at q
      exact q.elim (fun q => hp q.symm) (h.zero hK hF)
    · exact fun q => q.2
theorem Bfs.perm {L : List Sl} {K : Int × Int → List (Int × Int)} {n s : Int} {out : List (Int × Int)} (h : Bfs K (n, s) out out.length) (hK : Kids L K) (hF : Forest L) : out.Perm (sel (lowF L n s) L) := by
  have h2 : (sel (lowF L n s) L).Nodup := by
    unfold sel
    exact List.Sublist.nodup (List.Sublist.map _ List.filter_sublist) hF.nd
  rw [List.perm_ext_iff_of_nodup (h.nodup hK hF) h2]
  intro y
  rw [mem_sel]
  constructor
  · intro hm
    obtain ⟨x, hx, e, _⟩ := h.sub hK y hm
    subst e
    exact ⟨x, hx, (low_iff h hK hF hx).2 hm, rfl⟩
  · rintro ⟨x, hx, hf, rfl⟩
    exact (low_iff h hK hF hx).1 hf
theorem Forest.nil : Forest [] := ⟨by simp, by simp, by simp, ⟨fun _ => 0, by simp⟩⟩
theorem Forest.self {L : List Sl} (h : Forest L) {x : Sl} (hx : x ∈ L) : parP x ≠ ppl x := by
  intro e
  obtain ⟨d, hd⟩ := h.rank
  have : parP x ≠ (0, 0) := by
    rw [e]
    intro q
    exact h.zero (List.mem_map.2 ⟨x, hx, q⟩)
  have := hd x hx this
  rw [e] at this
  exact Nat.lt_irrefl _ this
theorem ok_ne {n s : Int} (h : placeOk n s = true) : (n, s) ≠ ((0 : Int), (0 : Int)) := by
  intro e
  have e1 : n = 0 := congrArg Prod.fst e
  have e2 : s = 0 := congrArg Prod.snd e
  have := ok_notN h
  rw [e1, e2] at this
  simp [isN] at this
theorem not_in {L : List Sl} {n s : Int} (h : atL L n s = none) : (n, s) ∉ L.map ppl := by
  intro hm
  obtain ⟨x, hx, e⟩ := List.mem_map.1 hm
  exact at_none_iff.1 h x hx ⟨congrArg Prod.fst e, congrArg Prod.snd e⟩
theorem in_of {L : List Sl} {n s : Int} (h : atL L n s ≠ none) : (n, s) ∈ L.map ppl := by
  cases ha : atL L n s with
  | none => exact absurd ha h
  | some i =>
    obtain ⟨x, hx, e1, e2⟩ := atL_some ha
    exact List.mem_map.2 ⟨x, List.mem_of_getElem? hx, by unfold ppl; rw [e1, e2]⟩
theorem Forest.up' {L : List Sl} (h : Forest L) {x : Sl} (hx : x ∈ L) : parP x = (0, 0) ∨ parP x ∈ L.map ppl := by
  rcases h.up x hx with e | ⟨y, hy, e⟩
  · exact .inl e
  · exact .inr (List.mem_map.2 ⟨y, hy, e⟩)
theorem Forest.of {L : List Sl} (nd : (L.map ppl).Nodup) (ok : ∀ x ∈ L, placeOk x.n x.s = true) (up : ∀ x ∈ L, parP x = (0, 0) ∨ parP x ∈ L.map ppl) (rank : ∃ d : Int × Int → Nat, ∀ x ∈ L, parP x ≠ (0, 0) → d (parP x) < d (ppl x)) : Forest L :=
  ⟨nd, ok, fun x hx => by
    rcases up x hx with e | e
    · exact .inl e
    · obtain ⟨y, hy, e⟩ := List.mem_map.1 e
      exact .inr ⟨y, hy, e⟩, rank⟩
theorem Forest.perm {L M : List Sl} (h : Forest L) (p : L.Perm M) : Forest M := by
  obtain ⟨d, hd⟩ := h.rank
  exact Forest.of ((p.map _).nodup_iff.1 h.nd) (fun x hx => h.ok x (p.mem_iff.2 hx)) (fun x hx => (h.up' (p.mem_iff.2 hx)).imp id (fun q => (p.map _).mem_iff.1 q)) ⟨d, fun x hx => hd x (p.mem_iff.2 hx)⟩
theorem Forest.put {L : List Sl} (h : Forest L) {n s k o z b r u v : Int} (hp : putP L n s k o z b r u v) : Forest (insL L ⟨n, s, u, v, k, o, z, b, r⟩) := by
  obtain ⟨p1, p2, p3, p4⟩ := hp
  refine Forest.perm ?_ (ins_perm L _).symm
  have hno := not_in p2
  have hz := ok_ne p1
  have hpar : (u, v) = ((0 : Int), (0 : Int)) ∨ (u, v) ∈ L.map ppl := by
    rcases p4 with ⟨e1, e2⟩ | q
    · exact .inl (by rw [e1, e2])
    · exact .inr (in_of q)
  have hne : (u, v) ≠ (n, s) := by
    intro e
    rcases hpar with q | q
    · exact hz (e.symm.trans q)
    · exact hno (e ▸ q)
  obtain ⟨d, hd⟩ := h.rank
  refine Forest.of ?_ ?_ ?_ ⟨fun q => if q = (n, s) then d (u, v) + 1 else d q, ?_⟩
  · rw [List.map_append]
    refine List.nodup_append.2 ⟨h.nd, by simp, fun a ha c hc e => ?_⟩
    simp at hc
    subst e hc
    exact hno ha
  · intro x hx
    rcases List.mem_append.1 hx with m | m
    · exact h.ok x m
    · simp at m
      rw [m]
      exact p1
  · intro x hx
    rw [List.map_append]
    rcases List.mem_append.1 hx with m | m
    · exact (h.up' m).imp id (fun q => List.mem_append.2 (.inl q))
    · simp at m
      rw [m]
      exact hpar.imp id (fun q => List.mem_append.2 (.inl q))
  · intro x hx hne0
    rcases List.mem_append.1 hx with m | m
    · have e1 : ppl x ≠ (n, s) := fun e => hno (e ▸ List.mem_map.2 ⟨x, m, rfl⟩)
      have e2 : parP x ≠ (n, s) := by
        intro e
        rcases h.up' m with q | q
        · exact hne0 q
        · exact hno (e ▸ q)
      simp only [e1, e2, if_false]
      exact hd x m hne0
    · simp at m
      rw [m]
      show (if (u, v) = (n, s) then _ else d (u, v)) < (if (n, s) = (n, s) then d (u, v) + 1 else _)
      rw [if_neg hne, if_pos rfl]
      omega
theorem Forest.drop {L : List Sl} (h : Forest L) {n s : Int} {i : Nat} {x : Sl} (ha : atL L n s = some i) (hx : L[i]? = some x) : Forest (dropL L n s i x) := by
  have hxL := List.mem_of_getElem? hx
  obtain ⟨x', hx', e1, e2⟩ := atL_some ha
  rw [hx] at hx'
  cases hx'
  have hpx : ppl x = (n, s) := by unfold ppl; rw [e1, e2]
  have hk : ∀ y, ppl (reF n s x.u x.v y) = ppl y := reF_key n s x.u x.v
  obtain ⟨d, hd⟩ := h.rank
  have hmap : (dropL L n s i x).map ppl = (L.eraseIdx i).map ppl := by unfold dropL; rw [List.map_map]; exact List.map_congr_left fun y _ => hk y
  have hmem : ∀ q, q ∈ L.map ppl → q ≠ (n, s) → q ∈ (dropL L n s i x).map ppl := by
    intro q hq hne
    rw [hmap, erase_key h.nd hx]
    obtain ⟨y, hy, e⟩ := List.mem_map.1 hq
    refine List.mem_map.2 ⟨y, List.mem_filter.2 ⟨hy, ?_⟩, e⟩
    rw [hpx, e]
    simpa using hne
  have hpar : ∀ y ∈ L, y ≠ x → (parP (reF n s x.u x.v y) = parP y ∧ parP y ≠ (n, s)) ∨ (parP (reF n s x.u x.v y) = parP x ∧ parP y = (n, s)) := by
    intro y hy hne
    unfold reF
    by_cases e : y.u = n ∧ y.v = s
    · rw [if_pos e]
      exact .inr ⟨rfl, by unfold parP; rw [e.1, e.2]⟩
    · rw [if_neg e]
      exact .inl ⟨rfl, fun q => e ⟨congrArg Prod.fst q, congrArg Prod.snd q⟩⟩
  have hxs := h.self hxL
  rw [hpx] at hxs
  have hne : ∀ y ∈ L.eraseIdx i, y ∈ L ∧ y ≠ x := by
    intro y hy
    refine ⟨(List.eraseIdx_sublist L i).subset hy, ?_⟩
    rintro rfl
    rw [erase_key h.nd hx] at hy
    have := (List.mem_filter.1 hy).2
    simp at this
  refine Forest.of ?_ (drop_ok h.ok n s i x) ?_ ⟨d, ?_⟩
  · rw [hmap]
    exact List.Sublist.nodup ((List.eraseIdx_sublist L i).map _) h.nd
  · intro y' hy'
    unfold dropL at hy'
    obtain ⟨y, hy, rfl⟩ := List.mem_map.1 hy'
    obtain ⟨hyL, hyx⟩ := hne y hy
    rcases hpar y hyL hyx with ⟨e, q⟩ | ⟨e, q⟩
    · rw [e]
      rcases h.up' hyL with z | z
      · exact .inl z
      · exact .inr (hmem _ z q)
    · rw [e]
      rcases h.up' hxL with z | z
      · exact .inl z
      · exact .inr (hmem _ z hxs)
  · intro y' hy' hz
    unfold dropL at hy'
    obtain ⟨y, hy, rfl⟩ := List.mem_map.1 hy'
    obtain ⟨hyL, hyx⟩ := hne y hy
    rw [hk]
    rcases hpar y hyL hyx with ⟨e, q⟩ | ⟨e, q⟩
    · rw [e] at hz ⊢
      exact hd y hyL hz
    · rw [e] at hz ⊢
      have h1 := hd x hxL hz
      have h2 := hd y hyL (by rw [q]; exact ok_ne (by have := h.ok x hxL; rw [e1, e2] at this; exact this))
      rw [q, ← hpx] at h2
      omega
theorem Forest.move {L : List Sl} (h : Forest L) {n s n' s' : Int} {i : Nat} {x : Sl} (ha : atL L n s = some i) (hx : L[i]? = some x) (hp : placeOk n' s' = true) (hn' : atL L n' s' = none) : Forest (moveL L n s n' s' i x) := by
  have hxL := List.mem_of_getElem? hx
  obtain ⟨x', hx', e1, e2⟩ := atL_some ha
  rw [hx] at hx'
  cases hx'
  have hpx : ppl x = (n, s) := by unfold ppl; rw [e1, e2]
  have hno := not_in hn'
  have hz' := ok_ne hp
  have hzn : (n, s) ≠ ((0 : Int), (0 : Int)) := ok_ne (by have := h.ok x hxL; rw [e1, e2] at this; exact this)
  obtain ⟨d, hd⟩ := h.rank
  have hxs := h.self hxL
  rw [hpx] at hxs
  refine Forest.perm (L := (L.eraseIdx i).map (reF n s n' s') ++ [{ x with n := n', s := s' }]) ?_ ?_
  rotate_left
  · unfold moveL
    have h1 := (ins_perm (L.eraseIdx i) { x with n := n', s := s' }).map (reF n s n' s')
    refine List.Perm.trans ?_ h1.symm
    rw [List.map_append]
    have e3 : reF n s n' s' { x with n := n', s := s' } = { x with n := n', s := s' } := by
      unfold reF
      exact if_neg fun q => hxs (by unfold parP; exact Prod.ext q.1 q.2)
    rw [List.map_cons, e3]
    exact List.Perm.refl _
  have hk : ∀ y, ppl (reF n s n' s' y) = ppl y := reF_key n s n' s'
  have hmap : ((L.eraseIdx i).map (reF n s n' s') ++ [{ x with n := n', s := s' }]).map ppl = (L.eraseIdx i).map ppl ++ [(n', s')] := by
    rw [List.map_append, List.map_map]
    congr 1
    exact List.map_congr_left fun y _ => hk y
  have hmem : ∀ q, q ∈ L.map ppl → q ≠ (n, s) → q ∈ (L.eraseIdx i).map ppl ++ [(n', s')] := by
    intro q hq hne
    rw [erase_key h.nd hx]
    obtain ⟨y, hy, e⟩ := List.mem_map.1 hq
    refine List.mem_append.2 (.inl (List.mem_map.2 ⟨y, List.mem_filter.2 ⟨hy, ?_⟩, e⟩))
    rw [hpx, e]
    simpa using hne
  have hpar : ∀ y ∈ L, (parP (reF n s n' s' y) = parP y ∧ parP y ≠ (n, s)) ∨ (parP (reF n s n' s' y) = (n', s') ∧ parP y = (n, s)) := by
    intro y hy
    unfold reF
    by_cases e : y.u = n ∧ y.v = s
    · rw [if_pos e]
      exact .inr ⟨rfl, by unfold parP; rw [e.1, e.2]⟩
    · rw [if_neg e]
      exact .inl ⟨rfl, fun q => e ⟨congrArg Prod.fst q, congrArg Prod.snd q⟩⟩
  have hsub : ∀ y ∈ L.eraseIdx i, y ∈ L := fun y hy => (List.eraseIdx_sublist L i).subset hy
  have hpn : ∀ y ∈ L, parP y ≠ (n', s') := by
    intro y hy e
    rcases h.up' hy with q | q
    · exact hz' (e.symm.trans q)
    · exact hno (e ▸ q)
  refine Forest.of ?_ ?_ ?_ ⟨fun q => if q = (n', s') then d (n, s) else d q, ?_⟩
  · rw [hmap]
    refine List.nodup_append.2 ⟨List.Sublist.nodup ((List.eraseIdx_sublist L i).map _) h.nd, by simp, fun a ha c hc e => ?_⟩
    simp at hc
    subst e hc
    exact hno (((List.eraseIdx_sublist L i).map ppl).subset ha)
  · intro y' hy'
    rcases List.mem_append.1 hy' with m | m
    · obtain ⟨y, hy, rfl⟩ := List.mem_map.1 m
      have e := hk y
      have q1 : (reF n s n' s' y).n = y.n := congrArg Prod.fst e
      have q2 : (reF n s n' s' y).s = y.s := congrArg Prod.snd e
      rw [q1, q2]
      exact h.ok y (hsub y hy)
    · simp at m
      rw [m]
      exact hp
  · intro y' hy'
    rw [hmap]
    rcases List.mem_append.1 hy' with m | m
    · obtain ⟨y, hy, rfl⟩ := List.mem_map.1 m
      rcases hpar y (hsub y hy) with ⟨e, q⟩ | ⟨e, q⟩
      · rw [e]
        rcases h.up' (hsub y hy) with z | z
        · exact .inl z
        · exact .inr (hmem _ z q)
      · rw [e]
        exact .inr (by simp)
    · simp at m
      rw [m]
      show parP x = (0, 0) ∨ parP x ∈ _
      rcases h.up' hxL with z | z
      · exact .inl z
      · exact .inr (hmem _ z hxs)
  · intro y' hy' hz
    rcases List.mem_append.1 hy' with m | m
    · obtain ⟨y, hy, rfl⟩ := List.mem_map.1 m
      have hyL := hsub y hy
      rw [hk]
      have q1 : ppl y ≠ (n', s') := fun e => hno (e ▸ List.mem_map.2 ⟨y, hyL, rfl⟩)
      simp only [q1, if_false]
      rcases hpar y hyL with ⟨e, q⟩ | ⟨e, q⟩
      · rw [e] at hz ⊢
        rw [if_neg (hpn y hyL)]
        exact hd y hyL hz
      · rw [e, if_pos rfl]
        have h2 := hd y hyL (by rw [q]; exact hzn)
        rw [q] at h2
        exact h2
    · simp at m
      rw [m] at hz ⊢
      show (if parP x = (n', s') then _ else d (parP x)) < (if (n', s') = (n', s') then d (n, s) else _)
      rw [if_neg (hpn x hxL), if_pos rfl, ← hpx]
      exact hd x hxL hz
end Go.Proofs.Ythjhpcbhkcmghaa
