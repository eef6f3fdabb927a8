/- Mathematics of KillRevokes: frames of their own, all that is below a place revoked. -/
import Derived.Test.YtdlkaaiedfikoaaKLaw8
import Derived.Test.YtdlkaaiedfikoaaKTreeM
import Derived.Test.YtdlkaaiedfikoaaKLkM
import Derived.Test.YtdlkaaiedfikoaaKNm5
namespace Go.Proofs.Ytdlkaaiedfikoaa
open Go.RowKit
set_option linter.unusedVariables false
/-- Below a place, with one of those below it dropped, are the others. -/
theorem low_drop {L : List Sl} (hF : Forest L) {n s a b : Int} {i : Nat} {y : Sl} (ha : atL L n s = some i) (hy : L[i]? = some y) (hlow : lowF L a b y = true) : ∀ x ∈ L.eraseIdx i, lowF (dropL L n s i y) a b (reF n s y.u y.v x) = lowF L a b x := by
  have hF' := hF.drop ha hy
  obtain ⟨d, hd⟩ := hF.rank
  have hyL := List.mem_of_getElem? hy
  obtain ⟨y', hy', e1, e2⟩ := atL_some ha
  rw [hy] at hy'
  cases hy'
  have hpy : ppl y = (n, s) := by unfold ppl; rw [e1, e2]
  obtain ⟨g1, g2⟩ := (low_rec hF hyL).1 hlow
  have hmem : ∀ z, z ∈ L.eraseIdx i ↔ z ∈ L ∧ ppl z ≠ (n, s) := by
    intro z
    rw [erase_key hF.nd hy, List.mem_filter, hpy]
    simp
  have hin : ∀ z, z ∈ L.eraseIdx i → reF n s y.u y.v z ∈ dropL L n s i y := fun z hz => by unfold dropL; exact List.mem_map.2 ⟨z, hz, rfl⟩
  have hkey : ∀ z, ppl (reF n s y.u y.v z) = ppl z := reF_key n s y.u y.v
  have key : ∀ m : Nat, ∀ x ∈ L.eraseIdx i, d (ppl x) = m → (lowF (dropL L n s i y) a b (reF n s y.u y.v x) = true ↔ lowF L a b x = true) := by
    intro m
    induction m using Nat.strongRecOn with
    | _ m ih =>
      intro x hx hm
      obtain ⟨hxL, hxne⟩ := (hmem x).1 hx
      by_cases e : parP x = (n, s)
      · have hre : parP (reF n s y.u y.v x) = parP y := by
          unfold reF
          rw [if_pos ⟨congrArg Prod.fst e, congrArg Prod.snd e⟩]
          rfl
        have hz : parP x ≠ (0, 0) := by rw [e, ← hpy]; exact ok_ne (hF.ok y hyL)
        have h1 : lowF L a b x = true := (low_rec hF hxL).2 ⟨hz, .inr ⟨y, hyL, hpy.trans e.symm, hlow⟩⟩
        refine ⟨fun _ => h1, fun _ => (low_rec hF' (hin x hx)).2 ?_⟩
        rw [hre]
        refine ⟨g1, g2.imp id ?_⟩
        rintro ⟨z, hz', ez, lz⟩
        have hzE : z ∈ L.eraseIdx i := (hmem z).2 ⟨hz', by rw [ez, ← hpy]; exact hF.self hyL⟩
        have l1 := hd y hyL g1
        have l2 := hd x hxL hz
        rw [e, ← hpy] at l2
        exact ⟨_, hin z hzE, (hkey z).trans ez, (ih (d (ppl z)) (by rw [ez]; omega) z hzE rfl).2 lz⟩
      · have hre : reF n s y.u y.v x = x := by
          unfold reF
          rw [if_neg fun q => e (Prod.ext q.1 q.2)]
        have hin' := hin x hx
        rw [hre] at hin'
        rw [hre, low_rec hF' hin', low_rec hF hxL]
        constructor
        · rintro ⟨q1, q2⟩
          refine ⟨q1, q2.imp id ?_⟩
          rintro ⟨z', hz', ez, lz⟩
          unfold dropL at hz'
          obtain ⟨z, hz, rfl⟩ := List.mem_map.1 hz'
          rw [hkey] at ez
          have l2 := hd x hxL q1
          exact ⟨z, ((hmem z).1 hz).1, ez, (ih (d (ppl z)) (by rw [ez]; omega) z hz rfl).1 lz⟩
        · rintro ⟨q1, q2⟩
          refine ⟨q1, q2.imp id ?_⟩
          rintro ⟨z, hz, ez, lz⟩
          have hzE : z ∈ L.eraseIdx i := (hmem z).2 ⟨hz, by rw [ez]; exact e⟩
          have l2 := hd x hxL q1
          exact ⟨_, hin z hzE, (hkey z).trans ez, (ih (d (ppl z)) (by rw [ez]; omega) z hzE rfl).2 lz⟩
  intro x hx
  exact Bool.eq_iff_iff.2 (key _ x hx rfl)
theorem sel_map {f : Sl → Bool} {r : Sl → Sl} {g : Sl → Bool} {E : List Sl} (hr : ∀ x, ppl (r x) = ppl x) (h : ∀ x ∈ E, f (r x) = g x) : sel f (E.map r) = sel g E := by
  unfold sel
  rw [List.filter_map, List.map_map, List.filter_congr (p := f ∘ r) (q := g) h]
  exact List.map_congr_left fun x _ => hr x
theorem sel_nodup {L : List Sl} (h : (L.map ppl).Nodup) (f : Sl → Bool) : (sel f L).Nodup := List.Sublist.nodup (List.filter_sublist.map _) h
/-- The first dropped, the others are left, in their order. -/
theorem sel_tail {L : List Sl} (hF : Forest L) {f : Sl → Bool} {i : Nat} {y : Sl} {q : Int × Int} {qs : List (Int × Int)} (hy : L[i]? = some y) (hp : ppl y = q) (h : sel f L = q :: qs) : sel f (L.eraseIdx i) = qs := by
  have hn := sel_nodup hF.nd f
  rw [h, List.nodup_cons] at hn
  have e : sel f (L.eraseIdx i) = (sel f L).filter fun p => !(p == q) := by
    rw [erase_key hF.nd hy, hp]
    unfold sel
    rw [List.filter_filter, List.filter_map, List.filter_filter]
    congr 1
    exact List.filter_congr fun x _ => by rw [Bool.and_comm]; rfl
  rw [e, h, List.filter_cons, if_neg (by simp)]
  refine List.filter_eq_self.2 fun x hx => ?_
  have : x ≠ q := fun e => hn.1 (e ▸ hx)
  simpa using this
/-- Frames, each of its own unit. -/
structure Fru (N : Nat) (L : List Sl) : Prop where
  k : ∀ x ∈ L, x.k = 3 ∧ 1 ≤ x.o ∧ x.o ≤ (N : Int)
  nd : (L.map Sl.o).Nodup
theorem Fru.out {N : Nat} {L : List Sl} (h : Fru N L) {i : Nat} {y : Sl} (hy : L[i]? = some y) : y.o ∉ (L.eraseIdx i).map Sl.o := by
  obtain ⟨hi, ey⟩ := List.getElem?_eq_some_iff.1 hy
  intro hm
  obtain ⟨x, hx, e⟩ := List.mem_map.1 hm
  obtain ⟨j, hj, hne, ex⟩ := List.mem_eraseIdx_iff_getElem.1 hx
  have hp := List.pairwise_map.1 h.nd
  have e2 : L[j].o = L[i].o := by rw [ex, ey]; exact e
  rcases Nat.lt_or_gt_of_ne hne with q | q
  · exact List.pairwise_iff_getElem.1 hp j i hj hi q e2
  · exact List.pairwise_iff_getElem.1 hp i j hi hj q e2.symm
theorem Fru.drop {N : Nat} {L : List Sl} (h : Fru N L) (n s : Int) (i : Nat) (y : Sl) : Fru N (dropL L n s i y) := by
  refine ⟨fun x' hx' => ?_, ?_⟩
  · unfold dropL at hx'
    obtain ⟨x, hx, rfl⟩ := List.mem_map.1 hx'
    obtain ⟨r1, r2, _⟩ := reF_same n s y.u y.v x
    rw [r1, r2]
    exact h.k x ((List.eraseIdx_sublist L i).subset hx)
  · unfold dropL
    rw [List.map_map]
    have e : Sl.o ∘ reF n s y.u y.v = Sl.o := by funext x; exact (reF_same n s y.u y.v x).2.1
    rw [e]
    exact List.Sublist.nodup ((List.eraseIdx_sublist L i).map _) h.nd
theorem Fru.del {N m : Nat} {L : List Sl} (h : Fru N L) {n s : Int} {i : Nat} {y : Sl} (ha : atL L n s = some i) (hy : L[i]? = some y) : delF (m + 1) L n s = ([(3, y.o)], dropL L n s i y, 0) := by
  obtain ⟨k1, _⟩ := h.k y (List.mem_of_getElem? hy)
  have hs : sel (nameF y.k y.o y.z) (dropL L n s i y) = [] := by
    unfold sel
    rw [List.filter_eq_nil_iff.2, List.map_nil]
    intro x' hx' hn
    unfold dropL at hx'
    obtain ⟨x, hx, rfl⟩ := List.mem_map.1 hx'
    unfold nameF namesP at hn
    have e := (of_decide_eq_true hn).2.1
    rw [(reF_same n s y.u y.v x).2.1] at e
    exact h.out hy (List.mem_map.2 ⟨x, hx, e⟩)
  rw [delF_some ha hy, hs, if_neg (by simp), if_pos (by rw [k1]; decide), k1]
theorem rev_all {N : Nat} {a b : Int} : ∀ (qs : List (Int × Int)) (L : List Sl) (m : Nat), Forest L → Fru N L → (lkS L a b).isSome = true → sel (lowF L a b) L = qs → qs.length ≤ m →
    ∃ os L', revF m L a b = (os, L') ∧ os.length = qs.length ∧ (∀ g ∈ os, g.1 = 3 ∧ 1 ≤ g.2 ∧ g.2 ≤ (N : Int)) ∧ sel (lowF L' a b) L' = [] ∧ L'.length + qs.length = L.length ∧ (lkS L' a b).isSome = true ∧ (∀ q ∈ qs, lkS L' q.1 q.2 = none) ∧ ∀ p : Int × Int, lkS L p.1 p.2 = none → lkS L' p.1 p.2 = none := by
  intro qs
  induction qs with
  | nil =>
    intro L m hF hU hb hs _
    exact ⟨[], L, revF_end hs, rfl, by simp, hs, rfl, hb, by simp, fun _ h => h⟩
  | cons q qs ih =>
    intro L m hF hU hb hs hm
    obtain ⟨m, rfl⟩ : ∃ k, m = k + 1 := ⟨m - 1, by simp at hm; omega⟩
    obtain ⟨i, ha⟩ := sel_at hs
    obtain ⟨y, hy, e1, e2⟩ := atL_some ha
    have hpy : ppl y = q := Prod.ext e1 e2
    have hyL := List.mem_of_getElem? hy
    have hq : q ∈ sel (lowF L a b) L := by rw [hs]; simp
    have hne := low_ne hF hq
    have hlow : lowF L a b y = true := by
      unfold sel at hq
      obtain ⟨z, hz, ez⟩ := List.mem_map.1 hq
      obtain ⟨z1, z2⟩ := List.mem_filter.1 hz
      have := key_eq hF.nd z1 hyL (ez.trans hpy.symm)
      rw [← this]; exact z2
    obtain ⟨k, hk⟩ : ∃ k, L.length = k + 1 := ⟨L.length - 1, by have := (List.getElem?_eq_some_iff.1 hy).1; omega⟩
    have hdel := hU.del (m := k) ha hy
    rw [← hk] at hdel
    have hs' : sel (lowF (dropL L q.1 q.2 i y) a b) (dropL L q.1 q.2 i y) = qs := by
      have h1 := low_drop hF ha hy hlow
      have h2 := sel_tail hF (f := lowF L a b) hy hpy hs
      rw [← h2]
      conv => lhs; arg 2; unfold dropL
      exact sel_map (fun x => reF_key _ _ _ _ x) h1
    have hb' : (lkS (dropL L q.1 q.2 i y) a b).isSome = true := by
      rw [lk_drop ha (fun e => hne (Prod.ext e.1 e.2)), Option.isSome_map]; exact hb
    have hgone : lkS (dropL L q.1 q.2 i y) q.1 q.2 = none := lk_gone hF.nd ha
    have hmono : ∀ p : Int × Int, lkS L p.1 p.2 = none → lkS (dropL L q.1 q.2 i y) p.1 p.2 = none := by
      intro p hp
      by_cases e : q.1 = p.1 ∧ q.2 = p.2
      · rw [← e.1, ← e.2]; exact hgone
      · rw [lk_drop ha e, hp]; rfl
    obtain ⟨os, L', r1, r2, r3, r4, r5, r6, r7, r8⟩ := ih _ m (hF.drop ha hy) (hU.drop _ _ _ _) hb' hs' (by simpa using hm)
    have hd := drop_len1 (n := q.1) (s := q.2) hy
    refine ⟨(3, y.o) :: os, L', ?_, by simp [r2], ?_, r4, by simp; omega, r6, ?_, fun p hp => r8 p (hmono p hp)⟩
    · rw [revF_more hs, hdel]
      simp only
      rw [if_pos hb', r1]
      rfl
    · intro g hg
      rcases List.mem_cons.1 hg with rfl | hg
      · exact ⟨rfl, (hU.k y hyL).2⟩
      · exact r3 g hg
    · intro p hp
      rcases List.mem_cons.1 hp with rfl | hp
      · exact r8 _ hgone
      · exact r7 p hp
/-- The place of number i, and what its slot has; zs tells the parents. -/
def rvP (i : Nat) : Int × Int := (5 + (i : Int) / 16, (i : Int) % 16)
def rvK (zs : List Int) (i : Nat) : Nat := (zs.getD i 0 % ((i : Int) + 1)).toNat
def rvU (zs : List Int) (i : Nat) : Int × Int := if rvK zs i < i then rvP (rvK zs i) else (0, 0)
def rvS (zs : List Int) (i : Nat) : Sl := ⟨(rvP i).1, (rvP i).2, (rvU zs i).1, (rvU zs i).2, 3, 1 + (i : Int), 0, 0, 0⟩
def rvL (zs : List Int) (n : Nat) : List Sl := (List.range n).map (rvS zs)
def rvA (n : Nat) : List (Int × Int) := (List.range n).map rvP
theorem rvK_is (zs : List Int) (i : Nat) (x : Int) (hx : zs[i]? = some x) : x % ((i : Int) + 1) = (rvK zs i : Int) ∧ rvK zs i ≤ i := by
  have e : zs.getD i 0 = x := by rw [List.getD_eq_getElem?_getD, hx]; rfl
  have h1 := Int.emod_nonneg x (b := (i : Int) + 1) (by omega)
  have h2 := Int.emod_lt_of_pos x (b := (i : Int) + 1) (by omega)
  unfold rvK
  rw [e]
  omega
theorem rvL_len (zs : List Int) (n : Nat) : (rvL zs n).length = n := by unfold rvL; simp
theorem rvA_len (n : Nat) : (rvA n).length = n := by unfold rvA; simp
theorem rvL_get (zs : List Int) {n i : Nat} (h : i < n) : (rvL zs n)[i]? = some (rvS zs i) := by unfold rvL; simp [h]
theorem rvA_get {n i : Nat} (h : i < n) : (rvA n)[i]? = some (rvP i) := by unfold rvA; simp [h]
theorem rvA_succ (n : Nat) : rvA (n + 1) = rvA n ++ [rvP n] := by unfold rvA; rw [List.range_succ, List.map_append]; rfl
theorem rvP_inj {i j : Nat} (h : rvP i = rvP j) : i = j := by
  have h1 := congrArg Prod.fst h
  have h2 := congrArg Prod.snd h
  simp only [rvP] at h1 h2
  omega
theorem rv_ins (zs : List Int) (i : Nat) {u v : Int} (hu : (rvU zs i) = (u, v)) : insL (rvL zs i) ⟨(rvP i).1, (rvP i).2, u, v, 3, 1 + (i : Int), 0, 0, 0⟩ = rvL zs (i + 1) := by
  rw [ins_end]
  · unfold rvL
    rw [List.range_succ, List.map_append]
    congr 1
    simp only [List.map_cons, List.map_nil, rvS, hu]
  · intro y hy
    unfold rvL at hy
    obtain ⟨j, hj, rfl⟩ := List.mem_map.1 hy
    have hj' := List.mem_range.1 hj
    rw [before_iff]
    unfold beforeP
    simp only [rvS, rvP]
    omega
theorem rv_at (zs : List Int) {n i : Nat} (h : i < n) : ∃ k, atL (rvL zs n) (rvP i).1 (rvP i).2 = some k := by
  cases ha : atL (rvL zs n) (rvP i).1 (rvP i).2 with
  | some k => exact ⟨k, rfl⟩
  | none => exact absurd ⟨rfl, rfl⟩ (at_none_iff.1 ha _ (List.mem_of_getElem? (rvL_get zs h)))
theorem rv_put (zs : List Int) (i : Nat) (h : i < 30) {u v : Int} (hu : (rvU zs i) = (u, v)) : putP (rvL zs i) (rvP i).1 (rvP i).2 3 (1 + (i : Int)) 0 0 0 u v := by
  refine ⟨?_, ?_, ?_, ?_⟩
  · rw [placeOk_iff]; unfold placeP rvP; omega
  · refine at_none_iff.2 fun x hx => ?_
    unfold rvL at hx
    obtain ⟨j, hj, rfl⟩ := List.mem_map.1 hx
    have hj' := List.mem_range.1 hj
    intro q
    have := rvP_inj (i := j) (j := i) (Prod.ext q.1 q.2)
    omega
  · rw [chk_iff]
    unfold chkP fitP
    rw [if_neg (by decide), if_neg (by decide), if_neg (by decide)]
    omega
  · unfold rvU at hu
    by_cases hk : rvK zs i < i
    · rw [if_pos hk] at hu
      obtain ⟨k, e⟩ := rv_at zs hk
      rw [hu] at e
      refine .inr ?_
      rw [e]
      simp
    · rw [if_neg hk] at hu
      cases hu
      exact .inl ⟨rfl, rfl⟩
theorem rv_fru (zs : List Int) (n : Nat) : Fru n (rvL zs n) := by
  refine ⟨fun x hx => ?_, ?_⟩
  · unfold rvL at hx
    obtain ⟨j, hj, rfl⟩ := List.mem_map.1 hx
    have hj' := List.mem_range.1 hj
    refine ⟨rfl, ?_, ?_⟩
    · show (1 : Int) ≤ 1 + (j : Int); omega
    · show 1 + (j : Int) ≤ (n : Int); omega
  · unfold rvL
    rw [List.map_map]
    refine List.pairwise_map.2 (List.Pairwise.imp (fun {i j} h e => h ?_) List.nodup_range)
    have : 1 + (i : Int) = 1 + (j : Int) := e
    omega
theorem rv_pin (i : Nat) (h : i < 40) : PIn ((rvP i).1, (rvP i).2) := by unfold rvP; exact pin8 (by omega) (by omega) (by omega) (by omega)
theorem rvU_pin (zs : List Int) (i : Nat) (h : i < 40) {u v : Int} (hu : rvU zs i = (u, v)) : PIn (u, v) := by
  unfold rvU at hu
  by_cases hk : rvK zs i < i
  · rw [if_pos hk] at hu
    rw [← hu]
    exact rv_pin _ (by omega)
  · rw [if_neg hk] at hu
    cases hu
    exact pin_zero
/-- Revoked: what is gone, what is left; revoked again, nothing. -/
theorem rev_facts (zs : List Int) {n j : Nat} (hj : j < n) (hF : Forest (rvL zs n)) {qs : List (Int × Int)} (hq : sel (lowF (rvL zs n) (rvP j).1 (rvP j).2) (rvL zs n) = qs) :
    ∃ os L', revR n (rvL zs n) (rvP j).1 (rvP j).2 = (os, L', 0) ∧ os.length = qs.length ∧ (∀ g ∈ os, g.1 = 3 ∧ 1 ≤ g.2 ∧ g.2 ≤ (n : Int)) ∧ sel (lowF L' (rvP j).1 (rvP j).2) L' = [] ∧ L'.length + qs.length = n ∧ (lkS L' (rvP j).1 (rvP j).2).isSome = true ∧ (∀ q ∈ qs, lkS L' q.1 q.2 = none) ∧ revR n L' (rvP j).1 (rvP j).2 = ([], L', 0) := by
  have hb : (lkS (rvL zs n) (rvP j).1 (rvP j).2).isSome = true := by
    obtain ⟨k, e⟩ := rv_at zs hj
    obtain ⟨y, hy, _⟩ := atL_some e
    unfold lkS
    rw [e]
    simp only [hy]
    rfl
  obtain ⟨os, L', r1, r2, r3, r4, r5, r6, r7, _⟩ := rev_all qs _ n hF (rv_fru zs n) hb hq (by have := sel_len (lowF (rvL zs n) (rvP j).1 (rvP j).2) (rvL zs n); rw [hq, rvL_len] at this; exact this)
  rw [rvL_len] at r5
  refine ⟨os, L', ?_, r2, r3, r4, r5, r6, r7, ?_⟩
  · unfold revR
    rw [if_pos hb, r1]
  · unfold revR
    rw [if_pos r6, revF_end r4]
theorem sel_allL (L : List Sl) : (sel (fun _ => true) L).length = L.length := by unfold sel; simp
end Go.Proofs.Ytdlkaaiedfikoaa
