/- Mathematics of RetypeApart: what is made of an Untyped lies within what is used of it, apart from all else. -/
import Derived.Test.YthjhpcbhkcmghaaKLaw9
namespace Go.Proofs.Ythjhpcbhkcmghaa
open Go.RowKit
set_option linter.unusedVariables false
/-- Kind, unit, size of each. -/
def k3 (y : Sl) : Int × Int × Int := (y.k, y.o, y.z)
def un3 (p : Int × Int × Int) : Int := if p.1 = 1 then p.2.2 else 1
def Rel (F : Int × Int → Int) (u p : Int × Int × Int) : Prop := (p.1 = 1 ∧ p.2.1 ≤ u.2.1 ∧ u.2.1 + u.2.2 ≤ p.2.1 + p.2.2) ∨ (p.2.1 + un3 p ≤ u.2.1 ∨ u.2.1 + u.2.2 ≤ p.2.1) ∨ (u.2.1 ≤ p.2.1 ∧ p.2.1 + un3 p ≤ u.2.1 + F (u.2.1, u.2.2))
def Not3 (a b : Int × Int × Int) : Prop := a.1 ≠ 1 → b.1 ≠ 1 → a.2.1 ≠ b.2.1
structure Ap9 (Z : Int) (P : List (Int × Int × Int)) (F : Int × Int → Int) : Prop where
  i0 : ∀ p ∈ P, p.1 = 1 → 1 ≤ p.2.2
  i1 : ∀ p ∈ P, 10 ≤ p.2.1 ∧ p.2.1 + un3 p ≤ 10 + Z
  i2 : ∀ u ∈ P, u.1 = 1 → ∀ p ∈ P, Rel F u p
  i3 : P.Pairwise Not3
theorem Not3.symm {a b : Int × Int × Int} (h : Not3 a b) : Not3 b a := fun q1 q2 e => h q2 q1 e.symm
theorem Ap9.sub {Z : Int} {P Q : List (Int × Int × Int)} {F : Int × Int → Int} (h : Ap9 Z P F) (hs : Q.Sublist P) : Ap9 Z Q F :=
  ⟨fun p hp => h.i0 p (hs.subset hp), fun p hp => h.i1 p (hs.subset hp), fun u hu e p hp => h.i2 u (hs.subset hu) e p (hs.subset hp), h.i3.sublist hs⟩
theorem Ap9.perm {Z : Int} {P Q : List (Int × Int × Int)} {F : Int × Int → Int} (h : Ap9 Z P F) (hs : P.Perm Q) : Ap9 Z Q F :=
  ⟨fun p hp => h.i0 p (hs.mem_iff.2 hp), fun p hp => h.i1 p (hs.mem_iff.2 hp), fun u hu e p hp => h.i2 u (hs.mem_iff.2 hu) e p (hs.mem_iff.2 hp), (List.Perm.pairwise_iff (fun {a b} => Not3.symm) hs).1 h.i3⟩
theorem Ap9.more {Z : Int} {P : List (Int × Int × Int)} {F G : Int × Int → Int} (h : Ap9 Z P F) (hg : ∀ q, F q ≤ G q) : Ap9 Z P G := by
  refine ⟨h.i0, h.i1, fun u hu e p hp => ?_, h.i3⟩
  have := hg (u.2.1, u.2.2)
  rcases h.i2 u hu e p hp with q | q | q
  · exact .inl q
  · exact .inr (.inl q)
  · exact .inr (.inr ⟨q.1, by omega⟩)
/-- A free range may be reset. -/
theorem Ap9.reset {Z : Int} {L : List Sl} {F : Int × Int → Int} (h : Ap9 Z (L.map k3) F) {o z : Int} (hf : freeL L o z = true) : Ap9 Z (L.map k3) (upF F (o, z) 0) := by
  refine ⟨h.i0, h.i1, fun u hu e p hp => ?_, h.i3⟩
  by_cases hk : (u.2.1, u.2.2) = (o, z)
  · obtain ⟨y, hy, rfl⟩ := List.mem_map.1 hp
    have e1 : u.2.1 = o := congrArg Prod.fst hk
    have e2 : u.2.2 = z := congrArg Prod.snd hk
    unfold freeL at hf
    rw [Bool.not_eq_true', List.any_eq_false] at hf
    have hn := hf y hy
    unfold Rel
    rw [e1, e2]
    show (y.k = 1 ∧ y.o ≤ o ∧ o + z ≤ y.o + y.z) ∨ (y.o + un3 (k3 y) ≤ o ∨ o + z ≤ y.o) ∨ _
    unfold keepB allB meetB at hn
    have eu : unitsL y = un3 (k3 y) := rfl
    rw [eu] at hn
    simp only [Bool.and_eq_true, Bool.not_eq_true', Bool.and_eq_false_iff, decide_eq_true_eq, decide_eq_false_iff_not, beq_eq_false_iff_ne, ne_eq] at hn
    by_cases a : y.k = 1 ∧ y.o ≤ o ∧ o + z ≤ y.o + y.z
    · exact .inl a
    · refine .inr (.inl ?_)
      by_cases b1 : y.o < o + z
      · by_cases b2 : o < y.o + un3 (k3 y)
        · exact absurd ⟨by omega, b1, b2⟩ hn
        · omega
      · omega
  · have e1 : upF F (o, z) 0 (u.2.1, u.2.2) = F (u.2.1, u.2.2) := by unfold upF; rw [if_neg hk]
    unfold Rel
    rw [e1]
    exact h.i2 u hu e p hp
/-- One more is made of one of them. -/
theorem Ap9.make {Z : Int} {P : List (Int × Int × Int)} {F : Int × Int → Int} (h : Ap9 Z P F) {o z k z' n u : Int} (hy : ((1 : Int), o, z) ∈ P) (hu : F (o, z) = u) (hu0 : 0 ≤ u) (hn : un3 (k, o + u, z') = n) (h1 : 1 ≤ n) (h2 : u + n ≤ z) : Ap9 Z (P ++ [(k, o + u, z')]) (upF F (o, z) (u + n)) := by
  have hG : ∀ q, F q ≤ upF F (o, z) (u + n) q := fun q => by
    unfold upF
    split
    · rename_i e; rw [e, hu]; omega
    · omega
  have hself : upF F (o, z) (u + n) (o, z) = u + n := by unfold upF; rw [if_pos rfl]
  have hm := h.more hG
  have hy1 := h.i1 _ hy
  have eun : un3 ((1 : Int), o, z) = z := if_pos rfl
  rw [eun] at hy1
  simp only at hy1
  refine ⟨fun p hp e => ?_, fun p hp => ?_, fun a ha ea p hp => ?_, ?_⟩
  · rcases List.mem_append.1 hp with m | m
    · exact h.i0 p m e
    · rw [List.mem_singleton.1 m] at e ⊢
      have : un3 (k, o + u, z') = z' := if_pos e
      show 1 ≤ z'
      omega
  · rcases List.mem_append.1 hp with m | m
    · exact h.i1 p m
    · rw [List.mem_singleton.1 m, hn]
      show 10 ≤ o + u ∧ o + u + n ≤ 10 + Z
      omega
  · rcases List.mem_append.1 ha with ma | ma <;> rcases List.mem_append.1 hp with mp | mp
    · exact hm.i2 a ma ea p mp
    · rw [List.mem_singleton.1 mp]
      have r1 := h.i2 a ma ea _ hy
      have r2 := h.i2 _ hy rfl a ma
      have a0 := h.i0 a ma ea
      unfold Rel at r1 r2 ⊢
      rw [eun] at r1
      rw [hn]
      have eua : un3 a = a.2.2 := if_pos ea
      rw [eua] at r2
      simp only [hu] at r1 r2
      show (k = 1 ∧ o + u ≤ a.2.1 ∧ a.2.1 + a.2.2 ≤ o + u + z') ∨ (o + u + n ≤ a.2.1 ∨ a.2.1 + a.2.2 ≤ o + u) ∨ (a.2.1 ≤ o + u ∧ o + u + n ≤ a.2.1 + upF F (o, z) (u + n) (a.2.1, a.2.2))
      have hga := hG (a.2.1, a.2.2)
      rcases r1 with ⟨_, q1, q2⟩ | q | ⟨q1, q2⟩
      · rcases r2 with ⟨_, p1, p2⟩ | p | ⟨p1, p2⟩
        · have e1 : a.2.1 = o := by omega
          have e2 : a.2.2 = z := by omega
          rw [e1, e2, hself]
          exact .inr (.inr (by omega))
        · exact .inr (.inl (by omega))
        · exact .inr (.inl (.inr (by omega)))
      · exact .inr (.inl (by omega))
      · exact .inr (.inr (by omega))
    · have e1 := List.mem_singleton.1 ma
      rw [e1] at ea
      simp only at ea
      have en : n = z' := by rw [← hn]; exact if_pos ea
      have r2 := h.i2 _ hy rfl p mp
      rw [e1]
      unfold Rel at r2 ⊢
      simp only [hu] at r2
      show (p.1 = 1 ∧ p.2.1 ≤ o + u ∧ o + u + z' ≤ p.2.1 + p.2.2) ∨ (p.2.1 + un3 p ≤ o + u ∨ o + u + z' ≤ p.2.1) ∨ _
      rcases r2 with ⟨p0, p1, p2⟩ | q | ⟨p1, p2⟩
      · exact .inl ⟨p0, by omega, by omega⟩
      · exact .inr (.inl (by omega))
      · exact .inr (.inl (.inl (by omega)))
    · rw [List.mem_singleton.1 ma] at ea ⊢
      rw [List.mem_singleton.1 mp]
      exact .inl ⟨ea, Int.le_refl _, Int.le_refl _⟩
  · refine List.pairwise_append.2 ⟨h.i3, List.pairwise_singleton _ _, fun a ha b hb => ?_⟩
    rw [List.mem_singleton.1 hb]
    intro a1 k1
    have k1' : k ≠ 1 := k1
    have en : n = 1 := by rw [← hn]; exact if_neg k1'
    have eua : un3 a = 1 := if_neg a1
    have r := h.i2 _ hy rfl a ha
    unfold Rel at r
    rw [eua] at r
    simp only [hu] at r
    show a.2.1 ≠ o + u
    rcases r with ⟨q, _⟩ | q | q
    · exact absurd q a1
    · omega
    · omega
theorem ins_k3 (L : List Sl) (x : Sl) : (L.map k3 ++ [k3 x]).Perm ((insL L x).map k3) := by
  have := ((ins_perm L x).map k3).symm
  rwa [List.map_append] at this
theorem drop_k3 (L : List Sl) (n s : Int) (i : Nat) (x : Sl) : ((dropL L n s i x).map k3).Sublist (L.map k3) := by
  unfold dropL
  rw [List.map_map]
  have e : (k3 ∘ fun y => reF n s x.u x.v y) = k3 := by
    funext y
    show k3 (reF n s x.u x.v y) = k3 y
    unfold reF
    split <;> rfl
  have e2 : ((L.eraseIdx i).map (k3 ∘ fun y => reF n s x.u x.v y)) = (L.eraseIdx i).map k3 := by rw [e]
  show ((L.eraseIdx i).map (k3 ∘ reF n s x.u x.v)).Sublist _
  rw [show (k3 ∘ reF n s x.u x.v) = k3 from e]
  exact (List.eraseIdx_sublist L i).map k3
/-- Whatever Make does, they stay apart. -/
theorem ap9_make {Z : Int} {L : List Sl} {F : Int × Int → Int} (h : Ap9 Z (L.map k3) F) (hB : FB F) (hZ : Z ≤ 20) (n s n' s' k z : Int) {R : MkR} (hR : mkR L F n s n' s' k z = R) : Ap9 Z (R.L.map k3) R.F ∧ FB R.F ∧ R.L.length ≤ L.length + 1 := by
  unfold mkR at hR
  cases hl : lkS L n s with
  | none => rw [hl] at hR; subst hR; exact ⟨h, hB, by show L.length ≤ _; omega⟩
  | some y =>
    rw [hl] at hR
    simp only at hR
    by_cases hk : y.k = 1
    · rw [if_neg (by simp [hk])] at hR
      by_cases hb : bothC L n s n' s' = 0
      · rw [if_neg (by simp [hb])] at hR
        by_cases hu : unC k z = 0
        · rw [if_neg (by simp [hu])] at hR
          have hG : Ap9 Z (L.map k3) (F1 L F y.o y.z) := by
            unfold F1
            by_cases hf : freeL L y.o y.z = true
            · rw [if_pos hf]; exact h.reset hf
            · rw [if_neg hf]; exact h
          have hGB := F1_FB (L := L) hB y.o y.z
          obtain ⟨G, eG⟩ : ∃ G, F1 L F y.o y.z = G := ⟨_, rfl⟩
          rw [eG] at hG hGB hR
          obtain ⟨u, eu⟩ : ∃ u, G (y.o, y.z) = u := ⟨_, rfl⟩
          rw [eu] at hR
          have hub := hGB (y.o, y.z)
          rw [eu] at hub
          by_cases hm : y.z - u < unN k z
          · rw [if_pos hm] at hR; subst hR; exact ⟨hG, hGB, by show L.length ≤ _; omega⟩
          · rw [if_neg hm] at hR
            subst hR
            have hkb : kindB k = false := by
              cases h : kindB k with
              | false => rfl
              | true => rw [un_bad h] at hu; cases hu
            have hsb : sizeB k z = false := by
              cases h : sizeB k z with
              | false => rfl
              | true => rw [un_size hkb h] at hu; cases hu
            have hn1 : 1 ≤ unN k z := by
              unfold unN
              rcases size_fine hsb with ⟨e, h1, h2⟩ | ⟨e, h1⟩
              · rw [if_pos e]; omega
              · rw [if_neg e]; omega
            have hy : ((1 : Int), y.o, y.z) ∈ L.map k3 := List.mem_map.2 ⟨y, by obtain ⟨_, e, _⟩ := lk_at hl; exact e, by unfold k3; rw [hk]⟩
            have hyz := hG.i1 _ hy
            rw [show un3 ((1 : Int), y.o, y.z) = y.z from if_pos rfl] at hyz
            simp only at hyz
            have hmk := hG.make (k := k) (z' := z) (n := unN k z) hy eu hub.1 rfl hn1 (by omega)
            have hFB : FB (upF G (y.o, y.z) (u + unN k z)) := hGB.up _ (by omega) (by omega)
            refine ⟨?_, hFB, ?_⟩
            · show Ap9 Z ((putR L n' s' k (y.o + u) z 0 7 n s).map k3) (upF G (y.o, y.z) (u + unN k z))
              unfold putR
              split
              · exact hmk.perm (ins_k3 L ⟨n', s', n, s, k, y.o + u, z, 0, 7⟩)
              · exact hmk.sub (List.sublist_append_left _ _)
            · show (putR L n' s' k (y.o + u) z 0 7 n s).length ≤ _
              unfold putR
              split
              · rw [(ins_perm L _).length_eq, List.length_append]; simp
              · omega
        · rw [if_pos hu] at hR; subst hR; exact ⟨h, hB, by show L.length ≤ _; omega⟩
      · rw [if_pos hb] at hR; subst hR; exact ⟨h, hB, by show L.length ≤ _; omega⟩
    · rw [if_pos hk] at hR; subst hR; exact ⟨h, hB, by show L.length ≤ _; omega⟩
/-- What the statement asks in the end. -/
theorem ap9_end {Z : Int} {L : List Sl} {F : Int × Int → Int} (h : Ap9 Z (L.map k3) F) (hc : ∀ y ∈ L, CapNs y.k y.o y.z) {i j : Nat} {x y : Sl} (hx : L[i]? = some x) (hy : L[j]? = some y) (hij : j < i) : (10 ≤ x.o ∧ x.o < 10 + Z) ∧ ¬ (x.k ≠ 1 ∧ y.k ≠ 1 ∧ x.o = y.o) := by
  have hxm := List.mem_of_getElem? hx
  have h1 := h.i1 (k3 x) (List.mem_map.2 ⟨x, hxm, rfl⟩)
  have hu : 1 ≤ un3 (k3 x) := by
    have := (hc x hxm).units.1
    exact this
  have h1' : 10 ≤ x.o ∧ x.o + un3 (k3 x) ≤ 10 + Z := h1
  refine ⟨by omega, ?_⟩
  rintro ⟨a, b, e⟩
  obtain ⟨hi, ei⟩ := List.getElem?_eq_some_iff.1 hx
  obtain ⟨hj, ej⟩ := List.getElem?_eq_some_iff.1 hy
  have := List.pairwise_iff_getElem.1 h.i3 j i (by simpa using hj) (by simpa using hi) hij
  rw [List.getElem_map, List.getElem_map, ei, ej] at this
  exact this b a e.symm
theorem ap9_one {Z : Int} {L : List Sl} {F : Int × Int → Int} (h : Ap9 Z (L.map k3) F) (hc : ∀ y ∈ L, CapNs y.k y.o y.z) {x : Sl} (hxm : x ∈ L) : 10 ≤ x.o ∧ x.o < 10 + Z := by
  have h1 : 10 ≤ x.o ∧ x.o + un3 (k3 x) ≤ 10 + Z := h.i1 (k3 x) (List.mem_map.2 ⟨x, hxm, rfl⟩)
  have hu : 1 ≤ un3 (k3 x) := (hc x hxm).units.1
  omega
theorem ap9_start {Z : Int} (h1 : 1 ≤ Z) : Ap9 Z ([(⟨1, 0, 0, 0, 1, 10, Z, 0, 7⟩ : Sl)].map k3) (fun _ => 0) := by
  refine ⟨fun p hp e => ?_, fun p hp => ?_, fun a ha ea p hp => ?_, List.pairwise_singleton _ _⟩
  · rw [List.mem_singleton.1 hp]; exact h1
  · rw [List.mem_singleton.1 hp]
    show 10 ≤ 10 ∧ 10 + un3 (1, 10, Z) ≤ 10 + Z
    rw [show un3 (1, 10, Z) = Z from if_pos rfl]
    omega
  · rw [List.mem_singleton.1 hp, List.mem_singleton.1 ha]
    exact .inl ⟨rfl, Int.le_refl _, Int.le_refl _⟩
end Go.Proofs.Ythjhpcbhkcmghaa
