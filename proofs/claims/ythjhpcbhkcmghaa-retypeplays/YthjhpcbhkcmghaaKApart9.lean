/- The walk of RetypeApart. -/
import Derived.Test.YthjhpcbhkcmghaaKLaw9
import Derived.Test.YthjhpcbhkcmghaaKArgs
import Derived.Test.YthjhpcbhkcmghaaKAgain9
import Derived.Deep.DeepCutAuto
import Derived.Deep.RegionHeld3
namespace Go.Proofs.Ythjhpcbhkcmghaa
open Go.RowKit
set_option linter.unusedVariables false
/-- Kind, unit, size of each. -/
def k3 (y : Sl) : Int × Int × Int := (y.k, y.o, y.z)
def un3 (p : Int × Int × Int) : Int := if p.1 = 1 then p.2.2 else 1
def Rel (F : Int × Int → Int) (u p : Int × Int × Int) : Prop := (p.1 = 1 ∧ p.2.1 ≤ u.2.1 ∧ u.2.1 + u.2.2 ≤ p.2.1 + p.2.2) ∨ (p.2.1 + un3 p ≤ u.2.1 ∨ u.2.1 + u.2.2 ≤ p.2.1) ∨ (u.2.1 ≤ p.2.1 ∧ p.2.1 + un3 p ≤ u.2.1 + F (u.2.1, u.2.2))
def Not3 (a b : Int × Int × Int) : Prop := a.1 ≠ 1 → b.1 ≠ 1 → a.2.1 ≠ b.2.1
structure Ap9 (Z : Int) (P : List (Int × Int × Int)) (F : Int × Int → Int) : Prop where
  i0 : ∀ p ∈ P, p.1 = 1 → 1 ≤ p.2.2
  i1 : ∀ p ∈ P, 10 ≤ p.2.1 ∧ p.2.1 + un3 p ≤ 10 + Z
  i2 : ∀ u ∈ P, u.1 = 1 → ∀ p ∈ P, Rel F u p
  i3 : P.Pairwise Not3
theorem Not3.symm {a b : Int × Int × Int} (h : Not3 a b) : Not3 b a := fun q1 q2 e => h q2 q1 e.symm
theorem Ap9.sub {Z : Int} {P Q : List (Int × Int × Int)} {F : Int × Int → Int} (h : Ap9 Z P F) (hs : Q.Sublist P) : Ap9 Z Q F :=
  ⟨fun p hp => h.i0 p (hs.subset hp), fun p hp => h.i1 p (hs.subset hp), fun u hu e p hp => h.i2 u (hs.subset hu) e p (hs.subset hp), h.i3.sublist hs⟩
theorem Ap9.perm {Z : Int} {P Q : List (Int × Int × Int)} {F : Int × Int → Int} (h : Ap9 Z P F) (hs : P.Perm Q) : Ap9 Z Q F :=
  ⟨fun p hp => h.i0 p (hs.mem_iff.2 hp), fun p hp => h.i1 p (hs.mem_iff.2 hp), fun u hu e p hp => h.i2 u (hs.mem_iff.2 hu) e p (hs.mem_iff.2 hp), (List.Perm.pairwise_iff (fun {a b} => Not3.symm) hs).1 h.i3⟩
theorem Ap9.more {Z : Int} {P : List (Int × Int × Int)} {F G : Int × Int → Int} (h : Ap9 Z P F) (hg : ∀ q, F q ≤ G q) : Ap9 Z P G := by
  refine ⟨h.i0, h.i1, fun u hu e p hp => ?_, h.i3⟩
  have := hg (u.2.1, u.2.2)
  rcases h.i2 u hu e p hp with q | q | q
  · exact .inl q
  · exact .inr (.inl q)
  · exact .inr (.inr ⟨q.1, by omega⟩)
/-- A free range may be reset. -/
theorem Ap9.reset {Z : Int} {L : List Sl} {F : Int × Int → Int} (h : Ap9 Z (L.map k3) F) {o z : Int} (hf : freeL L o z = true) : Ap9 Z (L.map k3) (upF F (o, z) 0) := by
  refine ⟨h.i0, h.i1, fun u hu e p hp => ?_, h.i3⟩
  by_cases hk : (u.2.1, u.2.2) = (o, z)
  · obtain ⟨y, hy, rfl⟩ := List.mem_map.1 hp
    have e1 : u.2.1 = o := congrArg Prod.fst hk
    have e2 : u.2.2 = z := congrArg Prod.snd hk
    unfold freeL at hf
    rw [Bool.not_eq_true', List.any_eq_false] at hf
    have hn := hf y hy
    unfold Rel
    rw [e1, e2]
    show (y.k = 1 ∧ y.o ≤ o ∧ o + z ≤ y.o + y.z) ∨ (y.o + un3 (k3 y) ≤ o ∨ o + z ≤ y.o) ∨ _
    unfold keepB allB meetB at hn
    have eu : unitsL y = un3 (k3 y) := rfl
    rw [eu] at hn
    simp only [Bool.and_eq_true, Bool.not_eq_true', Bool.and_eq_false_iff, decide_eq_true_eq, decide_eq_false_iff_not, beq_eq_false_iff_ne, ne_eq] at hn
    by_cases a : y.k = 1 ∧ y.o ≤ o ∧ o + z ≤ y.o + y.z
    · exact .inl a
    · refine .inr (.inl ?_)
      by_cases b1 : y.o < o + z
      · by_cases b2 : o < y.o + un3 (k3 y)
        · exact absurd ⟨by omega, b1, b2⟩ hn
        · omega
      · omega
  · have e1 : upF F (o, z) 0 (u.2.1, u.2.2) = F (u.2.1, u.2.2) := by unfold upF; rw [if_neg hk]
    unfold Rel
    rw [e1]
    exact h.i2 u hu e p hp
/-- One more is made of one of them. -/
theorem Ap9.make {Z : Int} {P : List (Int × Int × Int)} {F : Int × Int → Int} (h : Ap9 Z P F) {o z k z' n u : Int} (hy : ((1 : Int), o, z) ∈ P) (hu : F (o, z) = u) (hu0 : 0 ≤ u) (hn : un3 (k, o + u, z') = n) (h1 : 1 ≤ n) (h2 : u + n ≤ z) : Ap9 Z (P ++ [(k, o + u, z')]) (upF F (o, z) (u + n)) := by
  have hG : ∀ q, F q ≤ upF F (o, z) (u + n) q := fun q => by
    unfold upF
    split
    · rename_i e; rw [e, hu]; omega
    · omega
  have hself : upF F (o, z) (u + n) (o, z) = u + n := by unfold upF; rw [if_pos rfl]
  have hm := h.more hG
  have hy1 := h.i1 _ hy
  have eun : un3 ((1 : Int), o, z) = z := if_pos rfl
  rw [eun] at hy1
  simp only at hy1
  refine ⟨fun p hp e => ?_, fun p hp => ?_, fun a ha ea p hp => ?_, ?_⟩
  · rcases List.mem_append.1 hp with m | m
    · exact h.i0 p m e
    · rw [List.mem_singleton.1 m] at e ⊢
      have : un3 (k, o + u, z') = z' := if_pos e
      show 1 ≤ z'
      omega
  · rcases List.mem_append.1 hp with m | m
    · exact h.i1 p m
    · rw [List.mem_singleton.1 m, hn]
      show 10 ≤ o + u ∧ o + u + n ≤ 10 + Z
      omega
  · rcases List.mem_append.1 ha with ma | ma <;> rcases List.mem_append.1 hp with mp | mp
    · exact hm.i2 a ma ea p mp
    · rw [List.mem_singleton.1 mp]
      have r1 := h.i2 a ma ea _ hy
      have r2 := h.i2 _ hy rfl a ma
      have a0 := h.i0 a ma ea
      unfold Rel at r1 r2 ⊢
      rw [eun] at r1
      rw [hn]
      have eua : un3 a = a.2.2 := if_pos ea
      rw [eua] at r2
      simp only [hu] at r1 r2
      show (k = 1 ∧ o + u ≤ a.2.1 ∧ a.2.1 + a.2.2 ≤ o + u + z') ∨ (o + u + n ≤ a.2.1 ∨ a.2.1 + a.2.2 ≤ o + u) ∨ (a.2.1 ≤ o + u ∧ o + u + n ≤ a.2.1 + upF F (o, z) (u + n) (a.2.1, a.2.2))
      have hga := hG (a.2.1, a.2.2)
      rcases r1 with ⟨_, q1, q2⟩ | q | ⟨q1, q2⟩
      · rcases r2 with ⟨_, p1, p2⟩ | p | ⟨p1, p2⟩
        · have e1 : a.2.1 = o := by omega
          have e2 : a.2.2 = z := by omega
          rw [e1, e2, hself]
          exact .inr (.inr (by omega))
        · exact .inr (.inl (by omega))
        · exact .inr (.inl (.inr (by omega)))
      · exact .inr (.inl (by omega))
      · exact .inr (.inr (by omega))
    · have e1 := List.mem_singleton.1 ma
      rw [e1] at ea
      simp only at ea
      have en : n = z' := by rw [← hn]; exact if_pos ea
      have r2 := h.i2 _ hy rfl p mp
      rw [e1]
      unfold Rel at r2 ⊢
      simp only [hu] at r2
      show (p.1 = 1 ∧ p.2.1 ≤ o + u ∧ o + u + z' ≤ p.2.1 + p.2.2) ∨ (p.2.1 + un3 p ≤ o + u ∨ o + u + z' ≤ p.2.1) ∨ _
      rcases r2 with ⟨p0, p1, p2⟩ | q | ⟨p1, p2⟩
      · exact .inl ⟨p0, by omega, by omega⟩
      · exact .inr (.inl (by omega))
      · exact .inr (.inl (.inl (by omega)))
    · rw [List.mem_singleton.1 ma] at ea ⊢
      rw [List.mem_singleton.1 mp]
      exact .inl ⟨ea, Int.le_refl _, Int.le_refl _⟩
  · refine List.pairwise_append.2 ⟨h.i3, List.pairwise_singleton _ _, fun a ha b hb => ?_⟩
    rw [List.mem_singleton.1 hb]
    intro a1 k1
    have k1' : k ≠ 1 := k1
    have en : n = 1 := by rw [← hn]; exact if_neg k1'
    have eua : un3 a = 1 := if_neg a1
    have r := h.i2 _ hy rfl a ha
    unfold Rel at r
    rw [eua] at r
    simp only [hu] at r
    show a.2.1 ≠ o + u
    rcases r with ⟨q, _⟩ | q | q
    · exact absurd q a1
    · omega
    · omega
theorem ins_k3 (L : List Sl) (x : Sl) : (L.map k3 ++ [k3 x]).Perm ((insL L x).map k3) := by
  have := ((ins_perm L x).map k3).symm
  rwa [List.map_append] at this
theorem drop_k3 (L : List Sl) (n s : Int) (i : Nat) (x : Sl) : ((dropL L n s i x).map k3).Sublist (L.map k3) := by
  unfold dropL
  rw [List.map_map]
  have e : (k3 ∘ fun y => reF n s x.u x.v y) = k3 := by
    funext y
    show k3 (reF n s x.u x.v y) = k3 y
    unfold reF
    split <;> rfl
  have e2 : ((L.eraseIdx i).map (k3 ∘ fun y => reF n s x.u x.v y)) = (L.eraseIdx i).map k3 := by rw [e]
  show ((L.eraseIdx i).map (k3 ∘ reF n s x.u x.v)).Sublist _
  rw [show (k3 ∘ reF n s x.u x.v) = k3 from e]
  exact (List.eraseIdx_sublist L i).map k3
/-- Whatever Make does, they stay apart. -/
theorem ap9_make {Z : Int} {L : List Sl} {F : Int × Int → Int} (h : Ap9 Z (L.map k3) F) (hB : FB F) (hZ : Z ≤ 20) (n s n' s' k z : Int) {R : MkR} (hR : mkR L F n s n' s' k z = R) : Ap9 Z (R.L.map k3) R.F ∧ FB R.F ∧ R.L.length ≤ L.length + 1 := by
  unfold mkR at hR
  cases hl : lkS L n s with
  | none => rw [hl] at hR; subst hR; exact ⟨h, hB, by show L.length ≤ _; omega⟩
  | some y =>
    rw [hl] at hR
    simp only at hR
    by_cases hk : y.k = 1
    · rw [if_neg (by simp [hk])] at hR
      by_cases hb : bothC L n s n' s' = 0
      · rw [if_neg (by simp [hb])] at hR
        by_cases hu : unC k z = 0
        · rw [if_neg (by simp [hu])] at hR
          have hG : Ap9 Z (L.map k3) (F1 L F y.o y.z) := by
            unfold F1
            by_cases hf : freeL L y.o y.z = true
            · rw [if_pos hf]; exact h.reset hf
            · rw [if_neg hf]; exact h
          have hGB := F1_FB (L := L) hB y.o y.z
          obtain ⟨G, eG⟩ : ∃ G, F1 L F y.o y.z = G := ⟨_, rfl⟩
          rw [eG] at hG hGB hR
          obtain ⟨u, eu⟩ : ∃ u, G (y.o, y.z) = u := ⟨_, rfl⟩
          rw [eu] at hR
          have hub := hGB (y.o, y.z)
          rw [eu] at hub
          by_cases hm : y.z - u < unN k z
          · rw [if_pos hm] at hR; subst hR; exact ⟨hG, hGB, by show L.length ≤ _; omega⟩
          · rw [if_neg hm] at hR
            subst hR
            have hkb : kindB k = false := by
              cases h : kindB k with
              | false => rfl
              | true => rw [un_bad h] at hu; cases hu
            have hsb : sizeB k z = false := by
              cases h : sizeB k z with
              | false => rfl
              | true => rw [un_size hkb h] at hu; cases hu
            have hn1 : 1 ≤ unN k z := by
              unfold unN
              rcases size_fine hsb with ⟨e, h1, h2⟩ | ⟨e, h1⟩
              · rw [if_pos e]; omega
              · rw [if_neg e]; omega
            have hy : ((1 : Int), y.o, y.z) ∈ L.map k3 := List.mem_map.2 ⟨y, by obtain ⟨_, e, _⟩ := lk_at hl; exact e, by unfold k3; rw [hk]⟩
            have hyz := hG.i1 _ hy
            rw [show un3 ((1 : Int), y.o, y.z) = y.z from if_pos rfl] at hyz
            simp only at hyz
            have hmk := hG.make (k := k) (z' := z) (n := unN k z) hy eu hub.1 rfl hn1 (by omega)
            have hFB : FB (upF G (y.o, y.z) (u + unN k z)) := hGB.up _ (by omega) (by omega)
            refine ⟨?_, hFB, ?_⟩
            · show Ap9 Z ((putR L n' s' k (y.o + u) z 0 7 n s).map k3) (upF G (y.o, y.z) (u + unN k z))
              unfold putR
              split
              · exact hmk.perm (ins_k3 L ⟨n', s', n, s, k, y.o + u, z, 0, 7⟩)
              · exact hmk.sub (List.sublist_append_left _ _)
            · show (putR L n' s' k (y.o + u) z 0 7 n s).length ≤ _
              unfold putR
              split
              · rw [(ins_perm L _).length_eq, List.length_append]; simp
              · omega
        · rw [if_pos hu] at hR; subst hR; exact ⟨h, hB, by show L.length ≤ _; omega⟩
      · rw [if_pos hb] at hR; subst hR; exact ⟨h, hB, by show L.length ≤ _; omega⟩
    · rw [if_pos hk] at hR; subst hR; exact ⟨h, hB, by show L.length ≤ _; omega⟩
/-- What the statement asks in the end. -/
theorem ap9_end {Z : Int} {L : List Sl} {F : Int × Int → Int} (h : Ap9 Z (L.map k3) F) (hc : ∀ y ∈ L, CapNs y.k y.o y.z) {i j : Nat} {x y : Sl} (hx : L[i]? = some x) (hy : L[j]? = some y) (hij : j < i) : (10 ≤ x.o ∧ x.o < 10 + Z) ∧ ¬ (x.k ≠ 1 ∧ y.k ≠ 1 ∧ x.o = y.o) := by
  have hxm := List.mem_of_getElem? hx
  have h1 := h.i1 (k3 x) (List.mem_map.2 ⟨x, hxm, rfl⟩)
  have hu : 1 ≤ un3 (k3 x) := by
    have := (hc x hxm).units.1
    exact this
  have h1' : 10 ≤ x.o ∧ x.o + un3 (k3 x) ≤ 10 + Z := h1
  refine ⟨by omega, ?_⟩
  rintro ⟨a, b, e⟩
  obtain ⟨hi, ei⟩ := List.getElem?_eq_some_iff.1 hx
  obtain ⟨hj, ej⟩ := List.getElem?_eq_some_iff.1 hy
  have := List.pairwise_iff_getElem.1 h.i3 j i (by simpa using hj) (by simpa using hi) hij
  rw [List.getElem_map, List.getElem_map, ei, ej] at this
  exact this b a e.symm
theorem ap9_one {Z : Int} {L : List Sl} {F : Int × Int → Int} (h : Ap9 Z (L.map k3) F) (hc : ∀ y ∈ L, CapNs y.k y.o y.z) {x : Sl} (hxm : x ∈ L) : 10 ≤ x.o ∧ x.o < 10 + Z := by
  have h1 : 10 ≤ x.o ∧ x.o + un3 (k3 x) ≤ 10 + Z := h.i1 (k3 x) (List.mem_map.2 ⟨x, hxm, rfl⟩)
  have hu : 1 ≤ un3 (k3 x) := (hc x hxm).units.1
  omega
theorem ap9_start {Z : Int} (h1 : 1 ≤ Z) : Ap9 Z ([(⟨1, 0, 0, 0, 1, 10, Z, 0, 7⟩ : Sl)].map k3) (fun _ => 0) := by
  refine ⟨fun p hp e => ?_, fun p hp => ?_, fun a ha ea p hp => ?_, List.pairwise_singleton _ _⟩
  · rw [List.mem_singleton.1 hp]; exact h1
  · rw [List.mem_singleton.1 hp]
    show 10 ≤ 10 ∧ 10 + un3 (1, 10, Z) ≤ 10 + Z
    rw [show un3 (1, 10, Z) = Z from if_pos rfl]
    omega
  · rw [List.mem_singleton.1 hp, List.mem_singleton.1 ha]
    exact .inl ⟨rfl, Int.le_refl _, Int.le_refl _⟩
end Go.Proofs.Ythjhpcbhkcmghaa
namespace Go.Proofs.Ythjhpcbhkcmghaa
open Go.RowKit
set_option linter.unusedVariables false
set_option linter.unusedSimpArgs false
theorem tdrop_ap {w wr : World} {t : Nat} {L : List Sl} (h : TabIn w t L wr) {n s : Int} (hi : PIn (n, s)) :
    ∃ v L', Calls Try.prog 13 #[.pointer (some ⟨t, 0, none⟩), .agg #[.int .i64 n, .int .i64 s]] wr (TInP w t L' wr (.bool v)) ∧ L'.length ≤ L.length ∧ (L'.map k3).Sublist (L.map k3) := by
  cases ha : atL L n s with
  | none => exact ⟨false, L, tdrop_no h hi ha, Nat.le_refl _, List.Sublist.refl _⟩
  | some i =>
    obtain ⟨y, hy, _⟩ := atL_some ha
    refine ⟨true, _, tdrop_yes h ha hy rfl, ?_, drop_k3 L n s i y⟩
    unfold dropL
    rw [List.length_map]
    exact List.length_eraseIdx_le _ _
theorem apart_first (z : Int) (h1 : 1 ≤ z) (h2 : z ≤ 20) : putP [] 1 0 1 10 z 0 7 0 0 ∧ insL [] ⟨1, 0, 0, 0, 1, 10, z, 0, 7⟩ = [⟨1, 0, 0, 0, 1, 10, z, 0, 7⟩] := by
  refine ⟨⟨by decide, rfl, ?_, .inl ⟨rfl, rfl⟩⟩, rfl⟩
  rw [chk_iff]
  unfold chkP fitP
  rw [if_pos rfl]
  omega
theorem do5_cells {w w' : World} {a : Option Addr} {len : Nat} {V : Nat → Nat → Value} (h : Recs w a len 5 V) (k : Kp [] w w') {j : Nat} (hj : j < len) : ∃ b off, a = some ⟨b, off, none⟩ ∧ ∀ i, i < 5 → w'.cell? ⟨b, off + (j * 5 + i), none⟩ = some (V j i) := by
  obtain ⟨_, hz | ⟨b, off, rfl, hc⟩⟩ := h
  · omega
  · exact ⟨b, off, rfl, fun i hi => k.cell (hc j i hj hi)⟩
/-- Five integers a thing. -/
def Five (V : Nat → Nat → Value) (len : Nat) : Prop := ∀ i, i < len → (∃ n, V i 0 = .int .i64 n ∧ (Lit.int .i64 n).wf = true) ∧ (∃ n, V i 1 = .int .i64 n ∧ (Lit.int .i64 n).wf = true) ∧ (∃ n, V i 2 = .int .i64 n ∧ (Lit.int .i64 n).wf = true) ∧ (∃ n, V i 3 = .int .i64 n ∧ (Lit.int .i64 n).wf = true) ∧ (∃ n, V i 4 = .int .i64 n ∧ (Lit.int .i64 n).wf = true)
set_option maxRecDepth 4000 in
set_option maxHeartbeats 400000 in
theorem apart_long (size : Int) (a : Option Addr) (len cap : Nat) (w : World) (hl : 40 < len) :
    Calls Try.prog 4 #[.int .i64 size, .slice a len cap] w fun e w' => e = .returned (.bool true) ∧ Below w.heap.size w w' := by
  have h2 : (40 : Int) < (len : Int) := by omega
  go_enter Try.func4, Try.ntmps4
  go_wp2_with fail
  refine (first_calls _).mono ?_
  rintro e W0 ⟨rfl, K0⟩
  go_wp2
  go_ret
  exact ⟨rfl, K0.below (Nat.le_refl _) (by simp)⟩
/-- What the loop carries along. -/
structure As9 (w : World) (t : Nat) (Z : Int) (L : List Sl) (F : Int × Int → Int) (n : Nat) (wx : World) : Prop where
  tm : TM w t (t + 1) L F wx
  ap : Ap9 Z (L.map k3) F
  fb : FB F
  len : L.length ≤ n
theorem As9.grew {w : World} {t : Nat} {Z : Int} {L : List Sl} {F : Int × Int → Int} {n : Nat} {wx wy : World} (h : As9 w t Z L F n wx) (k : Kp [] wx wy) : As9 w t Z L F n wy := ⟨h.tm.grew k, h.ap, h.fb, h.len⟩
set_option maxRecDepth 4000 in
set_option maxHeartbeats 4000000 in
theorem apart_in (size : Int) (a : Option Addr) (len cap : Nat) (V : Nat → Nat → Value) (w : World) (hl : len ≤ 40) (hR : Recs w a len 5 V) (y1 : Five V len) :
    Calls Try.prog 4 #[.int .i64 size, .slice a len cap] w fun e w' => e = .returned (.bool true) ∧ Below w.heap.size w w' := by
  have h2 : decide ((40 : Int) < (len : Int)) = false := by simp; omega
  obtain ⟨s0, hs0⟩ : ∃ x, size % 20 = x := ⟨_, rfl⟩
  obtain ⟨Z, hZ⟩ : ∃ Z, 1 + s0 = Z := ⟨_, rfl⟩
  obtain ⟨Z1, Z20⟩ : 1 ≤ Z ∧ Z ≤ 20 := by omega
  have wZ : IntKind.i64.wrap (1 + s0) = Z := by rw [IntKind.wrap_i64]; omega
  have w10 : IntKind.i64.wrap (10 + Z) = 10 + Z := by rw [IntKind.wrap_i64]; omega
  have HR := hide hR
  replace y1 := hide y1
  have h10 : Hid (PIn (1, 0)) := pin9 (by decide) (by decide) (by decide) (by decide)
  have hfirst := hide (apart_first Z Z1 Z20)
  replace hs0 := hide hs0
  replace hZ := hide hZ
  clear hR
  go_enter Try.func4, Try.ntmps4
  go_wp2_with fail
  refine (first_calls _).mono ?_
  rintro e W0 ⟨rfl, K0⟩
  replace K0 := hide K0
  go_wp2_with fail
  refine (number_to _ _ _ _ (by omega) (by omega) (unhide hs0)).mono ?_
  rintro e W1 ⟨rfl, rfl⟩
  have X1 := hide (TM.start (w := w) (y := W1.heap.size + 1) (TabIn.of (T := []) (w := w) (unhide K0) rfl (Kp.refl [] _)) (by simp) (Kp.refl [] _))
  obtain ⟨t, et⟩ : ∃ t, W1.heap.size = t := ⟨_, rfl⟩
  rw [et] at X1
  go_wp2_with fail
  generalize (W1.alloc (.cells #[.map none] 27)).alloc (.cells #[.map none] 33) = W2 at *
  clear et K0
  refine (tput_yes (unhide X1).tab (unhide h10) pin_zero (unhide hfirst).1 (by decide) (unhide hfirst).2).mono ?_
  rintro e W3 ⟨rfl, X3, T3⟩
  have Y3 := hide (As9.mk (n := 1) ((unhide X1).turnT T3 X3) (ap9_start Z1) FB.zero (by simp))
  clear X3 T3 X1
  go_wp2_with fail
  go_loopg [8] len (fun m i wr => ∃ j : Nat, j ≤ len ∧ ∃ L F, m = len - j ∧ i = .int .i64 j ∧ As9 w t Z L F (j + 1) wr)
  case atStart => exact ⟨0, Nat.zero_le _, _, _, by omega, rfl, unhide Y3⟩
  case round =>
    obtain ⟨j, hj, L, F, rfl, rfl, hX⟩ := hrel
    clear Y3
    have X := hide hX
    clear hX
    by_cases hlt : j < len
    · have b1 : (j : Int) < (len : Int) := by omega
      have tj : ((j : Int)).toNat = j := Int.toNat_natCast j
      obtain ⟨⟨kd, e0, _⟩, ⟨na, e1, _⟩, ⟨nb, e2, _⟩, ⟨nw, e3, _⟩, ⟨nz, e4, _⟩⟩ := unhide y1 j hlt
      obtain ⟨b, off, ea, ce⟩ := do5_cells (unhide HR) (Kp.refl [] w) hlt
      subst ea
      have hC : Hid (∀ w', Kp [] w w' → w'.cell? ⟨b, off + j * 5, none⟩ = some (.int .i64 kd) ∧ w'.cell? ⟨b, off + j * 5 + 1, none⟩ = some (.int .i64 na) ∧ w'.cell? ⟨b, off + j * 5 + 2, none⟩ = some (.int .i64 nb) ∧ w'.cell? ⟨b, off + j * 5 + 3, none⟩ = some (.int .i64 nw) ∧ w'.cell? ⟨b, off + j * 5 + 4, none⟩ = some (.int .i64 nz)) := fun w' K => by
        refine ⟨K.cell ?_, K.cell ?_, K.cell ?_, K.cell ?_, K.cell ?_⟩
        · rw [← e0]; exact ce 0 (by omega)
        · rw [← e1]; exact ce 1 (by omega)
        · rw [← e2]; exact ce 2 (by omega)
        · rw [← e3]; exact ce 3 (by omega)
        · rw [← e4]; exact ce 4 (by omega)
      obtain ⟨an, han⟩ : ∃ x, na % 16 = x := ⟨_, rfl⟩
      obtain ⟨bn, hbn⟩ : ∃ x, nb % 16 = x := ⟨_, rfl⟩
      obtain ⟨kk, hkk⟩ : ∃ x, kd % 8 = x := ⟨_, rfl⟩
      have bb0 : 0 ≤ bn ∧ bn < 16 := by omega
      have ia : Hid (PIn (1, an)) := pin9 (by decide) (by decide) (by omega) (by omega)
      have ib : Hid (PIn (1, bn)) := pin9 (by decide) (by decide) (by omega) (by omega)
      replace han := hide han
      replace hbn := hide hbn
      replace hkk := hide hkk
      obtain ⟨d0, d1, d2, d3, d4⟩ := unhide hC _ (unhide X).tm.tab.kp
      clear ce e0 e1 e2 e3 e4
      go_wp2_with fail
      refine (number_to _ _ _ _ (by omega) (by omega) (unhide han)).mono ?_
      rintro e WA ⟨rfl, rfl⟩
      have X2 := hide ((unhide X).grew ((Kp.refl [] WA).alloc (.cells #[.int .i64 1, .int .i64 an] 40)))
      have A2 := hide (Bk.new WA 40 [.int .i64 1, .int .i64 an])
      clear d0 d1 d2 d3 d4 X
      obtain ⟨d0, d1, d2, d3, d4⟩ := unhide hC _ (unhide X2).tm.tab.kp
      go_wp2_with fail
      refine (number_to _ _ _ _ (by omega) (by omega) (unhide hbn)).mono ?_
      rintro e WB ⟨rfl, rfl⟩
      have X3 := hide ((unhide X2).grew ((Kp.refl [] (WA.alloc (.cells #[.int .i64 1, .int .i64 an] 40))).alloc (.cells #[.int .i64 1, .int .i64 bn] 40)))
      have A3 := hide ((unhide A2).alloc (.cells #[.int .i64 1, .int .i64 bn] 40))
      have B3 := hide (Bk.next (p := WA.heap.size + 1) (WA.alloc (.cells #[.int .i64 1, .int .i64 an] 40)) 40 [.int .i64 1, .int .i64 bn] (by simp))
      obtain ⟨A, eA⟩ : ∃ A, WA.heap.size = A := ⟨_, rfl⟩
      rw [eA] at A3 B3
      clear d0 d1 d2 d3 d4 X2 A2
      obtain ⟨d0, d1, d2, d3, d4⟩ := unhide hC _ (unhide X3).tm.tab.kp
      go_wp2_with fail
      generalize (WA.alloc (.cells #[.int .i64 1, .int .i64 an] 40)).alloc (.cells #[.int .i64 1, .int .i64 bn] 40) = W5 at *
      clear eA
      refine (number_to _ _ _ _ (by omega) (by omega) (unhide hkk)).mono ?_
      rintro e WC ⟨rfl, rfl⟩
      have q0 := (unhide B3).cell (i := 0) rfl
      have q1 := (unhide B3).cell (i := 1) rfl
      by_cases hk5 : kk = 5
      · subst hk5
        by_cases hb0 : 0 < bn
        · obtain ⟨v, L', hd, hdl, hds⟩ := tdrop_ap (unhide X3).tm.tab (unhide ib)
          replace hd := hide hd
          replace hds := hide hds
          go_wp2_with fail
          refine (unhide hd).mono ?_
          rintro e W6 ⟨rfl, X6, T6⟩
          have Y6 := hide (As9.mk (n := j + 1 + 1) ((unhide X3).tm.turnT T6 X6) ((unhide X3).ap.sub (unhide hds)) (unhide X3).fb (by have := (unhide X3).len; omega))
          clear X6 T6 X3 hd d0 d1 d2 d3 d4 q0 q1
          go_wp2
          go_roundg (len - (j + 1))
          case measure => omega
          case rel => exact ⟨j + 1, by omega, L', F, rfl, by go_num, unhide Y6⟩
        · have hb0' : decide (0 < bn) = false := decide_eq_false hb0
          have Y6 := hide (As9.mk (n := j + 1 + 1) (unhide X3).tm (unhide X3).ap (unhide X3).fb (by have := (unhide X3).len; omega))
          clear hb0
          go_wp2
          go_roundg (len - (j + 1))
          case measure => omega
          case rel => exact ⟨j + 1, by omega, L, F, rfl, by go_num, unhide Y6⟩
      · have hk5' : (kk == 5) = false := beq_eq_false_iff_ne.2 hk5
        obtain ⟨R, hRk⟩ : ∃ R, mkR L F 1 an 1 bn nw nz = R := ⟨_, rfl⟩
        obtain ⟨r1, r2, r3⟩ := ap9_make (unhide X3).ap (unhide X3).fb Z20 1 an 1 bn nw nz hRk
        have hlen : L.length < 65536 := by have := (unhide X3).len; omega
        have hS : Hid (∀ w', Kp [] WC w' → (fun w' => w'.cell? ⟨A, 0, none⟩ = some (.int .i64 1) ∧ w'.cell? ⟨A, 1, none⟩ = some (.int .i64 an) ∧ w'.cell? ⟨A + 1, 0, none⟩ = some (.int .i64 1) ∧ w'.cell? ⟨A + 1, 1, none⟩ = some (.int .i64 bn) ∧ w'.cell? ⟨b, off + j * 5 + 3, none⟩ = some (.int .i64 nw) ∧ w'.cell? ⟨b, off + j * 5 + 4, none⟩ = some (.int .i64 nz)) w') := fun w' K => by
          obtain ⟨_, _, _, d3, d4⟩ := unhide hC _ ((unhide X3).grew K).tm.tab.kp
          have a := (unhide A3).kept K (by simp)
          have b' := (unhide B3).kept K (by simp)
          exact ⟨a.cell rfl, a.cell rfl, b'.cell rfl, b'.cell rfl, d3, d4⟩
        have hST : Hid (∀ wx wy, TM w t (t + 1) L F wx → Kp [] w wy → Bk wx A 40 [.int .i64 1, .int .i64 an] → Bk wx (A + 1) 40 [.int .i64 1, .int .i64 bn] → Mtc w t (t + 1) wx wy → (fun w' => w'.cell? ⟨A, 0, none⟩ = some (.int .i64 1) ∧ w'.cell? ⟨A, 1, none⟩ = some (.int .i64 an) ∧ w'.cell? ⟨A + 1, 0, none⟩ = some (.int .i64 1) ∧ w'.cell? ⟨A + 1, 1, none⟩ = some (.int .i64 bn) ∧ w'.cell? ⟨b, off + j * 5 + 3, none⟩ = some (.int .i64 nw) ∧ w'.cell? ⟨b, off + j * 5 + 4, none⟩ = some (.int .i64 nz)) wy) := fun wx wy tm K a b' T => by
          obtain ⟨_, _, _, d3, d4⟩ := unhide hC _ K
          have a2 := tm.keeps T a
          have b2 := tm.keeps T b'
          exact ⟨a2.cell rfl, a2.cell rfl, b2.cell rfl, b2.cell rfl, d3, d4⟩
        have hcl := hide (hlen)
        have X4 := hide ((unhide X3).grew ((Kp.refl [] WC).drew))
        have A4 := hide ((unhide A3).kept ((Kp.refl [] WC).drew) (by simp))
        have B4 := hide ((unhide B3).kept ((Kp.refl [] WC).drew) (by simp))
        have K4 := hide ((Kp.refl [] WC).drew)
        replace hRk := hide hRk
        replace r1 := hide r1
        replace r2 := hide r2
        clear hk5 hlen d0 d1 d2 d3 d4 q0 q1
        obtain ⟨d0, d1, d2, d3, d4⟩ := unhide hC _ (unhide X3).tm.tab.kp
        go_wp2_with fail
        go_region_held3 (fun w' => w'.cell? ⟨A, 0, none⟩ = some (.int .i64 1) ∧ w'.cell? ⟨A, 1, none⟩ = some (.int .i64 an) ∧ w'.cell? ⟨A + 1, 0, none⟩ = some (.int .i64 1) ∧ w'.cell? ⟨A + 1, 1, none⟩ = some (.int .i64 bn) ∧ w'.cell? ⟨b, off + j * 5 + 3, none⟩ = some (.int .i64 nw) ∧ w'.cell? ⟨b, off + j * 5 + 4, none⟩ = some (.int .i64 nz)) (first | with_reducible exact unhide F7 | with_reducible exact unhide hS _ (unhide K4)) (first
          | (go_at_call 19; refine (kmake (unhide X4).tm (unhide X4).fb (unhide ia) (unhide ib) nw nz (unhide hcl) (unhide hRk)).mono ?_; rintro e W7 ⟨rfl, Y7, T7⟩; have F7 := hide (unhide hST _ _ (unhide X4).tm Y7.tab.kp (unhide A4) (unhide B4) T7); replace Y7 := hide Y7; clear T7))
        all_goals
          have Y8 := hide (As9.mk (n := j + 1 + 1) (unhide Y7) (unhide r1) (unhide r2) (by have := (unhide X3).len; omega))
          go_wp2
          go_roundg (len - (j + 1))
          case measure => omega
          case rel => exact ⟨j + 1, by omega, _, _, rfl, by go_num, unhide Y8⟩
    · have b1 : decide ((j : Int) < (len : Int)) = false := decide_eq_false (by omega)
      have hL41 : L.length ≤ 41 := by have := (unhide X).len; omega
      go_wp2_with fail
      refine (tall (unhide X).tm.tab).mono ?_
      rintro e W5 ⟨v5, rfl, P5, K5⟩
      have X5 := hide ((unhide X).grew K5)
      obtain ⟨a5, c5, e5⟩ := P5.form
      have hsl : (sel (fun _ => true) L).length = L.length := by unfold sel; simp
      have hgt : Hid (∀ (i : Nat) (x : Sl), L[i]? = some x → (sel (fun _ => true) L)[i]? = some (x.n, x.s)) := fun i x e => by unfold sel; rw [List.filter_eq_self.2 (fun _ _ => rfl), List.getElem?_map, e]; rfl
      obtain ⟨N, hN⟩ : ∃ N, (sel (fun _ => true) L).length = N := ⟨_, rfl⟩
      rw [hN] at e5 hsl
      subst e5 hsl
      have hcn := hide (capns_all (unhide X5).tm.tab)
      have hnd := hide (unhide X5).tm.tab.fo.nd
      have hok := hide (unhide X5).tm.tab.fo.ok
      replace P5 := hide P5
      replace hN := hide hN
      have hcell : Hid (∀ (i : Nat) (x : Sl) (wx : World), L[i]? = some x → Kp [] W5 wx → ∃ g, a5 = some ⟨g, 0, none⟩ ∧ wx.cell? ⟨g, i * 2, none⟩ = some (.int .i64 x.n) ∧ wx.cell? ⟨g, i * 2 + 1, none⟩ = some (.int .i64 x.s)) := fun i x wx hx K => by
        obtain ⟨g, hga⟩ : ∃ g, a5 = some ⟨g, 0, none⟩ := by
          rcases (unhide P5).addr with ⟨e, _⟩ | ⟨g, cap, e, _⟩
          · simp only [Value.slice.injEq] at e
            have := (List.getElem?_eq_some_iff.1 hx).1
            omega
          · simp only [Value.slice.injEq] at e; exact ⟨g, e.1⟩
        subst hga
        obtain ⟨y0, y1⟩ := (unhide P5).at (unhide hgt i x hx)
        exact ⟨g, rfl, K.cell y0, K.cell y1⟩
      have hgetc : Hid (∀ (i : Nat) (x : Sl) (wx : World), L[i]? = some x → Kp [] W5 wx → Calls Try.prog 26 #[.pointer (some ⟨t, 0, none⟩), .agg #[.int .i64 x.n, .int .i64 x.s]] wx fun e w' => e = .returned (.tuple #[.agg #[.int .i64 x.k, .int .i64 x.o, .int .i64 x.z, .int .i64 x.b, .int .i64 x.r], .bool true]) ∧ Kp [] wx w') := fun i x wx hx K => by
        have := tget ((unhide X5).tm.tab.grew K) (pin_ok (unhide hok x (List.mem_of_getElem? hx)))
        rw [at_own (unhide hnd) hx] at this
        exact this
      clear K5 X
      go_wp2_with fail
      go_loopg [12] L.length (fun m i wr => ∃ p : Nat, p ≤ L.length ∧ m = L.length - p ∧ i = .int .i64 p ∧ Kp [] W5 wr)
      case atStart => exact ⟨0, Nat.zero_le _, rfl, rfl, Kp.refl _ _⟩
      case round =>
        obtain ⟨p, hp, rfl, rfl, hK⟩ := hrel
        have K := hide hK
        clear hK
        by_cases hpl : p < L.length
        · obtain ⟨x, hx⟩ : ∃ x, L[p]? = some x := ⟨_, List.getElem?_eq_getElem hpl⟩
          have b2 : (p : Int) < (L.length : Int) := by omega
          have b3 : ((p : Int)).toNat = p := Int.toNat_natCast p
          obtain ⟨g, hga, x0, x1⟩ := unhide hcell p x _ hx (unhide K)
          subst hga
          obtain ⟨o10, oZ⟩ := ap9_one (unhide X5).ap (unhide hcn) (List.mem_of_getElem? hx)
          have hgc := hide (unhide hgetc p x _ hx (unhide K))
          replace hx := hide hx
          obtain ⟨xn, xs, xu, xv, xk, xo, xz, xb, xr⟩ := x
          simp only at x0 x1 o10 oZ
          have o1 : decide (xo < 10) = false := decide_eq_false (by omega)
          have o2 : decide (10 + Z ≤ xo) = false := decide_eq_false (by omega)
          go_wp2_with fail
          refine (unhide hgc).mono ?_
          rintro e W6 ⟨rfl, K6⟩
          have K7 := hide (((unhide K).then K6).alloc (.cells #[.int .i64 xk, .int .i64 xo, .int .i64 xz, .int .i64 xb, .int .i64 xr] 38))
          have C7 := hide (Bk.new W6 38 [.int .i64 xk, .int .i64 xo, .int .i64 xz, .int .i64 xb, .int .i64 xr])
          obtain ⟨C, eC⟩ : ∃ C, W6.heap.size = C := ⟨_, rfl⟩
          rw [eC] at C7
          clear K6 K hgc x0 x1
          have c0 := (unhide C7).cell (i := 0) rfl
          have c1 := (unhide C7).cell (i := 1) rfl
          go_wp2_with fail
          generalize W6.alloc (.cells #[.int .i64 xk, .int .i64 xo, .int .i64 xz, .int .i64 xb, .int .i64 xr] 38) = W7 at *
          clear eC
          go_loopg [15] p (fun m i wr => ∃ q : Nat, q ≤ p ∧ m = p - q ∧ i = .int .i64 q ∧ Kp [] W7 wr)
          case atStart => exact ⟨0, Nat.zero_le _, rfl, rfl, Kp.refl _ _⟩
          case round =>
            obtain ⟨q, hq, rfl, rfl, hK⟩ := hrel
            clear c0 c1
            have KQ := hide hK
            clear hK
            by_cases hqp : q < p
            · obtain ⟨y, hy⟩ : ∃ y, L[q]? = some y := ⟨_, List.getElem?_eq_getElem (by omega)⟩
              have b4 : (q : Int) < (p : Int) := by omega
              have b4' : (q : Int) < (L.length : Int) := by omega
              have b5 : ((q : Int)).toNat = q := Int.toNat_natCast q
              obtain ⟨g', hga, z0, z1⟩ := unhide hcell q y _ hy ((unhide K7).then (unhide KQ))
              obtain rfl : g = g' := by simpa using hga
              have hno := (ap9_end (unhide X5).ap (unhide hcn) (unhide hx) hy hqp).2
              have hgc := hide (unhide hgetc q y _ hy ((unhide K7).then (unhide KQ)))
              clear hy hga
              obtain ⟨yn, ys, yu, yv, yk, yo, yz, yb, yr⟩ := y
              simp only at z0 z1 hno
              go_wp2_with fail
              refine (unhide hgc).mono ?_
              rintro e W8 ⟨rfl, K8⟩
              have K9 := hide (((unhide KQ).then K8).alloc (.cells #[.int .i64 yk, .int .i64 yo, .int .i64 yz, .int .i64 yb, .int .i64 yr] 38))
              have C9 := (unhide C7).kept (unhide K9) (by simp)
              have c0 := C9.cell (i := 0) rfl
              have c1 := C9.cell (i := 1) rfl
              clear K8 KQ hgc z0 z1 C9
              by_cases k1 : xk = 1
              · subst k1
                clear hno
                go_wp2
                go_roundg (p - (q + 1))
                case measure => omega
                case rel => exact ⟨q + 1, by omega, rfl, by go_num, unhide K9⟩
              · have k1' : (xk != 1) = true := bne_iff_ne.2 k1
                by_cases k2 : yk = 1
                · subst k2
                  clear hno k1
                  go_wp2
                  go_roundg (p - (q + 1))
                  case measure => omega
                  case rel => exact ⟨q + 1, by omega, rfl, by go_num, unhide K9⟩
                · have k2' : (yk != 1) = true := bne_iff_ne.2 k2
                  have k3 : (xo == yo) = false := beq_eq_false_iff_ne.2 (fun e => hno ⟨k1, k2, e⟩)
                  clear hno k1 k2
                  go_wp2
                  go_roundg (p - (q + 1))
                  case measure => omega
                  case rel => exact ⟨q + 1, by omega, rfl, by go_num, unhide K9⟩
            · have b4 : decide ((q : Int) < (p : Int)) = false := decide_eq_false (by omega)
              go_wp2
              go_roundg (L.length - (p + 1))
              case measure => omega
              case rel => exact ⟨p + 1, by omega, rfl, by go_num, (unhide K7).then (unhide KQ)⟩
        · have b2 : decide ((p : Int) < (L.length : Int)) = false := decide_eq_false (by omega)
          go_wp2
          go_ret
          exact ⟨rfl, ((unhide X5).tm.tab.kp.then (unhide K)).below (Nat.le_refl _) (by simp)⟩
theorem rapart_walk (size : Int) (a : Option Addr) (len cap : Nat) (V : Nat → Nat → Value) (w : World) (_ : (Lit.int .i64 size).wf = true) (hR : Recs w a len 5 V) (y1 : Five V len) :
    Calls Try.prog 4 #[.int .i64 size, .slice a len cap] w fun e w' => e = .returned (.bool true) ∧ Below w.heap.size w w' := by
  by_cases h : len ≤ 40
  · exact apart_in size a len cap V w h hR y1
  · exact apart_long size a len cap w (by omega)
end Go.Proofs.Ythjhpcbhkcmghaa
