/- The tree below a place: what is below it are its children, and what is below these. -/
import Derived.Test.YtdlkaaiedfikoaaKTabIn
namespace Go.Proofs.Ytdlkaaiedfikoaa
open Go.RowKit
set_option linter.unusedVariables false
theorem bfs_is {L : List Sl} (hF : Forest L) (n s : Int) : ∃ out, Bfs (kidsOf L) (n, s) out out.length := by
  have hK := kids_of (List.Perm.refl L)
  have key : ∀ m : Nat, ∀ out j, Bfs (kidsOf L) (n, s) out j → j ≤ out.length → L.length - j = m → ∃ out', Bfs (kidsOf L) (n, s) out' out'.length := by
    intro m
    induction m using Nat.strongRecOn with
    | _ m ih =>
      intro out j hB hj hm
      have hl := hB.len hK hF
      by_cases hlt : j < out.length
      · obtain ⟨q, hq⟩ : ∃ q, out[j]? = some q := ⟨_, List.getElem?_eq_getElem hlt⟩
        have hs := hB.step hq
        exact ih (L.length - (j + 1)) (by omega) _ _ hs (by rw [List.length_append]; omega) rfl
      · obtain rfl : j = out.length := by omega
        exact ⟨out, hB⟩
  exact key _ _ 0 (Bfs.start _ _) (Nat.zero_le _) rfl
theorem low_rec {L : List Sl} (hF : Forest L) {n s : Int} {x : Sl} (hx : x ∈ L) : lowF L n s x = true ↔ parP x ≠ (0, 0) ∧ (parP x = (n, s) ∨ ∃ y ∈ L, ppl y = parP x ∧ lowF L n s y = true) := by
  have hK := kids_of (List.Perm.refl L)
  obtain ⟨out, hB⟩ := bfs_is hF n s
  rw [low_iff hB hK hF hx, hB.mem hK hF hx]
  constructor
  · rintro ⟨h1, h2 | h2⟩
    · exact ⟨h1, .inl h2⟩
    · obtain ⟨y, hy, e, _⟩ := hB.sub hK _ h2
      exact ⟨h1, .inr ⟨y, hy, e, (low_iff hB hK hF hy).2 (by rw [e]; exact h2)⟩⟩
  · rintro ⟨h1, h2 | ⟨y, hy, e, h2⟩⟩
    · exact ⟨h1, .inl h2⟩
    · exact ⟨h1, .inr (by rw [← e]; exact (low_iff hB hK hF hy).1 h2)⟩
theorem low_rank {L : List Sl} (hF : Forest L) {d : Int × Int → Nat} (hd : ∀ x ∈ L, parP x ≠ (0, 0) → d (parP x) < d (ppl x)) {n s : Int} : ∀ m : Nat, ∀ x ∈ L, d (ppl x) = m → lowF L n s x = true → d (n, s) < d (ppl x) := by
  intro m
  induction m using Nat.strongRecOn with
  | _ m ih =>
    intro x hx hm hl
    obtain ⟨h1, h2⟩ := (low_rec hF hx).1 hl
    have h0 := hd x hx h1
    rcases h2 with e | ⟨y, hy, e, h3⟩
    · rw [e] at h0; exact h0
    · have h4 := ih (d (ppl y)) (by rw [e]; omega) y hy rfl h3
      rw [e] at h4
      omega
theorem low_self {L : List Sl} (hF : Forest L) {x : Sl} (hx : x ∈ L) : lowF L x.n x.s x = false := by
  rw [← Bool.not_eq_true]
  intro h
  obtain ⟨d, hd⟩ := hF.rank
  have := low_rank hF hd _ x hx rfl h
  exact Nat.lt_irrefl _ this
theorem low_up {L : List Sl} (hF : Forest L) {x y : Sl} (hx : x ∈ L) (hy : y ∈ L) (ey : ppl y = parP x) (hz : parP x ≠ (0, 0)) {n s : Int} (hp : parP x ≠ (n, s)) : lowF L n s x = lowF L n s y := by
  refine Bool.eq_iff_iff.2 ?_
  rw [low_rec hF hx]
  constructor
  · rintro ⟨_, e | ⟨z, hz', e, h3⟩⟩
    · exact absurd e hp
    · have := key_eq hF.nd hz' hy (e.trans ey.symm)
      rw [← this]; exact h3
  · intro h; exact ⟨hz, .inr ⟨y, hy, ey, h⟩⟩
theorem sum_add {α : Type} (C : List α) (f g : α → Nat) : (C.map fun c => f c + g c).sum = (C.map f).sum + (C.map g).sum := by
  induction C with
  | nil => rfl
  | cons a C ih => simp only [List.map_cons, List.sum_cons, ih]; omega
theorem sum_zero {α : Type} (C : List α) (f : α → Nat) (h : ∀ c ∈ C, f c = 0) : (C.map f).sum = 0 := by
  induction C with
  | nil => rfl
  | cons a C ih => rw [List.map_cons, List.sum_cons, h a (List.mem_cons_self ..), ih (fun c hc => h c (List.mem_cons_of_mem _ hc))]
theorem sum_swap {α β : Type} (L : List α) (C : List β) (f : α → β → Nat) : (L.map fun x => (C.map fun c => f x c).sum).sum = (C.map fun c => (L.map fun x => f x c).sum).sum := by
  induction L with
  | nil => simp only [List.map_nil, List.sum_nil]; exact (sum_zero C _ (fun _ _ => rfl)).symm
  | cons a L ih => simp only [List.map_cons, List.sum_cons, ih]; rw [sum_add]
theorem sum_count (C : List (Int × Int)) (p : Int × Int) : (C.map fun c => if p = c then 1 else 0).sum = C.count p := by
  induction C with
  | nil => rfl
  | cons a C ih =>
    rw [List.map_cons, List.sum_cons, ih, List.count_cons]
    by_cases h : p = a
    · rw [if_pos h, if_pos (by simp [h])]; omega
    · rw [if_neg h, if_neg (by simpa using fun e => h e.symm)]; omega
theorem sum_same {α : Type} (C : List α) (f g : α → Nat) (h : ∀ c ∈ C, f c = g c) : (C.map f).sum = (C.map g).sum := by rw [List.map_congr_left h]
theorem sel_sum (F : Sl → Bool) (L : List Sl) : (sel F L).length = (L.map fun x => (F x).toNat).sum := by
  unfold sel
  rw [List.length_map]
  induction L with
  | nil => rfl
  | cons a L ih =>
    rw [List.filter_cons, List.map_cons, List.sum_cons, ← ih]
    cases F a
    · simp
    · simp; omega
theorem low_sum {L : List Sl} (hF : Forest L) {n s : Int} (hq : (n, s) ≠ ((0 : Int), (0 : Int))) {d : Int × Int → Nat} (hd : ∀ x ∈ L, parP x ≠ (0, 0) → d (parP x) < d (ppl x)) {x : Sl} (hx : x ∈ L) :
    ∀ m : Nat, ∀ x ∈ L, d (ppl x) = m → (lowF L n s x).toNat = (sonF n s x).toNat + ((kidsOf L (n, s)).map fun c => (lowF L c.1 c.2 x).toNat).sum := by
  have hK := kids_of (List.Perm.refl L)
  intro m
  induction m using Nat.strongRecOn with
  | _ m ih =>
    intro x hx hm
    have nos : ∀ x : Sl, parP x ≠ (n, s) → sonF n s x = false := fun x h => by
      rw [← Bool.not_eq_true]
      exact fun e => h ((sonF_iff (q := (n, s))).1 e)
    by_cases hz : parP x = (0, 0)
    · have a1 : ∀ n s, lowF L n s x = false := fun n s => by
        rw [← Bool.not_eq_true, low_rec hF hx]; exact fun h => h.1 hz
      rw [a1, nos x (fun e => hq (e.symm.trans hz)), sum_zero _ _ (fun c _ => by rw [a1]; rfl)]
      rfl
    · by_cases hp : parP x = (n, s)
      · have a1 : lowF L n s x = true := (low_rec hF hx).2 ⟨hz, .inl hp⟩
        have a2 : sonF n s x = true := (sonF_iff (q := (n, s))).2 hp
        rw [a1, a2, sum_zero]
        · rfl
        · intro c hc
          obtain ⟨_, y, hy, e1, e2⟩ := hK.mem.1 hc
          have hdc : d (n, s) < d c := by
            have := hd y hy (by rw [e2]; exact hq)
            rw [e2, e1] at this
            exact this
          have b1 : lowF L c.1 c.2 x = false := by
            rw [← Bool.not_eq_true]
            intro h
            obtain ⟨_, h2⟩ := (low_rec hF hx).1 h
            rcases h2 with e | ⟨z, hz', e, h3⟩
            · rw [hp] at e
              have e' : (n, s) = c := e
              rw [← e'] at hdc
              omega
            · have h5 := low_rank hF hd _ z hz' rfl h3
              rw [e, hp] at h5
              have h6 : d c < d (n, s) := h5
              omega
          rw [b1]
          rfl
      · obtain ⟨y, hy, ey⟩ : ∃ y ∈ L, ppl y = parP x := (hF.up x hx).resolve_left hz
        have hlt := hd x hx hz
        rw [← ey] at hlt
        have IH := ih (d (ppl y)) (by omega) y hy rfl
        rw [low_up hF hx hy ey hz hp, nos x hp, IH]
        have a3 : ((kidsOf L (n, s)).map fun c => (lowF L c.1 c.2 x).toNat).sum = ((kidsOf L (n, s)).map fun c => (lowF L c.1 c.2 y).toNat + if ppl y = c then 1 else 0).sum := by
          refine sum_same _ _ _ fun c hc => ?_
          by_cases hc' : ppl y = c
          · have b1 : lowF L c.1 c.2 x = true := (low_rec hF hx).2 ⟨hz, .inl (by rw [← ey, hc'])⟩
            have b2 : lowF L c.1 c.2 y = false := by
              rw [← hc']
              exact low_self hF hy
            rw [b1, b2, if_pos hc']
            rfl
          · rw [low_up hF hx hy ey hz (fun e => hc' (ey.trans e)), if_neg hc']
            rfl
        rw [a3, sum_add, sum_count]
        have a4 : (kidsOf L (n, s)).count (ppl y) = (sonF n s y).toNat := by
          by_cases e : parP y = (n, s)
          · rw [hK.count hF.nd hy (by rw [e]; exact hq), if_pos e.symm, (sonF_iff (q := (n, s))).2 e]
            rfl
          · rw [nos y e, List.count_eq_zero.2]
            · rfl
            · intro hm
              obtain ⟨_, z, hz', e1, e2⟩ := hK.mem.1 hm
              have := key_eq hF.nd hz' hy e1
              rw [this] at e2
              exact e e2
        rw [a4]
        show _ = 0 + _
        omega
theorem below_len {L : List Sl} (hF : Forest L) {n s : Int} (hq : (n, s) ≠ ((0 : Int), (0 : Int))) :
    (sel (lowF L n s) L).length = (kidsOf L (n, s)).length + ((kidsOf L (n, s)).map fun c => (sel (lowF L c.1 c.2) L).length).sum := by
  obtain ⟨d, hd⟩ := hF.rank
  rw [sel_sum, sum_same L _ (fun x => (sonF n s x).toNat + ((kidsOf L (n, s)).map fun c => (lowF L c.1 c.2 x).toNat).sum) (fun x hx => low_sum hF hq hd hx _ x hx rfl), sum_add, sum_swap, ← sel_sum]
  have e : kidsOf L (n, s) = sel (sonF n s) L := by unfold kidsOf; rw [if_neg hq]
  rw [← e]
  congr 1
  exact sum_same _ _ _ fun c _ => (sel_sum _ _).symm
theorem kids_are {L : List Sl} {n s : Int} (hq : (n, s) ≠ ((0 : Int), (0 : Int))) : kidsOf L (n, s) = sel (kidF n s) L := by
  unfold kidsOf
  rw [if_neg hq, sel_son]
  cases hi : isN n s with
  | false => rfl
  | true =>
    obtain ⟨q1, q2⟩ := isN_iff.1 hi
    exact absurd (Prod.ext q1 q2) hq
/-- The sum so far. -/
def psum (L : List Sl) (C : List (Int × Int)) (k : Nat) : Nat := ((C.take k).map fun c => (sel (lowF L c.1 c.2) L).length).sum
theorem psum_zero (L : List Sl) (C : List (Int × Int)) : psum L C 0 = 0 := by unfold psum; simp
theorem psum_step (L : List Sl) (C : List (Int × Int)) {k : Nat} {q : Int × Int} (h : C[k]? = some q) : psum L C (k + 1) = psum L C k + (sel (lowF L q.1 q.2) L).length := by
  obtain ⟨hk, rfl⟩ := List.getElem?_eq_some_iff.1 h
  unfold psum
  rw [List.take_succ_eq_append_getElem hk, List.map_append, List.sum_append]
  simp
theorem psum_all {L : List Sl} (hF : Forest L) {n s : Int} (hq : (n, s) ≠ ((0 : Int), (0 : Int))) : (sel (kidF n s) L).length + psum L (sel (kidF n s) L) (sel (kidF n s) L).length = (sel (lowF L n s) L).length := by
  unfold psum
  rw [List.take_length, ← kids_are hq]
  exact (below_len hF hq).symm
theorem psum_le {L : List Sl} (C : List (Int × Int)) (k : Nat) (hC : C.length ≤ 100) (hL : L.length ≤ 100) : psum L C k ≤ 10000 := by
  have key : ∀ D : List (Int × Int), (D.map fun c => (sel (lowF L c.1 c.2) L).length).sum ≤ D.length * 100 := by
    intro D
    induction D with
    | nil => simp
    | cons a D ih =>
      rw [List.map_cons, List.sum_cons, List.length_cons]
      have := sel_len (lowF L a.1 a.2) L
      omega
  unfold psum
  have := key (C.take k)
  rw [List.length_take] at this
  omega
theorem kid_par {L : List Sl} (hF : Forest L) {n s : Int} {c : Int × Int} (h : c ∈ sel (kidF n s) L) : parL L c.1 c.2 = (n, s) ∧ PIn c := by
  unfold sel at h
  obtain ⟨y, hy, rfl⟩ := List.mem_map.1 h
  obtain ⟨hyL, hk⟩ := List.mem_filter.1 hy
  refine ⟨?_, pin_ok (hF.ok y hyL)⟩
  rw [par_is hF.nd hyL]
  unfold kidF at hk
  simp at hk
  exact Prod.ext hk.1.1 hk.1.2
theorem low_ne {L : List Sl} (hF : Forest L) {n s : Int} {c : Int × Int} (h : c ∈ sel (lowF L n s) L) : c ≠ (n, s) := by
  unfold sel at h
  obtain ⟨y, hy, rfl⟩ := List.mem_map.1 h
  obtain ⟨hyL, hk⟩ := List.mem_filter.1 hy
  intro e
  have e1 : y.n = n := congrArg Prod.fst e
  have e2 : y.s = s := congrArg Prod.snd e
  have := low_self hF hyL
  rw [e1, e2, hk] at this
  cases this
theorem rises_at {ps : List (Int × Int)} (h : Rises ps) {k : Nat} {p q : Int × Int} (hp : ps[k]? = some p) (hq : ps[k + 1]? = some q) : before p.1 p.2 q.1 q.2 = true := by
  obtain ⟨h1, rfl⟩ := List.getElem?_eq_some_iff.1 hp
  obtain ⟨h2, rfl⟩ := List.getElem?_eq_some_iff.1 hq
  rw [before_iff]
  exact List.pairwise_iff_getElem.1 h k (k + 1) h1 h2 (by omega)
theorem par_there {L : List Sl} (hF : Forest L) {n s u v : Int} (h : parL L n s = (u, v)) : (u = 0 ∧ v = 0) ∨ (lookS L u v).isSome = true := by
  unfold parL at h
  cases ha : atL L n s with
  | none => rw [ha] at h; cases h; exact .inl ⟨rfl, rfl⟩
  | some i =>
    rw [ha] at h
    obtain ⟨y, hy, _⟩ := atL_some ha
    simp only [hy] at h
    rcases hF.up y (List.mem_of_getElem? hy) with e | ⟨z, hz, e⟩
    · have e' : (y.u, y.v) = (0, 0) := e
      rw [h] at e'
      cases e'
      exact .inl ⟨rfl, rfl⟩
    · right
      rw [look_iff]
      have e' : ppl z = (u, v) := by rw [e]; exact h
      intro q
      exact at_none_iff.1 q z hz ⟨congrArg Prod.fst e', congrArg Prod.snd e'⟩
end Go.Proofs.Ytdlkaaiedfikoaa
