/- Who waits, as a ring: each with those next to it; one put in behind the last, one taken out. -/
import Derived.Test.YtgahekhlbcnmaaaKMapG
namespace Go.Proofs.Ytgahekhlbcnmaaa
open Go.RowKit
set_option linter.unusedVariables false
/-- Another value at one place. -/
def updF (f : Int × Int → Int × Int) (a b : Int × Int) : Int × Int → Int × Int := fun q => if q = a then b else f q
theorem updF_at (f : Int × Int → Int × Int) (a b : Int × Int) : updF f a b a = b := if_pos rfl
theorem updF_ne (f : Int × Int → Int × Int) {a q : Int × Int} (b : Int × Int) (h : q ≠ a) : updF f a b q = f q := if_neg h
theorem updF_same (f : Int × Int → Int × Int) (a : Int × Int) : updF f a (f a) = f := by
  funext q
  unfold updF
  split
  · rename_i h; rw [h]
  · rfl
theorem updF_two (f : Int × Int → Int × Int) (a b c : Int × Int) : updF (updF f a b) a c = updF f a c := by
  funext q
  unfold updF
  split <;> rfl
/-- A place's value: who is ahead, who behind. -/
def plV (a b : Int × Int) : Value := .agg #[.int .i64 a.1, .int .i64 a.2, .int .i64 b.1, .int .i64 b.2]
def ents (L : List (Int × Int)) (p n : Int × Int → Int × Int) : List ((Int × Int) × Value) := L.map fun q => (q, plV (p q) (n q))
theorem ents_keys (L : List (Int × Int)) (p n : Int × Int → Int × Int) : (ents L p n).map Prod.fst = L := by
  unfold ents
  rw [List.map_map]
  exact List.map_id'' (fun _ => rfl) L
theorem ents_mem {L : List (Int × Int)} {p n : Int × Int → Int × Int} {q : Int × Int} (h : q ∈ L) : (q, plV (p q) (n q)) ∈ ents L p n := List.mem_map.2 ⟨q, h, rfl⟩
theorem ents_miss {L : List (Int × Int)} {p n : Int × Int → Int × Int} {q : Int × Int} (h : q ∉ L) : ∀ x ∈ ents L p n, x.1 ≠ q := by
  intro x hx e
  obtain ⟨y, hy, rfl⟩ := List.mem_map.1 hx
  exact h (e ▸ hy)
theorem ents_set (L : List (Int × Int)) (p n : Int × Int → Int × Int) (a x y : Int × Int) : (ents L p n).map (Gm.setF a (plV x y)) = ents L (updF p a x) (updF n a y) := by
  unfold ents
  rw [List.map_map]
  refine List.map_congr_left fun q _ => ?_
  unfold Gm.setF updF
  simp only [Function.comp]
  by_cases h : q = a
  · rw [if_pos h, if_pos h, if_pos h, h]
  · rw [if_neg h, if_neg h, if_neg h]
theorem ents_congr {L : List (Int × Int)} {p n p' n' : Int × Int → Int × Int} (hp : ∀ q ∈ L, p' q = p q) (hn : ∀ q ∈ L, n' q = n q) : ents L p' n' = ents L p n :=
  List.map_congr_left fun q hq => by rw [hp q hq, hn q hq]
theorem ents_push {L : List (Int × Int)} {p n : Int × Int → Int × Int} {a b : Int × Int} (hb : b ∉ L) : ents L p n ++ [(b, plV a (n b))] = ents (L ++ [b]) (updF p b a) n := by
  have e : ents (L ++ [b]) (updF p b a) n = ents L (updF p b a) n ++ ents [b] (updF p b a) n := List.map_append
  have e2 : ents L (updF p b a) n = ents L p n := ents_congr (fun q hq => updF_ne p a (fun e => hb (e ▸ hq))) (fun _ _ => rfl)
  have e3 : ents [b] (updF p b a) n = [(b, plV a (n b))] := by unfold ents; simp [updF]
  rw [e, e2, e3]
theorem ents_without (L : List (Int × Int)) (p n : Int × Int → Int × Int) (d : Int × Int) : Gm.without d (ents L p n) = ents (L.filter fun q => q != d) p n := by
  unfold Gm.without ents
  rw [List.filter_map]
  congr 1
  refine List.filter_congr fun q _ => ?_
  show (!decide (q = d)) = !(q == d)
  by_cases h : q = d
  · rw [decide_eq_true h, beq_iff_eq.2 h]
  · rw [decide_eq_false h, beq_eq_false_iff_ne.2 h]
/-- One behind the other: each is linked with the next, both ways. -/
def Sg (p n : Int × Int → Int × Int) : List (Int × Int) → Prop
  | [] => True
  | [_] => True
  | a :: b :: M => n a = b ∧ p b = a ∧ Sg p n (b :: M)
theorem sg_app {p n : Int × Int → Int × Int} (A : List (Int × Int)) (a : Int × Int) (B : List (Int × Int)) : Sg p n (A ++ a :: B) ↔ Sg p n (A ++ [a]) ∧ Sg p n (a :: B) := by
  induction A with
  | nil => simp [Sg]
  | cons c A ih =>
    cases A with
    | nil => simp [Sg, and_assoc]
    | cons d A' =>
      have e1 : c :: d :: A' ++ a :: B = c :: d :: (A' ++ a :: B) := rfl
      have e2 : c :: d :: A' ++ [a] = c :: d :: (A' ++ [a]) := rfl
      rw [e1, e2]
      have ih' : Sg p n (d :: (A' ++ a :: B)) ↔ Sg p n (d :: (A' ++ [a])) ∧ Sg p n (a :: B) := ih
      show (n c = d ∧ p d = c ∧ Sg p n (d :: (A' ++ a :: B))) ↔ (n c = d ∧ p d = c ∧ Sg p n (d :: (A' ++ [a]))) ∧ Sg p n (a :: B)
      rw [ih']
      exact ⟨fun ⟨h1, h2, h3, h4⟩ => ⟨⟨h1, h2, h3⟩, h4⟩, fun ⟨⟨h1, h2, h3⟩, h4⟩ => ⟨h1, h2, h3, h4⟩⟩
theorem sg_congr {p n p' n' : Int × Int → Int × Int} {M : List (Int × Int)} (h : Sg p n M) (hn : ∀ a ∈ M.dropLast, n' a = n a) (hp : ∀ b ∈ M.tail, p' b = p b) : Sg p' n' M := by
  induction M with
  | nil => trivial
  | cons a M ih =>
    cases M with
    | nil => trivial
    | cons b M =>
      obtain ⟨h1, h2, h3⟩ := h
      have ed : (a :: b :: M).dropLast = a :: (b :: M).dropLast := rfl
      rw [ed] at hn
      refine ⟨(hn a (by simp)).trans h1, (hp b (by simp)).trans h2, ih h3 (fun c hc => hn c (List.mem_cons_of_mem _ hc)) (fun c hc => hp c ?_)⟩
      have hc' : c ∈ M := hc
      show c ∈ b :: M
      exact List.mem_cons_of_mem _ hc'
theorem sg_get {p n : Int × Int → Int × Int} {M : List (Int × Int)} (h : Sg p n M) {i : Nat} {a b : Int × Int} (ha : M[i]? = some a) (hb : M[i + 1]? = some b) : n a = b ∧ p b = a := by
  induction M generalizing i with
  | nil => cases ha
  | cons c M ih =>
    cases M with
    | nil => simp at hb
    | cons d M =>
      obtain ⟨h1, h2, h3⟩ := h
      cases i with
      | zero =>
        have e1 : c = a := by simpa using ha
        have e2 : d = b := by simpa using hb
        subst e1 e2
        exact ⟨h1, h2⟩
      | succ i => exact ih h3 (by simpa using ha) (by simpa using hb)
/-- The ring, from the first on. -/
def Rn (p n : Int × Int → Int × Int) (f : Int × Int) : List (Int × Int) → Prop
  | [] => True
  | x :: T => f = x ∧ Sg p n (x :: T ++ [x])
theorem ends_so {α : Type} (x : α) (T : List α) : ∃ A a, x :: T = A ++ [a] := by
  rcases List.eq_nil_or_concat (x :: T) with h | ⟨A, a, h⟩
  · cases h
  · exact ⟨A, a, by rw [h, List.concat_eq_append]⟩
theorem rn_last {p n : Int × Int → Int × Int} {f x : Int × Int} {T : List (Int × Int)} (h : Rn p n f (x :: T)) {A : List (Int × Int)} {a : Int × Int} (e : x :: T = A ++ [a]) : p x = a ∧ n a = x ∧ Sg p n (A ++ [a]) := by
  obtain ⟨_, hs⟩ := h
  rw [e, List.append_assoc] at hs
  obtain ⟨h1, h2, h3, _⟩ := (sg_app A a [x]).1 hs
  exact ⟨h3, h2, h1⟩
theorem rn_congr {p n p' n' : Int × Int → Int × Int} {f : Int × Int} {L : List (Int × Int)} (h : Rn p n f L) (hp : ∀ q ∈ L, p' q = p q) (hn : ∀ q ∈ L, n' q = n q) : Rn p' n' f L := by
  cases L with
  | nil => trivial
  | cons x T =>
    refine ⟨h.1, sg_congr h.2 (fun c hc => ?_) (fun c hc => ?_)⟩
    · rw [List.dropLast_concat] at hc
      exact hn c hc
    · have hc' : c ∈ T ++ [x] := hc
      rcases List.mem_append.1 hc' with m | m
      · exact hp c (List.mem_cons_of_mem _ m)
      · exact hp c (by rw [List.mem_singleton.1 m]; simp)
theorem rn_one (f : Int × Int) {p n : Int × Int → Int × Int} (hp : p f = f) (hn : n f = f) : Rn p n f [f] := ⟨rfl, hn, hp, trivial⟩
/-- One put in behind the last. -/
theorem rn_push {p n : Int × Int → Int × Int} {f x d : Int × Int} {T : List (Int × Int)} (h : Rn p n f (x :: T)) (hn : (x :: T).Nodup) (hd : d ∉ x :: T) : p x ∈ x :: T ∧ Rn (updF (updF p d (p x)) x d) (updF (updF n (p x) d) d x) f (x :: T ++ [d]) := by
  obtain ⟨A, a, e⟩ := ends_so x T
  obtain ⟨h1, h2, h3⟩ := rn_last h e
  have ha : a ∈ x :: T := by rw [e]; simp
  have hxd : x ≠ d := fun q => hd (q ▸ by simp)
  have had : a ≠ d := fun q => hd (q ▸ ha)
  rw [h1]
  refine ⟨ha, h.1, ?_⟩
  show Sg _ _ (x :: T ++ [d] ++ [x])
  rw [e, List.append_assoc, List.append_assoc]
  refine (sg_app A a [d, x]).2 ⟨sg_congr h3 (fun c hc => ?_) (fun c hc => ?_), ?_, ?_, ?_, ?_, trivial⟩
  · rw [List.dropLast_concat] at hc
    have hcL : c ∈ x :: T := by rw [e]; exact List.mem_append_left _ hc
    rw [e, List.nodup_append] at hn
    rw [updF_ne _ _ (fun q => hd (by rw [← q]; exact hcL)), updF_ne _ _ (hn.2.2 c hc a (by simp))]
  · rw [← e] at hc
    have hc' : c ∈ T := hc
    rw [List.nodup_cons] at hn
    rw [updF_ne _ _ (fun q => hn.1 (by rw [← q]; exact hc')), updF_ne _ _ (fun q => hd (by rw [← q]; exact List.mem_cons_of_mem _ hc'))]
  · rw [updF_ne _ _ had, updF_at]
  · rw [updF_ne _ _ (Ne.symm hxd), updF_at]
  · rw [updF_at]
  · rw [updF_at]
def lDel (L : List (Int × Int)) (d : Int × Int) : List (Int × Int) := L.filter fun q => q != d
theorem lDel_len (L : List (Int × Int)) (d : Int × Int) : (lDel L d).length ≤ L.length := List.length_filter_le _ _
theorem lDel_same {L : List (Int × Int)} {d : Int × Int} (h : d ∉ L) : lDel L d = L := List.filter_eq_self.2 fun q hq => by simp only [bne_iff_ne, ne_eq]; rintro rfl; exact h hq
theorem lDel_mid {A B : List (Int × Int)} {d : Int × Int} (h : (A ++ d :: B).Nodup) : lDel (A ++ d :: B) d = A ++ B := by
  have h2 := (List.perm_middle.nodup_iff).1 h
  rw [List.nodup_cons, List.mem_append] at h2
  unfold lDel
  rw [List.filter_append, List.filter_cons_of_neg (by simp)]
  exact congr (congrArg _ (lDel_same (fun q => h2.1 (.inl q)))) (lDel_same (fun q => h2.1 (.inr q)))
theorem lDel_erase {L : List (Int × Int)} (h : L.Nodup) {i : Nat} {d : Int × Int} (hi : L[i]? = some d) : L.eraseIdx i = lDel L d := by
  obtain ⟨hlt, rfl⟩ := List.getElem?_eq_some_iff.1 hi
  have e : L = L.take i ++ L[i] :: L.drop (i + 1) := by rw [List.getElem_cons_drop, List.take_append_drop]
  rw [List.eraseIdx_eq_take_drop_succ]
  have h' := h
  rw [e] at h'
  have e2 := lDel_mid h'
  rw [← e] at e2
  exact e2.symm
theorem lDel_gone (L : List (Int × Int)) (d : Int × Int) : d ∉ lDel L d := fun h => by have := (List.mem_filter.1 h).2; simp at this
theorem lDel_nd {L : List (Int × Int)} (h : L.Nodup) (d : Int × Int) : (lDel L d).Nodup := h.sublist List.filter_sublist
theorem lDel_in {L : List (Int × Int)} {d q : Int × Int} : q ∈ lDel L d ↔ q ∈ L ∧ q ≠ d := by unfold lDel; rw [List.mem_filter]; simp
/-- One taken out. -/
theorem rn_drop {p n : Int × Int → Int × Int} {f d : Int × Int} {L : List (Int × Int)} (h : Rn p n f L) (hn : L.Nodup) (hd : d ∈ L) : p d ∈ L ∧ n d ∈ L ∧ Rn (updF p (n d) (p d)) (updF n (p d) (n d)) (if d = f then n d else f) (lDel L d) := by
  obtain ⟨A, B, rfl⟩ := List.append_of_mem hd
  rw [lDel_mid hn]
  cases A with
  | nil =>
    have h0 := h
    obtain ⟨rfl, hs⟩ := h
    cases B with
    | nil =>
      obtain ⟨h1, h2, _⟩ := hs
      rw [h1, h2]
      exact ⟨by simp, by simp, trivial⟩
    | cons b T =>
      obtain ⟨A, a, e⟩ := ends_so b T
      have hL : f :: b :: T = (f :: A) ++ [a] := by rw [e]; rfl
      obtain ⟨h1, h2, h3⟩ := rn_last h0 hL
      have h4 : n f = b := hs.1
      rw [h1, h4, if_pos rfl]
      have ha : a ∈ b :: T := by rw [e]; simp
      refine ⟨by simp at ha ⊢; exact .inr ha, by simp, rfl, ?_⟩
      have hs2 : Sg p n (A ++ [a]) := by
        have h5 : Sg p n (b :: T ++ [f]) := hs.2.2
        rw [e, List.append_assoc] at h5
        exact ((sg_app A a [f]).1 h5).1
      have hn2 : (b :: T).Nodup := by
        have : (f :: b :: T).Nodup := hn
        exact (List.nodup_cons.1 this).2
      show Sg _ _ (b :: T ++ [b])
      rw [e, List.append_assoc]
      refine (sg_app A a [b]).2 ⟨sg_congr hs2 (fun c hc => ?_) (fun c hc => ?_), ?_, ?_, trivial⟩
      · rw [List.dropLast_concat] at hc
        rw [e, List.nodup_append] at hn2
        exact updF_ne _ _ (hn2.2.2 c hc a (by simp))
      · rw [← e] at hc
        have hc' : c ∈ T := hc
        exact updF_ne _ _ (fun q => (List.nodup_cons.1 hn2).1 (q ▸ hc'))
      · exact updF_at _ _ _
      · exact updF_at _ _ _
  | cons x T1 =>
    obtain ⟨rfl, hs⟩ := h
    obtain ⟨A, a, e⟩ := ends_so f T1
    obtain ⟨b, C, e2⟩ : ∃ b C, B ++ [f] = b :: C := by
      cases B with
      | nil => exact ⟨f, [], rfl⟩
      | cons b B => exact ⟨b, B ++ [f], rfl⟩
    have hM : f :: T1 ++ d :: B ++ [f] = A ++ a :: d :: b :: C := by
      rw [List.append_assoc, show d :: B ++ [f] = d :: (B ++ [f]) from rfl, e2, e, List.append_assoc]
      rfl
    have hs2 : Sg p n (A ++ a :: d :: b :: C) := by rw [← hM]; exact hs
    obtain ⟨h1, h2, h3, h4, h5, h6⟩ := (sg_app A a (d :: b :: C)).1 hs2
    have hdf : d ≠ f := fun q => by
      subst q
      have hn' := hn
      rw [List.cons_append, List.nodup_cons] at hn'
      exact hn'.1 (by simp)
    have ha : a ∈ f :: T1 := by rw [e]; simp
    have hb : b ∈ B ++ [f] := by rw [e2]; simp
    rw [List.nodup_append] at hn
    obtain ⟨n1, n2, n3⟩ := hn
    rw [List.nodup_cons] at n1 n2
    rw [h3, h4, if_neg hdf]
    refine ⟨List.mem_append_left _ ha, ?_, rfl, ?_⟩
    · rcases List.mem_append.1 hb with m | m
      · exact List.mem_append_right _ (List.mem_cons_of_mem _ m)
      · rw [List.mem_singleton.1 m]; simp
    · have eM : f :: (T1 ++ B) ++ [f] = A ++ a :: b :: C := by
        have : f :: (T1 ++ B) ++ [f] = (f :: T1) ++ (B ++ [f]) := by simp
        rw [this, e, e2, List.append_assoc]
        rfl
      show Sg _ _ (f :: (T1 ++ B) ++ [f])
      rw [eM]
      refine (sg_app A a (b :: C)).2 ⟨sg_congr h1 (fun c hc => ?_) (fun c hc => ?_), updF_at _ _ _, updF_at _ _ _, sg_congr h6 (fun c hc => ?_) (fun c hc => ?_)⟩
      · rw [List.dropLast_concat] at hc
        have n1' : (A ++ [a]).Nodup := by rw [← e]; exact List.nodup_cons.2 n1
        rw [List.nodup_append] at n1'
        exact updF_ne _ _ (n1'.2.2 c hc a (by simp))
      · rw [← e] at hc
        have hc' : c ∈ T1 := hc
        refine updF_ne _ _ (fun q => ?_)
        subst q
        rcases List.mem_append.1 hb with m | m
        · exact n3 c (List.mem_cons_of_mem _ hc') c (List.mem_cons_of_mem _ m) rfl
        · rw [List.mem_singleton.1 m] at hc'
          exact n1.1 hc'
      · rw [← e2, List.dropLast_concat] at hc
        exact updF_ne _ _ (fun q => n3 a ha c (List.mem_cons_of_mem _ hc) q.symm)
      · have hc' : c ∈ C := hc
        have nB : (B ++ [f]).Nodup := by
          rw [List.nodup_append]
          refine ⟨n2.2, by simp, fun u hu v hv q => ?_⟩
          rw [List.mem_singleton.1 hv] at q
          exact n3 f (by simp) u (List.mem_cons_of_mem _ hu) q.symm
        rw [e2, List.nodup_cons] at nB
        exact updF_ne _ _ (fun q => nB.1 (q ▸ hc'))
theorem lDel_head {x : Int × Int} {T : List (Int × Int)} (h : (x :: T).Nodup) : lDel (x :: T) x = T := lDel_mid (A := []) h
/-- Going round: who comes behind number i. -/
theorem rn_next {p n : Int × Int → Int × Int} {f : Int × Int} {L : List (Int × Int)} (h : Rn p n f L) {i : Nat} {a b : Int × Int} (ha : L[i]? = some a) (hb : L[i + 1]? = some b) : n a = b := by
  cases L with
  | nil => cases ha
  | cons x T =>
    have h1 : i < (x :: T).length := (List.getElem?_eq_some_iff.1 ha).1
    have h2 : i + 1 < (x :: T).length := (List.getElem?_eq_some_iff.1 hb).1
    refine (sg_get h.2 (i := i) (a := a) (b := b) ?_ ?_).1
    · rw [List.getElem?_append_left h1]; exact ha
    · rw [List.getElem?_append_left h2]; exact hb
end Go.Proofs.Ytgahekhlbcnmaaa
