/- The program's table and marks, and the document's, beside one another. -/
import Derived.Test.YthjhpcbhkcmghaaKLaw9
import Derived.Test.YthjhpcbhkcmghaaKMake0
import Derived.Test.YthjhpcbhkcmghaaKTwo5
import Derived.Test.YthjhpcbhkcmghaaKApart9
namespace Go.Proofs.Ythjhpcbhkcmghaa
open Go.RowKit
set_option linter.unusedVariables false
/-- The program's (slots L1, marks F1) and the document's (L2, F2). -/
structure Pq (w : World) (t : Nat) (L1 : List Sl) (F1 : Int × Int → Int) (L2 : List Sl) (F2 : Int × Int → Int) (n : Nat) (wx : World) : Prop where
  tm : TM w t (t + 1 + 1) L1 F1 wx
  rd : RD (t + 1) (t + 1) (t + 1 + 1 + 1) L2 F2 n wx
theorem Pq.grew {w : World} {t : Nat} {L1 L2 : List Sl} {F1 F2 : Int × Int → Int} {n : Nat} {wx wy : World} (h : Pq w t L1 F1 L2 F2 n wx) (k : Kp [] wx wy) : Pq w t L1 F1 L2 F2 n wy := ⟨h.tm.grew k, h.rd.grew k⟩
theorem Pq.heads {w : World} {t : Nat} {L1 L2 : List Sl} {F1 F2 : Int × Int → Int} {n : Nat} {wx : World} (h : Pq w t L1 F1 L2 F2 n wx) : (∃ v, Bk wx t 27 v) ∧ (∃ v, Bk wx (t + 1) 30 v) ∧ (∃ v, Bk wx (t + 1 + 1) 33 v) ∧ ∃ v, Bk wx (t + 1 + 1 + 1) 36 v := by
  obtain ⟨m, hp, _⟩ := h.tm.tab.tab
  obtain ⟨m', hb, _⟩ := h.tm.ma.mp
  obtain ⟨ra, rc, r⟩ := h.rd.rt
  obtain ⟨a, cap, M, q, _⟩ := h.rd.rm
  exact ⟨⟨_, hp.head⟩, ⟨_, r.head⟩, ⟨_, hb⟩, _, q.head⟩
theorem Bk.clash {w : World} {g : Nat} {T T' : TypeId} {vs : List Value} {c : Array Value} {z : Nat × Nat} (b : Bk w g T vs) (h : w.heap[g]? = some (.cells c T' z)) (hT : T ≠ T') : False := by
  unfold Bk at b
  rw [b] at h
  simp at h
  exact hT h.2.1
theorem Pq.prog {w : World} {t : Nat} {L1 L2 L1' : List Sl} {F1 F2 F1' : Int × Int → Int} {n : Nat} {wx wy : World} (h : Pq w t L1 F1 L2 F2 n wx) (X : TM w t (t + 1 + 1) L1' F1' wy) (T : Mtc w t (t + 1 + 1) wx wy) : Pq w t L1' F1' L2 F2 n wy := by
  obtain ⟨⟨v1, b1⟩, ⟨v2, b2⟩, ⟨v3, b3⟩, v4, b4⟩ := h.heads
  obtain ⟨ra, rc, r⟩ := h.rd.rt
  obtain ⟨a, cap, M, m, q⟩ := h.rd.rm
  obtain ⟨S, k, hS⟩ := T
  refine ⟨X, ⟨ra, rc, r.kept k (fun mm => ?_) (fun g e mm => ?_)⟩, a, cap, M, m.kept k (fun mm => ?_) (fun g e mm => ?_), q⟩
  · rcases (hS _ mm).2 with e | e | e
    · omega
    · omega
    · exact e _ _ _ b2
  · rcases r.own.2 with ⟨e2, _⟩ | ⟨g2, c, cur, e2, hb, hh, _⟩
    · rw [e] at e2; cases e2
    · rw [e] at e2
      cases e2
      rcases (hS g mm).2 with e3 | e3 | e3
      · subst e3; exact b1.clash hh (by decide)
      · subst e3; exact b3.clash hh (by decide)
      · exact e3 _ _ _ hh
  · rcases (hS _ mm).2 with e | e | e
    · omega
    · omega
    · exact e _ _ _ b4
  · obtain ⟨_, c, hc⟩ := m.own.block e
    rcases (hS g mm).2 with e3 | e3 | e3
    · subst e3; exact b1.clash hc (by decide)
    · subst e3; exact b3.clash hc (by decide)
    · exact e3 _ _ _ hc
theorem Pq.doc {w : World} {t : Nat} {L1 L2 L2' : List Sl} {F1 F2 F2' : Int × Int → Int} {n n' : Nat} {wx wy : World} (h : Pq w t L1 F1 L2 F2 n wx) (X : RD (t + 1) (t + 1) (t + 1 + 1 + 1) L2' F2' n' wy) (T : Dmc (t + 1) (t + 1) (t + 1 + 1 + 1) wx wy) : Pq w t L1 F1 L2' F2' n' wy := by
  obtain ⟨⟨v1, b1⟩, ⟨v2, b2⟩, ⟨v3, b3⟩, v4, b4⟩ := h.heads
  have hnew := h.tm.tab.new
  obtain ⟨S, k, hS⟩ := T
  have hw : ∀ i ∈ S, w.heap.size ≤ i := fun i mi => by
    rcases hS i mi with e | e | ⟨e, _⟩ <;> omega
  have ht : t ∉ S := fun mm => by
    rcases hS _ mm with e | e | ⟨_, c, e⟩
    · omega
    · omega
    · exact b1.clash e (by decide)
  have hy : t + 1 + 1 ∉ S := fun mm => by
    rcases hS _ mm with e | e | ⟨_, c, e⟩
    · omega
    · omega
    · exact b3.clash e (by decide)
  have hno : ∀ g, (∀ c T z, wx.heap[g]? ≠ some (.cells c T z)) → g ∉ S := fun g hg mm => by
    rcases hS g mm with e | e | ⟨_, c, e⟩
    · subst e; exact hg _ _ _ b2
    · subst e; exact hg _ _ _ b4
    · exact hg _ _ _ e
  obtain ⟨m, hp, hm⟩ := h.tm.tab.tab
  obtain ⟨m', hb, ho, hm'⟩ := h.tm.ma.mp
  refine ⟨⟨⟨h.tm.tab.kp.trans k (by simp) (fun i mi => .inr (hw i mi)), ⟨m, hp.kept k ht (fun b e => hno b (by subst e; exact hp.noc)), hm⟩, h.tm.tab.new, h.tm.tab.fo, h.tm.tab.cp⟩, h.tm.ma.kept k hw hy (fun b bb => hno b ?_), fun i c1 c2 => h.tm.ap i (c1.back k h.tm.tab.lt ht) (c2.back k h.tm.ma.lt hy)⟩, X⟩
  unfold Bk at bb hb
  rw [hb] at bb
  have e : m' = some b := by simpa using bb
  subst e
  exact ho.noc
/-- A box of another type. -/
theorem Pq.keepP {w : World} {t : Nat} {L1 L2 : List Sl} {F1 F2 : Int × Int → Int} {n : Nat} {wx wy : World} (h : Pq w t L1 F1 L2 F2 n wx) (T : Mtc w t (t + 1 + 1) wx wy) {g : Nat} {U : TypeId} {vs : List Value} (b : Bk wx g U vs) (h1 : U ≠ 27 := by decide) (h2 : U ≠ 33 := by decide) : Bk wy g U vs := T.bk b (h.tm.heads b h1 h2).1 (h.tm.heads b h1 h2).2
theorem Pq.keepD {w : World} {t : Nat} {L1 L2 : List Sl} {F1 F2 : Int × Int → Int} {n : Nat} {wx wy : World} (h : Pq w t L1 F1 L2 F2 n wx) (T : Dmc (t + 1) (t + 1) (t + 1 + 1 + 1) wx wy) {g : Nat} {U : TypeId} {vs : List Value} (b : Bk wx g U vs) (h1 : U ≠ 30 := by decide) (h2 : U ≠ 36 := by decide) (h3 : U ≠ 92 := by decide) : Bk wy g U vs := by
  obtain ⟨_, ⟨v2, b2⟩, _, v4, b4⟩ := h.heads
  exact T.bk b (b.apart b2 h1) (b.apart b4 h2) h3
/-- A box beside them was written. -/
theorem Pq.beside {w : World} {t g : Nat} {L1 L2 : List Sl} {F1 F2 : Int × Int → Int} {n : Nat} {wx wy : World} {U : TypeId} {vs : List Value} (h : Pq w t L1 F1 L2 F2 n wx) (k : Kp [g] wx wy) (b : Bk wx g U vs) (hn : w.heap.size ≤ g) (h1 : U ≠ 27 := by decide) (h2 : U ≠ 33 := by decide) (h3 : U ≠ 30 := by decide) (h4 : U ≠ 36 := by decide) (h5 : U ≠ 78 := by decide) (h6 : U ≠ 92 := by decide) : Pq w t L1 F1 L2 F2 n wy := by
  obtain ⟨⟨v1, b1⟩, ⟨v2, b2⟩, ⟨v3, b3⟩, v4, b4⟩ := h.heads
  exact ⟨h.tm.beside k b (b.apart b1 h1) (b.apart b3 h2) hn, h.rd.beside k b (b.apart b2 h3) (b.apart b4 h4) h5 h6⟩
theorem RT.fresh {w : World} {t : Nat} (h : Bk w t 30 [.slice none 0 0]) : RT t w t none 0 [] := ⟨h, ⟨rfl, .inl ⟨rfl, rfl⟩⟩, Nat.le_refl _, by simp, by simp⟩
/-- The start: four objects, one behind the other. -/
theorem pq_start {w W : World} (K : Kp [] w W) {t : Nat} (ht : W.heap.size = t) : Pq w t [] (fun _ => 0) [] (fun _ => 0) 0 ((((W.alloc (.cells #[.map none] 27)).alloc (.cells #[.slice none 0 0] 30)).alloc (.cells #[.map none] 33)).alloc (.cells #[.slice none 0 0] 36)) := by
  subst ht
  have h1 := TabIn.of (T := []) (w := w) K rfl ((Kp.refl [] _).alloc (.cells #[.slice none 0 0] 30))
  have h2 := TM.start (y := W.heap.size + 1 + 1) h1 (by simp) ((Kp.refl [] _).alloc (.cells #[.slice none 0 0] 36))
  have b2 := ((Bk.next (p := W.heap.size + 1) (W.alloc (.cells #[.map none] 27)) 30 [.slice none 0 0] (by simp)).alloc (.cells #[.map none] 33)).alloc (.cells #[.slice none 0 0] 36)
  have b4 := Bk.next (p := W.heap.size + 1 + 1 + 1) (((W.alloc (.cells #[.map none] 27)).alloc (.cells #[.slice none 0 0] 30)).alloc (.cells #[.map none] 33)) 36 [.slice none 0 0] (by simp)
  exact ⟨h2, ⟨none, 0, RT.fresh b2⟩, none, 0, [], ⟨b4, .nil _ _, by omega, by simp⟩, fun b z => rfl, by simp⟩
/-- .. and three boxes: two places, a range. -/
structure Pz (w : World) (t : Nat) (L1 : List Sl) (F1 : Int × Int → Int) (L2 : List Sl) (F2 : Int × Int → Int) (n A : Nat) (an bn rb rz : Int) (wx : World) : Prop where
  pq : Pq w t L1 F1 L2 F2 n wx
  ba : Bk wx A 40 [.int .i64 1, .int .i64 an]
  bb : Bk wx (A + 1) 40 [.int .i64 1, .int .i64 bn]
  br : Bk wx (A + 1 + 1) 45 [.int .i64 rb, .int .i64 rz]
theorem Pz.grew {w : World} {t : Nat} {L1 L2 : List Sl} {F1 F2 : Int × Int → Int} {n A : Nat} {an bn rb rz : Int} {wx wy : World} (h : Pz w t L1 F1 L2 F2 n A an bn rb rz wx) (k : Kp [] wx wy) : Pz w t L1 F1 L2 F2 n A an bn rb rz wy := ⟨h.pq.grew k, h.ba.kept k (by simp), h.bb.kept k (by simp), h.br.kept k (by simp)⟩
theorem Pz.prog {w : World} {t : Nat} {L1 L2 L1' : List Sl} {F1 F2 F1' : Int × Int → Int} {n A : Nat} {an bn rb rz : Int} {wx wy : World} (h : Pz w t L1 F1 L2 F2 n A an bn rb rz wx) (X : TM w t (t + 1 + 1) L1' F1' wy) (T : Mtc w t (t + 1 + 1) wx wy) : Pz w t L1' F1' L2 F2 n A an bn rb rz wy := ⟨h.pq.prog X T, h.pq.keepP T h.ba, h.pq.keepP T h.bb, h.pq.keepP T h.br⟩
theorem Pz.doc {w : World} {t : Nat} {L1 L2 L2' : List Sl} {F1 F2 F2' : Int × Int → Int} {n n' A : Nat} {an bn rb rz : Int} {wx wy : World} (h : Pz w t L1 F1 L2 F2 n A an bn rb rz wx) (X : RD (t + 1) (t + 1) (t + 1 + 1 + 1) L2' F2' n' wy) (T : Dmc (t + 1) (t + 1) (t + 1 + 1 + 1) wx wy) : Pz w t L1 F1 L2' F2' n' A an bn rb rz wy := ⟨h.pq.doc X T, h.pq.keepD T h.ba, h.pq.keepD T h.bb, h.pq.keepD T h.br⟩
theorem Pz.cells {w : World} {t : Nat} {L1 L2 : List Sl} {F1 F2 : Int × Int → Int} {n A : Nat} {an bn rb rz : Int} {wx : World} (h : Pz w t L1 F1 L2 F2 n A an bn rb rz wx) : wx.cell? ⟨A, 0, none⟩ = some (.int .i64 1) ∧ wx.cell? ⟨A, 1, none⟩ = some (.int .i64 an) ∧ wx.cell? ⟨A + 1, 0, none⟩ = some (.int .i64 1) ∧ wx.cell? ⟨A + 1, 1, none⟩ = some (.int .i64 bn) ∧ wx.cell? ⟨A + 1 + 1, 0, none⟩ = some (.int .i64 rb) ∧ wx.cell? ⟨A + 1 + 1, 1, none⟩ = some (.int .i64 rz) := ⟨h.ba.cell rfl, h.ba.cell rfl, h.bb.cell rfl, h.bb.cell rfl, h.br.cell rfl, h.br.cell rfl⟩
/-- A capability's box beside them was written. -/
theorem Pz.beside {w : World} {t g : Nat} {L1 L2 : List Sl} {F1 F2 : Int × Int → Int} {n A : Nat} {an bn rb rz : Int} {wx wy : World} {vs : List Value} (h : Pz w t L1 F1 L2 F2 n A an bn rb rz wx) (k : Kp [g] wx wy) (b : Bk wx g 38 vs) (hn : w.heap.size ≤ g) : Pz w t L1 F1 L2 F2 n A an bn rb rz wy :=
  ⟨h.pq.beside k b hn, h.ba.kept k (by simpa using h.ba.apart b (by decide)), h.bb.kept k (by simpa using h.bb.apart b (by decide)), h.br.kept k (by simpa using h.br.apart b (by decide))⟩
theorem mkR_bd {L : List Sl} {F : Int × Int → Int} {n s n' s' k z : Int} {R : MkR} (h : mkR L F n s n' s' k z = R) (hB : FB F) (hc : ∀ y ∈ L, CapNs y.k y.o y.z) : FB R.F ∧ R.L.length ≤ L.length + 1 := by
  unfold mkR at h
  cases hl : lkS L n s with
  | none => rw [hl] at h; subst h; exact ⟨hB, by show L.length ≤ _; omega⟩
  | some y =>
    rw [hl] at h
    simp only at h
    have hy := hc y (by obtain ⟨_, e, _⟩ := lk_at hl; exact e)
    have hz := hy.z64
    have hGB := F1_FB (L := L) hB y.o y.z
    have hub := hGB (y.o, y.z)
    split at h
    · subst h; exact ⟨hB, by show L.length ≤ _; omega⟩
    · split at h
      · subst h; exact ⟨hB, by show L.length ≤ _; omega⟩
      · split at h
        · subst h; exact ⟨hB, by show L.length ≤ _; omega⟩
        · rename_i hu
          split at h
          · subst h; exact ⟨hGB, by show L.length ≤ _; omega⟩
          · rename_i hm
            subst h
            have hu0 : unC k z = 0 := by simpa using hu
            have hkb : kindB k = false := by
              cases h : kindB k with
              | false => rfl
              | true => rw [un_bad h] at hu0; cases hu0
            have hsb : sizeB k z = false := by
              cases h : sizeB k z with
              | false => rfl
              | true => rw [un_size hkb h] at hu0; cases hu0
            have hn1 : 1 ≤ unN k z := by
              unfold unN
              rcases size_fine hsb with ⟨e, h1, h2⟩ | ⟨e, h1⟩
              · rw [if_pos e]; omega
              · rw [if_neg e]; omega
            refine ⟨hGB.up _ (by omega) (by omega), ?_⟩
            show (putR L n' s' k _ z 0 7 n s).length ≤ _
            unfold putR
            split
            · rw [(ins_perm L _).length_eq, List.length_append]; simp
            · omega
theorem capR_form (R : MkR) (k z : Int) : ∃ c0 c1 c2 c3 c4 : Int, capR R k z = .agg #[.int .i64 c0, .int .i64 c1, .int .i64 c2, .int .i64 c3, .int .i64 c4] := by
  unfold capR
  split
  · exact ⟨_, _, _, _, _, rfl⟩
  · exact ⟨_, _, _, _, _, rfl⟩
end Go.Proofs.Ythjhpcbhkcmghaa
