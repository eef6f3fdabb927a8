/- The program's table and marks, beside one another. -/
import Derived.Test.YthjhpcbhkcmghaaKMark3
import Derived.Test.YthjhpcbhkcmghaaKTabIn
namespace Go.Proofs.Ythjhpcbhkcmghaa
open Go.RowKit
set_option linter.unusedVariables false
/-- The table at t and the marks at y, since w; their maps are not one another. -/
structure TM (w : World) (t y : Nat) (L : List Sl) (F : Int × Int → Int) (wr : World) : Prop where
  tab : TabIn w t L wr
  ma : MkIn w y F wr
  ap : ∀ i, Bk wr t 27 [.map (some i)] → ¬ Bk wr y 33 [.map (some i)]
theorem TM.ne {w wr : World} {t y : Nat} {L : List Sl} {F : Int × Int → Int} (h : TM w t y L F wr) : t ≠ y := by
  obtain ⟨m, hp, _⟩ := h.tab.tab
  obtain ⟨m', hb, _⟩ := h.ma.mp
  exact hp.head.apart hb (by decide)
theorem Bk.back {w w' : World} {g : Nat} {T : TypeId} {vs : List Value} (b : Bk w' g T vs) {S : List Nat} (k : Kp S w w') (hg : g < w.heap.size) (hn : g ∉ S) : Bk w g T vs := (k.block g hg hn).symm.trans b
theorem TM.grew {w wr w' : World} {t y : Nat} {L : List Sl} {F : Int × Int → Int} (h : TM w t y L F wr) (k : Kp [] wr w') : TM w t y L F w' :=
  ⟨h.tab.grew k, h.ma.grew k, fun i b1 b2 => h.ap i (b1.back k h.tab.lt (by simp)) (b2.back k h.ma.lt (by simp))⟩
/-- A change of the table. -/
theorem TM.turnT {w wr w' : World} {t y : Nat} {L L' : List Sl} {F : Int × Int → Int} (h : TM w t y L F wr) (T : Tch w t wr w') (X : TabIn w t L' w') : TM w t y L' F w' := by
  have hne := h.ne
  obtain ⟨m, hp, hm⟩ := h.tab.tab
  obtain ⟨m', hb, ho, hm'⟩ := h.ma.mp
  obtain ⟨S, k, hS, hx⟩ := T
  obtain ⟨x1, x2⟩ := hx h.tab.lt
  have hy : y ∉ S := fun mm => by
    rcases (hS y mm).2 with e | e
    · exact hne e.symm
    · exact e _ _ _ hb
  have hlt : ∀ b, Bk wr y 33 [.map (some b)] → b < wr.heap.size ∧ b ≠ t := fun b bb => by
    unfold Bk at bb hb
    rw [hb] at bb
    have e : m' = some b := by simpa using bb
    subst e
    refine ⟨ho.lt, fun q => ?_⟩
    subst q
    exact ho.noc _ _ _ hp.head
  refine ⟨X, h.ma.kept k (fun i mi => (hS i mi).1) hy (fun b bb mm => ?_), fun i b1 b2 => ?_⟩
  · rcases x1 b mm with e | e | e
    · exact (hlt b bb).2 e
    · exact h.ap b e bb
    · have := (hlt b bb).1
      omega
  · have bb := b2.back k h.ma.lt hy
    rcases x2 i b1 with e | e
    · exact h.ap i e bb
    · have := (hlt i bb).1
      omega
/-- A change of the marks. -/
theorem TM.turnM {w wr w' : World} {t y : Nat} {L : List Sl} {F F' : Int × Int → Int} (h : TM w t y L F wr) (T : Mch w y wr w') (X : MkIn w y F' w') : TM w t y L F' w' := by
  have hne := h.ne
  obtain ⟨m, hp, hm⟩ := h.tab.tab
  obtain ⟨m', hb, ho, hm'⟩ := h.ma.mp
  obtain ⟨S, k, hS, hx⟩ := T
  obtain ⟨x1, x2⟩ := hx h.ma.lt
  have ht : t ∉ S := fun mm => by
    rcases (hS t mm).2 with e | e
    · exact hne e
    · exact e _ _ _ hp.head
  have hlt : ∀ b, m = some b → b < wr.heap.size ∧ b ≠ y := fun b e => by
    refine ⟨hp.lt b e, fun q => ?_⟩
    subst e q
    exact hp.noc _ _ _ hb
  refine ⟨⟨h.tab.kp.trans k (by simp) (fun i mi => .inr (hS i mi).1), ⟨m, hp.kept k ht (fun b e mm => ?_), hm⟩, h.tab.new, h.tab.fo, h.tab.cp⟩, X, fun i b1 b2 => ?_⟩
  · rcases x1 b mm with q | q | q
    · exact (hlt b e).2 q
    · refine h.ap b ?_ q
      rw [← e]; exact hp.head
    · have := (hlt b e).1
      omega
  · have bb := b1.back k h.tab.lt ht
    rcases x2 i b2 with q | q
    · exact h.ap i bb q
    · have e : m = some i := by
        have h1 := hp.head
        unfold Bk at bb h1
        rw [h1] at bb
        simpa using bb
      have := (hlt i e).1
      omega
theorem TM.beside {w wr w' : World} {t y g : Nat} {L : List Sl} {F : Int × Int → Int} {T : TypeId} {vs : List Value} (h : TM w t y L F wr) (k : Kp [g] wr w') (b : Bk wr g T vs) (hg : g ≠ t) (hg' : g ≠ y) (hn : w.heap.size ≤ g) : TM w t y L F w' := by
  obtain ⟨m', hb, ho, hm'⟩ := h.ma.mp
  refine ⟨h.tab.beside k b hg hn, h.ma.kept k (by simpa using hn) (by simpa using hg'.symm) (fun i bb mm => ?_), fun i b1 b2 => h.ap i (b1.back k h.tab.lt (by simpa using hg.symm)) (b2.back k h.ma.lt (by simpa using hg'.symm))⟩
  unfold Bk at bb hb
  rw [hb] at bb
  have e : m' = some i := by simpa using bb
  subst e
  have e2 : i = g := by simpa using mm
  subst e2
  exact ho.noc _ _ _ b
/-- Nothing but the table's and the marks' own blocks was touched. -/
def Mtc (w : World) (t y : Nat) (wr w' : World) : Prop := ∃ S, Kp S wr w' ∧ ∀ i ∈ S, w.heap.size ≤ i ∧ (i = t ∨ i = y ∨ ∀ c T z, wr.heap[i]? ≠ some (.cells c T z))
theorem Mtc.of {w wr w' : World} {t y : Nat} (k : Kp [] wr w') : Mtc w t y wr w' := ⟨[], k, by simp⟩
theorem Mtc.ofT {w wr w' : World} {t y : Nat} (T : Tch w t wr w') : Mtc w t y wr w' := by
  obtain ⟨S, k, hS, _⟩ := T
  exact ⟨S, k, fun i m => ⟨(hS i m).1, (hS i m).2.elim .inl (fun q => .inr (.inr q))⟩⟩
theorem Mtc.ofM {w wr w' : World} {t y : Nat} (T : Mch w y wr w') : Mtc w t y wr w' := by
  obtain ⟨S, k, hS, _⟩ := T
  exact ⟨S, k, fun i m => ⟨(hS i m).1, (hS i m).2.elim (fun q => .inr (.inl q)) (fun q => .inr (.inr q))⟩⟩
theorem Mtc.size {w wr w' : World} {t y : Nat} (h : Mtc w t y wr w') : wr.heap.size ≤ w'.heap.size := by
  obtain ⟨S, k, _⟩ := h
  exact k.size
theorem Mtc.kp {w wr w' : World} {t y : Nat} (h : Mtc w t y wr w') (k : Kp [] w wr) : Kp [] w w' := by
  obtain ⟨S, k', hS⟩ := h
  exact k.trans k' (by simp) (fun i m => .inr (hS i m).1)
theorem Mtc.bk {w wr w' : World} {t y g : Nat} {T : TypeId} {vs : List Value} (h : Mtc w t y wr w') (b : Bk wr g T vs) (h1 : g ≠ t) (h2 : g ≠ y) : Bk w' g T vs := by
  obtain ⟨S, k, hS⟩ := h
  refine b.kept k (fun m => ?_)
  rcases (hS g m).2 with e | e | e
  · exact h1 e
  · exact h2 e
  · exact e _ _ _ b
theorem Mtc.trans {w a b c : World} {t y : Nat} (h : Mtc w t y a b) (k : Mtc w t y b c) : Mtc w t y a c := by
  obtain ⟨S, k1, h1⟩ := h
  obtain ⟨S', k2, h2⟩ := k
  refine ⟨S ++ S', k1.trans k2 (fun i m => List.mem_append_left _ m) (fun i m => .inl (List.mem_append_right _ m)), fun i m => ?_⟩
  by_cases hi : i ∈ S
  · exact h1 i hi
  · have m' := (List.mem_append.1 m).resolve_left hi
    refine ⟨(h2 i m').1, ?_⟩
    rcases (h2 i m').2 with q | q | q
    · exact .inl q
    · exact .inr (.inl q)
    · exact .inr (.inr fun c T z e => q c T z ((k1.block i (Array.getElem?_eq_some_iff.1 e).1 hi).trans e))
theorem Mtc.pre {w wr W w' : World} {t y : Nat} (k : Kp [] wr W) (T : Mtc w t y W w') : Mtc w t y wr w' := (Mtc.of k).trans T
/-- The table, its boxes, marks that are made next to it. -/
theorem TM.start {w W wr : World} {t y : Nat} {L : List Sl} (h : TabIn w t L W) (hy : y = W.heap.size) (k : Kp [] (W.alloc (.cells #[.map none] 33)) wr) : TM w t y L (fun _ => 0) wr := by
  subst hy
  have k1 : Kp [] W wr := ((Kp.refl [] W).alloc _).then k
  refine ⟨h.grew k1, MkIn.of h.kp rfl k, fun i b1 b2 => ?_⟩
  have b3 := (Bk.new W 33 [.map none]).kept k (by simp)
  unfold Bk at b2 b3
  rw [b3] at b2
  simp at b2
/-- The counts of marks are not below nothing, nor beyond the memory. -/
def FB (F : Int × Int → Int) : Prop := ∀ q, 0 ≤ F q ∧ F q ≤ 64
theorem FB.zero : FB (fun _ => 0) := fun q => ⟨Int.le_refl 0, by show (0:Int) ≤ 64; decide⟩
theorem FB.up {F : Int × Int → Int} (h : FB F) (q : Int × Int) {v : Int} (h0 : 0 ≤ v) (h1 : v ≤ 64) : FB (upF F q v) := fun q' => by
  unfold upF
  split
  · exact ⟨h0, h1⟩
  · exact h q'
end Go.Proofs.Ythjhpcbhkcmghaa
