/- What a walk carries along of an endpoint: the program's since a world, the blocks that are its own; boxes beside it; the document's. -/
import Derived.Test.YthnpkojfkhndoaaKEp1
import Derived.Test.YthnpkojfkhndoaaKEp2
import Derived.Test.YthnpkojfkhndoaaKEp3
import Derived.Test.YthnpkojfkhndoaaKEp4
import Derived.Test.YthnpkojfkhndoaaKEp5
import Derived.Test.YthnpkojfkhndoaaKEpIn
namespace Go.Proofs.Ythnpkojfkhndoaa
open Go.RowKit
set_option linter.unusedVariables false
abbrev Box := Nat × TypeId × List Value
/-- Boxes that are there, none of them among these blocks. -/
def BoxOk (F : List Nat) (w : World) (B : List Box) : Prop := ∀ b ∈ B, Bk w b.1 b.2.1 b.2.2 ∧ b.1 ∉ F
theorem BoxOk.kept {F F' X : List Nat} {w w' : World} {B : List Box} (h : BoxOk F w B) (k : Kp X w w') (hX : ∀ g ∈ X, g ∈ F) (hF : ∀ g ∈ F', g ∈ F ∨ w.heap.size ≤ g) : BoxOk F' w' B := fun b m => by
  obtain ⟨h1, h2⟩ := h b m
  refine ⟨h1.kept k (fun m' => h2 (hX _ m')), fun m' => ?_⟩
  rcases hF _ m' with e | e
  · exact h2 e
  · have := h1.lt; omega
/-- The program's endpoint, with boxes. -/
def Tp (w : World) (t : Nat) (S : List Ms) (R : List Rc) (B : List Box) (wx : World) : Prop := ∃ F, EIn w t S R F wx ∧ BoxOk (t :: F) wx B
theorem Tp.grew {w wx wy : World} {t : Nat} {S : List Ms} {R : List Rc} {B : List Box} (h : Tp w t S R B wx) (k : Kp [] wx wy) : Tp w t S R B wy := by
  obtain ⟨F, h1, h2⟩ := h
  exact ⟨F, h1.grew k, h2.kept k (by simp) (fun g m => .inl m)⟩
theorem Tp.kp {w wx : World} {t : Nat} {S : List Ms} {R : List Rc} {B : List Box} (h : Tp w t S R B wx) : Kp [] w wx := by
  obtain ⟨F, h1, _⟩ := h
  exact h1.kp
theorem Tp.sub {w wx : World} {t : Nat} {S : List Ms} {R : List Rc} {B B' : List Box} (h : Tp w t S R B wx) (hB : ∀ b ∈ B', b ∈ B) : Tp w t S R B' wx := by
  obtain ⟨F, h1, h2⟩ := h
  exact ⟨F, h1, fun b m => h2 b (hB b m)⟩
theorem Tp.bare {w wx : World} {t : Nat} {S : List Ms} {R : List Rc} {B : List Box} (h : Tp w t S R B wx) : Tp w t S R [] wx := h.sub (by simp)
theorem Tp.box {w wx : World} {t : Nat} {S : List Ms} {R : List Rc} {B : List Box} (h : Tp w t S R B wx) (T : TypeId) (vs : List Value) : Tp w t S R ((wx.heap.size, T, vs) :: B) (wx.alloc (.cells vs.toArray T)) := by
  obtain ⟨F, h1, h2⟩ := h.grew ((Kp.refl [] wx).alloc (.cells vs.toArray T))
  obtain ⟨G, g1, g2⟩ := h
  refine ⟨G, g1.grew ((Kp.refl [] wx).alloc _), fun b m => ?_⟩
  rcases List.mem_cons.1 m with rfl | m
  · refine ⟨Bk.new wx T vs, fun m' => ?_⟩
    rcases List.mem_cons.1 m' with e | e
    · have := g1.lt; simp at e; omega
    · have := g1.old _ e; simp at this
  · exact g2.kept ((Kp.refl [] wx).alloc _) (by simp) (fun g m => .inl m) b m
theorem Tp.bk {w wx : World} {t : Nat} {S : List Ms} {R : List Rc} {B : List Box} (h : Tp w t S R B wx) {g : Nat} {T : TypeId} {vs : List Value} (m : (g, T, vs) ∈ B) : Bk wx g T vs := by
  obtain ⟨F, _, h2⟩ := h
  exact (h2 _ m).1
/-- A box beside it is written. -/
theorem Tp.put {w wx wy : World} {t : Nat} {S : List Ms} {R : List Rc} {B : List Box} {g : Nat} {T : TypeId} {vs vs' : List Value} (h : Tp w t S R ((g, T, vs) :: B) wx) (hn : w.heap.size ≤ g) (hB : ∀ b ∈ B, b.1 ≠ g) (k : Kp [g] wx wy) (b : Bk wy g T vs') : Tp w t S R ((g, T, vs') :: B) wy := by
  obtain ⟨F, h1, h2⟩ := h
  have h0 := h2 _ (List.mem_cons_self ..)
  refine ⟨F, h1.beside k (fun e => h0.2 (by rw [← e]; exact List.mem_cons_self ..)) (fun m => h0.2 (List.mem_cons_of_mem _ m)) hn, fun c m => ?_⟩
  rcases List.mem_cons.1 m with rfl | m
  · exact ⟨b, h0.2⟩
  · obtain ⟨c1, c2⟩ := h2 _ (List.mem_cons_of_mem _ m)
    exact ⟨c1.kept k (by have := hB c m; simpa using this), c2⟩
/-- A call of the program's. -/
theorem Tp.prog {w wx : World} {t : Nat} {S S' : List Ms} {R R' : List Rc} {B : List Box} {f : Nat} {args : Array Value} {v : Value} (h : Tp w t S R B wx) (c : ∀ F, EIn w t S R F wx → Calls Try.prog f args wx (EC w t S' R' F wx v)) : Calls Try.prog f args wx fun e w' => e = .returned v ∧ Tp w t S' R' B w' := by
  obtain ⟨F, h1, h2⟩ := h
  refine (c F h1).mono fun e w' ⟨he, F', x1, x2, x3⟩ => ⟨he, F', x1, h2.kept x2 (fun g m => m) (fun g m => ?_)⟩
  rcases List.mem_cons.1 m with e | m
  · exact .inl (by rw [e]; exact List.mem_cons_self ..)
  · exact (x3 g m).imp (List.mem_cons_of_mem _) id
theorem Tp.ask {w wx : World} {t : Nat} {S : List Ms} {R : List Rc} {B : List Box} {f : Nat} {args : Array Value} {Q : Ending → World → Prop} (h : Tp w t S R B wx) (c : ∀ F, EIn w t S R F wx → Calls Try.prog f args wx Q) : Calls Try.prog f args wx Q := by
  obtain ⟨F, h1, _⟩ := h
  exact c F h1
/-- A row's block is neither one of these nor a box. -/
def Off (F : List Nat) (B : List Box) (a : Option Addr) : Prop := ∀ g, rb a = some g → g ∉ F ∧ ∀ b ∈ B, b.1 ≠ g
/-- The program's at t, the document's at the next block, boxes. -/
def Te (w : World) (t : Nat) (S : List Ms) (R : List Rc) (S2 : List Ms) (R2 : List Rc) (B : List Box) (wx : World) : Prop :=
  ∃ F, EIn w t S R F wx ∧ BoxOk (t :: (t + 1) :: F) wx B ∧ (t + 1) ∉ F ∧ ∃ a ca b cb, RE (t + 1) wx (t + 1) a ca S2 b cb R2 ∧ Off F B a ∧ Off F B b
theorem Te.grew {w wx wy : World} {t : Nat} {S S2 : List Ms} {R R2 : List Rc} {B : List Box} (h : Te w t S R S2 R2 B wx) (k : Kp [] wx wy) : Te w t S R S2 R2 B wy := by
  obtain ⟨F, h1, h2, h3, a, ca, b, cb, hr, h4, h5⟩ := h
  exact ⟨F, h1.grew k, h2.kept k (by simp) (fun g m => .inl m), h3, a, ca, b, cb, hr.grew k, h4, h5⟩
theorem Te.kp {w wx : World} {t : Nat} {S S2 : List Ms} {R R2 : List Rc} {B : List Box} (h : Te w t S R S2 R2 B wx) : Kp [] w wx := by
  obtain ⟨F, h1, _⟩ := h
  exact h1.kp
theorem Te.one {w wx : World} {t : Nat} {S S2 : List Ms} {R R2 : List Rc} {B : List Box} (h : Te w t S R S2 R2 B wx) : S = [] ∨ R = [] := by
  obtain ⟨F, h1, _⟩ := h
  exact h1.one
theorem Te.dd {w wx : World} {t : Nat} {S S2 : List Ms} {R R2 : List Rc} {B : List Box} (h : Te w t S R S2 R2 B wx) : ∃ a ca b cb, RE (t + 1) wx (t + 1) a ca S2 b cb R2 := by
  obtain ⟨F, h1, h2, h3, a, ca, b, cb, hr, h4, h5⟩ := h
  exact ⟨a, ca, b, cb, hr⟩
theorem Te.lt {w wx : World} {t : Nat} {S S2 : List Ms} {R R2 : List Rc} {B : List Box} (h : Te w t S R S2 R2 B wx) : t + 1 < wx.heap.size := by
  obtain ⟨a, ca, b, cb, hr⟩ := h.dd
  exact hr.lt
theorem Te.new {w wx : World} {t : Nat} {S S2 : List Ms} {R R2 : List Rc} {B : List Box} (h : Te w t S R S2 R2 B wx) : w.heap.size ≤ t := by
  obtain ⟨F, h1, _⟩ := h
  exact h1.new.1
theorem Te.sub {w wx : World} {t : Nat} {S S2 : List Ms} {R R2 : List Rc} {B B' : List Box} (h : Te w t S R S2 R2 B wx) (hB : ∀ b ∈ B', b ∈ B) : Te w t S R S2 R2 B' wx := by
  obtain ⟨F, h1, h2, h3, a, ca, b, cb, hr, h4, h5⟩ := h
  exact ⟨F, h1, fun c m => h2 c (hB c m), h3, a, ca, b, cb, hr, fun g e => ⟨(h4 g e).1, fun c m => (h4 g e).2 c (hB c m)⟩, fun g e => ⟨(h5 g e).1, fun c m => (h5 g e).2 c (hB c m)⟩⟩
theorem Te.bare {w wx : World} {t : Nat} {S S2 : List Ms} {R R2 : List Rc} {B : List Box} (h : Te w t S R S2 R2 B wx) : Te w t S R S2 R2 [] wx := h.sub (by simp)
theorem Te.bk {w wx : World} {t : Nat} {S S2 : List Ms} {R R2 : List Rc} {B : List Box} (h : Te w t S R S2 R2 B wx) {g : Nat} {T : TypeId} {vs : List Value} (m : (g, T, vs) ∈ B) : Bk wx g T vs := by
  obtain ⟨F, _, h2, _⟩ := h
  exact (h2 _ m).1
theorem Off.box {F : List Nat} {B : List Box} {a : Option Addr} (h : Off F B a) {n : Nat} (T : TypeId) (vs : List Value) (hn : ∀ g, rb a = some g → g < n) : Off F ((n, T, vs) :: B) a := fun g e => ⟨(h g e).1, fun b m => by
  rcases List.mem_cons.1 m with rfl | m
  · have := hn g e; simp; omega
  · exact (h g e).2 b m⟩
theorem Te.box {w wx : World} {t : Nat} {S S2 : List Ms} {R R2 : List Rc} {B : List Box} (h : Te w t S R S2 R2 B wx) (T : TypeId) (vs : List Value) : Te w t S R S2 R2 ((wx.heap.size, T, vs) :: B) (wx.alloc (.cells vs.toArray T)) := by
  obtain ⟨F, h1, h2, h3, a, ca, b, cb, hr, h4, h5⟩ := h
  have k := (Kp.refl [] wx).alloc (.cells vs.toArray T)
  refine ⟨F, h1.grew k, fun c m => ?_, h3, a, ca, b, cb, hr.grew k, h4.box T vs (fun g e => hr.s.old ((rb_is _ _ _).trans e)), h5.box T vs (fun g e => hr.r.old ((rb_is _ _ _).trans e))⟩
  rcases List.mem_cons.1 m with rfl | m
  · refine ⟨Bk.new wx T vs, fun m' => ?_⟩
    rcases List.mem_cons.1 m' with e | m'
    · have := h1.lt; simp at e; omega
    · rcases List.mem_cons.1 m' with e | e
      · have := hr.lt; simp at e; omega
      · have := h1.old _ e; simp at this
  · exact h2.kept k (by simp) (fun g m => .inl m) c m
theorem Te.prog {w wx : World} {t : Nat} {S S' S2 : List Ms} {R R' R2 : List Rc} {B : List Box} {f : Nat} {args : Array Value} {v : Value} (h : Te w t S R S2 R2 B wx) (c : ∀ F, EIn w t S R F wx → Calls Try.prog f args wx (EC w t S' R' F wx v)) : Calls Try.prog f args wx fun e w' => e = .returned v ∧ Te w t S' R' S2 R2 B w' := by
  obtain ⟨F, h1, h2, h3, a, ca, b, cb, hr, h4, h5⟩ := h
  refine (c F h1).mono fun e w' ⟨he, F', x1, x2, x3⟩ => ?_
  have hF : ∀ g, g < wx.heap.size → g ∉ F → g ∉ F' := fun g hg hn m => by
    rcases x3 g m with e | e
    · exact hn e
    · omega
  have ht : ∀ g, t + 1 ≤ g → g ∉ F → g ∉ t :: F := fun g hg hn m => by
    rcases List.mem_cons.1 m with e | e
    · omega
    · exact hn e
  have hof : ∀ q, Off F B q → (∀ g, rb q = some g → g < wx.heap.size) → Off F' B q := fun q hq ho g e => ⟨hF g (ho g e) (hq g e).1, (hq g e).2⟩
  refine ⟨he, F', x1, h2.kept x2 (fun g m => ?_) (fun g m => ?_), hF _ hr.lt h3, a, ca, b, cb, hr.kept x2 (ht _ (Nat.le_refl _) h3) (fun g e => ht _ ((hr.s.lt e).1) (h4 g ((rb_is _ _ _).symm.trans e)).1) (fun g e => ht _ ((hr.r.lt e).1) (h5 g ((rb_is _ _ _).symm.trans e)).1), hof a h4 (fun g e => hr.s.old ((rb_is _ _ _).trans e)), hof b h5 (fun g e => hr.r.old ((rb_is _ _ _).trans e))⟩
  · rcases List.mem_cons.1 m with e | e
    · rw [e]; exact List.mem_cons_self ..
    · exact List.mem_cons_of_mem _ (List.mem_cons_of_mem _ e)
  · rcases List.mem_cons.1 m with e | m
    · exact .inl (by rw [e]; exact List.mem_cons_self ..)
    · rcases List.mem_cons.1 m with e | e
      · exact .inl (by rw [e]; exact List.mem_cons_of_mem _ (List.mem_cons_self ..))
      · exact (x3 g e).imp (fun q => List.mem_cons_of_mem _ (List.mem_cons_of_mem _ q)) id
theorem Te.ask {w wx : World} {t : Nat} {S S2 : List Ms} {R R2 : List Rc} {B : List Box} {f : Nat} {args : Array Value} {Q : Ending → World → Prop} (h : Te w t S R S2 R2 B wx) (c : ∀ F, EIn w t S R F wx → Calls Try.prog f args wx Q) : Calls Try.prog f args wx Q := by
  obtain ⟨F, h1, _⟩ := h
  exact c F h1
/-- A call of the document's. -/
theorem Te.doc {w wx : World} {t : Nat} {S S2 S3 : List Ms} {R R2 R3 : List Rc} {B : List Box} {f : Nat} {args : Array Value} {v : Value} (h : Te w t S R S2 R2 B wx) (c : ∀ a ca b cb, RE (t + 1) wx (t + 1) a ca S2 b cb R2 → Calls Try.prog f args wx (REP (t + 1) (t + 1) wx a b v S3 R3)) : Calls Try.prog f args wx fun e w' => e = .returned v ∧ Te w t S R S3 R3 B w' := by
  obtain ⟨F, h1, h2, h3, a, ca, b, cb, hr, h4, h5⟩ := h
  refine (c a ca b cb hr).mono fun e w' ⟨he, ⟨a', ca', b', cb', x1, x2, x3⟩, x4⟩ => ?_
  have hof : ∀ q q', Off F B q → (∀ g, rb q' = some g → rb q = some g ∨ wx.heap.size ≤ g) → Off F B q' := fun q q' hq ho g e => by
    rcases ho g e with e' | e'
    · exact hq g e'
    · exact ⟨fun m => by have := h1.old g m; omega, fun c m => by have := (h2 c m).1.lt; omega⟩
  refine ⟨he, F, h1.beside x4 (by omega) h3 (by have := h1.new.1; omega), h2.kept x4 (fun g m => ?_) (fun g m => .inl m), h3, a', ca', b', cb', x1, hof a a' h4 x2, hof b b' h5 x3⟩
  rw [List.mem_singleton.1 m]; exact List.mem_cons_of_mem _ (List.mem_cons_self ..)
/-- A box beside them is written. -/
theorem Te.put {w wx wy : World} {t : Nat} {S S2 : List Ms} {R R2 : List Rc} {B : List Box} {g : Nat} {T : TypeId} {vs vs' : List Value} (h : Te w t S R S2 R2 ((g, T, vs) :: B) wx) (hn : t < g) (hB : ∀ b ∈ B, b.1 ≠ g) (k : Kp [g] wx wy) (b : Bk wy g T vs') : Te w t S R S2 R2 ((g, T, vs') :: B) wy := by
  obtain ⟨F, h1, h2, h3, a, ca, b', cb, hr, h4, h5⟩ := h
  obtain ⟨q1, q2⟩ := h2 _ (List.mem_cons_self ..)
  have n1 : g ≠ t + 1 := fun e => q2 (by rw [e]; exact List.mem_cons_of_mem _ (List.mem_cons_self ..))
  have n2 : g ∉ F := fun m => q2 (List.mem_cons_of_mem _ (List.mem_cons_of_mem _ m))
  have hof : ∀ q, Off F ((g, T, vs) :: B) q → Off F ((g, T, vs') :: B) q := fun q hq x e => ⟨(hq x e).1, fun c m => by
    rcases List.mem_cons.1 m with rfl | m
    · exact (hq x e).2 (g, T, vs) (List.mem_cons_self ..)
    · exact (hq x e).2 _ (List.mem_cons_of_mem _ m)⟩
  have hno : ∀ q, Off F ((g, T, vs) :: B) q → ∀ x, rb q = some x → x ∉ [g] := fun q hq x e m => (hq x e).2 (g, T, vs) (List.mem_cons_self ..) (List.mem_singleton.1 m).symm
  refine ⟨F, h1.beside k (by omega) n2 (by have := h1.new.1; omega), fun c m => ?_, h3, a, ca, b', cb, hr.kept k (by simpa using Ne.symm n1) (fun x e => hno a h4 x ((rb_is _ _ _).symm.trans e)) (fun x e => hno b' h5 x ((rb_is _ _ _).symm.trans e)), hof a h4, hof b' h5⟩
  rcases List.mem_cons.1 m with rfl | m
  · exact ⟨b, q2⟩
  · obtain ⟨c1, c2⟩ := h2 _ (List.mem_cons_of_mem _ m)
    exact ⟨c1.kept k (by have := hB c m; simpa using this), c2⟩
/-- A box stays where another one is written. -/
theorem Te.held {w W wy : World} {t : Nat} {S S2 : List Ms} {R R2 : List Rc} {B : List Box} (h : Te w t S R S2 R2 B W) {A D : Nat} {T : TypeId} {vs : List Value} (hb : (A, T, vs) ∈ B) (hne : A ≠ D) (hD : w.heap.size ≤ D) (k : Kp [D] W wy) : Bk wy A T vs ∧ Kp [] w wy :=
  ⟨(h.bk hb).kept k (by simpa using hne), h.kp.trans k (by simp) (by simpa using hD)⟩
end Go.Proofs.Ythnpkojfkhndoaa
