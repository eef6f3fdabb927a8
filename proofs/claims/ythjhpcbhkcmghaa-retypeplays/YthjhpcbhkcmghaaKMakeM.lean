/- What Make comes to, as a function of the slots and the marks. -/
import Derived.Test.YthjhpcbhkcmghaaKRd
import Derived.Test.YthjhpcbhkcmghaaKFree0
import Derived.Test.YthjhpcbhkcmghaaKTm
namespace Go.Proofs.Ythjhpcbhkcmghaa
open Go.RowKit
set_option linter.unusedVariables false
def kindB (k : Int) : Bool := (k != 1) && ((k != 2) && ((k != 3) && ((k != 4) && ((k != 5) && (k != 7)))))
def sizeB (k z : Int) : Bool := ((k == 1) && (decide (z < 1) || decide (64 < z))) || ((k != 1) && (z != 0))
def unC (k z : Int) : Int := if kindB k = true then 5 else if sizeB k z = true then 7 else 0
def unN (k z : Int) : Int := if k = 1 then z else 1
def F1 (L : List Sl) (F : Int × Int → Int) (o z : Int) : Int × Int → Int := if freeL L o z = true then upF F (o, z) 0 else F
/-- The code, the first unit, what slots and marks are then. -/
structure MkR where
  c : Int
  o : Int
  L : List Sl
  F : Int × Int → Int
def mkR (L : List Sl) (F : Int × Int → Int) (n s n' s' k z : Int) : MkR :=
  match lkS L n s with
  | none => ⟨4, 0, L, F⟩
  | some y => if y.k ≠ 1 then ⟨5, 0, L, F⟩ else if bothC L n s n' s' ≠ 0 then ⟨bothC L n s n' s', 0, L, F⟩ else if unC k z ≠ 0 then ⟨unC k z, 0, L, F⟩
    else if y.z - F1 L F y.o y.z (y.o, y.z) < unN k z then ⟨8, 0, L, F1 L F y.o y.z⟩
    else ⟨0, y.o + F1 L F y.o y.z (y.o, y.z), putR L n' s' k (y.o + F1 L F y.o y.z (y.o, y.z)) z 0 7 n s, upF (F1 L F y.o y.z) (y.o, y.z) (F1 L F y.o y.z (y.o, y.z) + unN k z)⟩
def capR (R : MkR) (k z : Int) : Value := if R.c = 0 then .agg #[.int .i64 k, .int .i64 R.o, .int .i64 z, .int .i64 0, .int .i64 7] else .agg #[.int .i64 0, .int .i64 0, .int .i64 0, .int .i64 0, .int .i64 0]
theorem mkR_none {L : List Sl} {F : Int × Int → Int} {n s n' s' k z : Int} (h : lkS L n s = none) : mkR L F n s n' s' k z = ⟨4, 0, L, F⟩ := by unfold mkR; rw [h]
theorem mkR_kind {L : List Sl} {F : Int × Int → Int} {n s n' s' k z : Int} {y : Sl} (h : lkS L n s = some y) (hk : y.k ≠ 1) : mkR L F n s n' s' k z = ⟨5, 0, L, F⟩ := by unfold mkR; rw [h]; simp only; rw [if_pos hk]
theorem mkR_both {L : List Sl} {F : Int × Int → Int} {n s n' s' k z c : Int} {y : Sl} (h : lkS L n s = some y) (hk : y.k = 1) (hb : bothC L n s n' s' = c) (hc : c ≠ 0) : mkR L F n s n' s' k z = ⟨c, 0, L, F⟩ := by unfold mkR; rw [h]; simp only; rw [if_neg (by simp [hk]), hb, if_pos hc]
theorem mkR_un {L : List Sl} {F : Int × Int → Int} {n s n' s' k z c : Int} {y : Sl} (h : lkS L n s = some y) (hk : y.k = 1) (hb : bothC L n s n' s' = 0) (hu : unC k z = c) (hc : c ≠ 0) : mkR L F n s n' s' k z = ⟨c, 0, L, F⟩ := by unfold mkR; rw [h]; simp only; rw [if_neg (by simp [hk]), hb, if_neg (by simp), hu, if_pos hc]
theorem mkR_mem {L : List Sl} {F : Int × Int → Int} {n s n' s' k z : Int} {y : Sl} (h : lkS L n s = some y) (hk : y.k = 1) (hb : bothC L n s n' s' = 0) (hu : unC k z = 0) {G : Int × Int → Int} (hG : F1 L F y.o y.z = G) (hm : y.z - G (y.o, y.z) < unN k z) : mkR L F n s n' s' k z = ⟨8, 0, L, G⟩ := by unfold mkR; rw [h]; simp only; rw [if_neg (by simp [hk]), hb, if_neg (by simp), hu, if_neg (by simp), hG, if_pos hm]
theorem mkR_yes {L : List Sl} {F : Int × Int → Int} {n s n' s' k z u v : Int} {y : Sl} (h : lkS L n s = some y) (hk : y.k = 1) (hb : bothC L n s n' s' = 0) (hu : unC k z = 0) {G : Int × Int → Int} (hG : F1 L F y.o y.z = G) (hg : G (y.o, y.z) = u) (hv : unN k z = v) (hm : ¬ y.z - u < v) : mkR L F n s n' s' k z = ⟨0, y.o + u, putR L n' s' k (y.o + u) z 0 7 n s, upF G (y.o, y.z) (u + v)⟩ := by unfold mkR; rw [h]; simp only; rw [if_neg (by simp [hk]), hb, if_neg (by simp), hu, if_neg (by simp), hG, hg, hv, if_neg hm]
theorem F1_FB {L : List Sl} {F : Int × Int → Int} (h : FB F) (o z : Int) : FB (F1 L F o z) := by
  unfold F1
  split
  · exact h.up _ (by decide) (by decide)
  · exact h
/-- Three boxes: from, to, the result. -/
structure Mb (t : Nat) (n s n' s' : Int) (W : World) : Prop where
  ff : Bk W t 40 [.int .i64 n, .int .i64 s]
  tt : Bk W (t + 1) 40 [.int .i64 n', .int .i64 s']
  res : Bk W (t + 1 + 1) 38 [.int .i64 0, .int .i64 0, .int .i64 0, .int .i64 0, .int .i64 0]
theorem Mb.grew {t : Nat} {n s n' s' : Int} {W W' : World} (h : Mb t n s n' s' W) (k : Kp [] W W') : Mb t n s n' s' W' := ⟨h.ff.kept k (by simp), h.tt.kept k (by simp), h.res.kept k (by simp)⟩
theorem Mb.dmc {base t x y : Nat} {n s n' s' : Int} {W W' : World} (h : Mb t n s n' s' W) (T : Dmc base x y W W') (hx : x < t) (hy : y < t) : Mb t n s n' s' W' := ⟨T.bk h.ff (by omega) (by omega) (by decide), T.bk h.tt (by omega) (by omega) (by decide), T.bk h.res (by omega) (by omega) (by decide)⟩
theorem Mb.mtc {t x y : Nat} {n s n' s' : Int} {w W W' : World} (h : Mb t n s n' s' W) (T : Mtc w x y W W') (hx : x < t) (hy : y < t) : Mb t n s n' s' W' := ⟨T.bk h.ff (by omega) (by omega), T.bk h.tt (by omega) (by omega), T.bk h.res (by omega) (by omega)⟩
theorem Mb.facts {t : Nat} {n s n' s' : Int} {W : World} (h : Mb t n s n' s' W) : (∀ i, W.frozen? ⟨t + 1 + 1, i, none⟩ = false) ∧ (W.cell? ⟨t + 1 + 1, 0, none⟩ = some (.int .i64 0) ∧ W.cell? ⟨t + 1 + 1, 1, none⟩ = some (.int .i64 0) ∧ W.cell? ⟨t + 1 + 1, 2, none⟩ = some (.int .i64 0) ∧ W.cell? ⟨t + 1 + 1, 3, none⟩ = some (.int .i64 0) ∧ W.cell? ⟨t + 1 + 1, 4, none⟩ = some (.int .i64 0)) ∧ (W.cell? ⟨t, 0, none⟩ = some (.int .i64 n) ∧ W.cell? ⟨t, 1, none⟩ = some (.int .i64 s)) ∧ W.cell? ⟨t + 1, 0, none⟩ = some (.int .i64 n') ∧ W.cell? ⟨t + 1, 1, none⟩ = some (.int .i64 s') :=
  ⟨h.res.frozen, ⟨h.res.cell rfl, h.res.cell rfl, h.res.cell rfl, h.res.cell rfl, h.res.cell rfl⟩, ⟨h.ff.cell rfl, h.ff.cell rfl⟩, h.tt.cell rfl, h.tt.cell rfl⟩
theorem mb_start (w : World) (n s n' s' : Int) : Mb w.heap.size n s n' s' (((w.alloc (.cells #[.int .i64 n, .int .i64 s] 40)).alloc (.cells #[.int .i64 n', .int .i64 s'] 40)).alloc (.cells #[.int .i64 0, .int .i64 0, .int .i64 0, .int .i64 0, .int .i64 0] 38)) ∧ Kp [] w (((w.alloc (.cells #[.int .i64 n, .int .i64 s] 40)).alloc (.cells #[.int .i64 n', .int .i64 s'] 40)).alloc (.cells #[.int .i64 0, .int .i64 0, .int .i64 0, .int .i64 0, .int .i64 0] 38)) :=
  ⟨⟨((Bk.new w _ [.int .i64 n, .int .i64 s]).alloc _).alloc _, (Bk.next (p := w.heap.size + 1) _ _ [.int .i64 n', .int .i64 s'] (by simp)).alloc _, Bk.next (p := w.heap.size + 1 + 1) _ _ [.int .i64 0, .int .i64 0, .int .i64 0, .int .i64 0, .int .i64 0] (by simp)⟩, (((Kp.refl [] w).alloc _).alloc _).alloc _⟩
theorem kp5 {w : World} {q : Nat} (c0 c1 c2 c3 c4 : Value) : Kp [q] w (((((w.setCell ⟨q, 0, none⟩ c0).setCell ⟨q, 1, none⟩ c1).setCell ⟨q, 2, none⟩ c2).setCell ⟨q, 3, none⟩ c3).setCell ⟨q, 4, none⟩ c4) := kp_put5 (Kp.refl [q] w) (.inl (by simp)) c0 c1 c2 c3 c4
theorem Dmc.more {base x y : Nat} {a b c : World} {S : List Nat} (h : Dmc base x y a b) (k : Kp S b c) (hS : ∀ i ∈ S, a.heap.size ≤ i) : Dmc base x y a c := by
  obtain ⟨S1, k1, h1⟩ := h
  exact ⟨S1, k1.trans k (fun i m => m) (fun i m => .inr (hS i m)), h1⟩
theorem Mtc.more {w a b c : World} {t y : Nat} {S : List Nat} (h : Mtc w t y a b) (k : Kp S b c) (hS : ∀ i ∈ S, a.heap.size ≤ i) : Mtc w t y a c := by
  obtain ⟨S1, k1, h1⟩ := h
  exact ⟨S1, k1.trans k (fun i m => m) (fun i m => .inr (hS i m)), h1⟩
/-- What the document's Make leaves. -/
def RKP (base x y : Nat) (R : MkR) (k z : Int) (m : Nat) (w : World) (e : Ending) (w' : World) : Prop := e = .returned (.tuple #[capR R k z, .int .i64 R.c]) ∧ RD base x y R.L R.F m w' ∧ Dmc base x y w w'
theorem RKP.no {base x y : Nat} {L : List Sl} {F : Int × Int → Int} {m m' : Nat} {w W : World} {n s n' s' k z c : Int} {t : Nat} (b : Mb t n s n' s' W) (h : RD base x y L F m W) (D : Dmc base x y w W) (ht : w.heap.size ≤ t) (hxy : x < w.heap.size ∧ y < w.heap.size) (hm : m ≤ m') (hc : c ≠ 0) :
    RKP base x y ⟨c, 0, L, F⟩ k z m' w (.returned (.tuple #[.agg #[.int .i64 0, .int .i64 0, .int .i64 0, .int .i64 0, .int .i64 0], .int .i64 c])) (((((W.setCell ⟨t + 1 + 1, 0, none⟩ (.int .i64 0)).setCell ⟨t + 1 + 1, 1, none⟩ (.int .i64 0)).setCell ⟨t + 1 + 1, 2, none⟩ (.int .i64 0)).setCell ⟨t + 1 + 1, 3, none⟩ (.int .i64 0)).setCell ⟨t + 1 + 1, 4, none⟩ (.int .i64 0)) := by
  refine ⟨by unfold capR; rw [if_neg hc], ?_, D.more (kp5 _ _ _ _ _) (by simp; omega)⟩
  have q := h.beside (kp5 (.int .i64 0) (.int .i64 0) (.int .i64 0) (.int .i64 0) (.int .i64 0)) b.res (by omega) (by omega) (by decide) (by decide)
  obtain ⟨rt, a, cap, M, r, hu, hl⟩ := q
  exact ⟨rt, a, cap, M, r, hu, by omega⟩
theorem Mb.no1 {base x y : Nat} {L : List Sl} {F : Int × Int → Int} {m m' : Nat} {w W : World} {n s n' s' k z c : Int} {t : Nat} (b : Mb t n s n' s' W) (h : RD base x y L F m W) (D : Kp [] w W) (ht : w.heap.size ≤ t) (hxy : x < w.heap.size ∧ y < w.heap.size) (hm : m ≤ m') (hc : c ≠ 0) :
    RKP base x y ⟨c, 0, L, F⟩ k z m' w (.returned (.tuple #[.agg #[.int .i64 0, .int .i64 0, .int .i64 0, .int .i64 0, .int .i64 0], .int .i64 c])) (((((W.setCell ⟨t + 1 + 1, 0, none⟩ (.int .i64 0)).setCell ⟨t + 1 + 1, 1, none⟩ (.int .i64 0)).setCell ⟨t + 1 + 1, 2, none⟩ (.int .i64 0)).setCell ⟨t + 1 + 1, 3, none⟩ (.int .i64 0)).setCell ⟨t + 1 + 1, 4, none⟩ (.int .i64 0)) := RKP.no b h (.of D) ht hxy hm hc
theorem lk_at {L : List Sl} {n s : Int} {y : Sl} (h : lkS L n s = some y) : ∃ i : Nat, y ∈ L ∧ L[i]? = some y := by
  unfold lkS at h
  cases ha : atL L n s with
  | none => rw [ha] at h; cases h
  | some i => rw [ha] at h; exact ⟨i, List.mem_of_getElem? h, h⟩
theorem RD.le {base x y : Nat} {L : List Sl} {F : Int × Int → Int} {m m' : Nat} {W : World} (h : RD base x y L F m W) (hm : m ≤ m') : RD base x y L F m' W := by
  obtain ⟨rt, a, cap, M, r, hu, hl⟩ := h
  exact ⟨rt, a, cap, M, r, hu, by omega⟩
theorem RKP.yes {base x y : Nat} {L : List Sl} {F : Int × Int → Int} {m m' : Nat} {w W : World} {n s n' s' k z o : Int} {t : Nat} (b : Mb t n s n' s' W) (h : RD base x y L F m W) (D : Dmc base x y w W) (ht : w.heap.size ≤ t) (hxy : x < w.heap.size ∧ y < w.heap.size) (hm : m ≤ m') :
    RKP base x y ⟨0, o, L, F⟩ k z m' w (.returned (.tuple #[.agg #[.int .i64 k, .int .i64 o, .int .i64 z, .int .i64 0, .int .i64 7], .int .i64 0])) (((((W.setCell ⟨t + 1 + 1, 0, none⟩ (.int .i64 k)).setCell ⟨t + 1 + 1, 1, none⟩ (.int .i64 o)).setCell ⟨t + 1 + 1, 2, none⟩ (.int .i64 z)).setCell ⟨t + 1 + 1, 3, none⟩ (.int .i64 0)).setCell ⟨t + 1 + 1, 4, none⟩ (.int .i64 7)) :=
  ⟨by unfold capR; rw [if_pos rfl], (h.beside (kp5 _ _ _ _ _) b.res (by omega) (by omega) (by decide) (by decide)).le hm, D.more (kp5 _ _ _ _ _) (by simp; omega)⟩
theorem un_bad {k z : Int} (h : kindB k = true) : unC k z = 5 := by unfold unC; rw [if_pos h]
theorem un_size {k z : Int} (h : kindB k = false) (h2 : sizeB k z = true) : unC k z = 7 := by unfold unC; rw [if_neg (by simp [h]), if_pos h2]
theorem un_fine {k z : Int} (h : kindB k = false) (h2 : sizeB k z = false) : unC k z = 0 := by unfold unC; rw [if_neg (by simp [h]), if_neg (by simp [h2])]
/-- Right sizes: an Untyped's, or none. -/
theorem size_fine {k z : Int} (h2 : sizeB k z = false) : (k = 1 ∧ 1 ≤ z ∧ z ≤ 64) ∨ (k ≠ 1 ∧ z = 0) := by
  unfold sizeB at h2
  by_cases k1 : k = 1
  · subst k1
    simp at h2
    exact .inl ⟨rfl, by omega⟩
  · simp [k1] at h2
    exact .inr ⟨k1, h2⟩
end Go.Proofs.Ythjhpcbhkcmghaa
