/- The program's table and the document's, beside one another. -/
import Derived.Test.YtdlkaaiedfikoaaKTabIn
import Derived.Test.YtdlkaaiedfikoaaKRefuse
import Derived.Test.YtdlkaaiedfikoaaKTab9
import Derived.Test.YtdlkaaiedfikoaaKMkCap
import Derived.Test.YtdlkaaiedfikoaaKSamePl
namespace Go.Proofs.Ytdlkaaiedfikoaa
open Go.RowKit
set_option linter.unusedVariables false
/-- Blocks of other types than the tables' and the numbers' are as they were. -/
def Ch (wx wy : World) : Prop := ∀ g T vs, Bk wx g T vs → T ≠ 26 → T ≠ 46 → T ≠ 49 → Bk wy g T vs
theorem Ch.of {wx wy : World} (k : Kp [] wx wy) : Ch wx wy := fun g T vs b _ _ _ => b.kept k (by simp)
theorem Ch.trans {wx wy wz : World} (h : Ch wx wy) (h' : Ch wy wz) : Ch wx wz := fun g T vs b h1 h2 h3 => h' g T vs (h g T vs b h1 h2 h3) h1 h2 h3
theorem Ch.box {wx wy : World} (h : Ch wx wy) {g : Nat} {vs : List Value} (b : Bk wx g 28 vs) : Bk wy g 28 vs := h _ _ _ b (by decide) (by decide) (by decide)
theorem Ch.cap {wx wy : World} (h : Ch wx wy) {g : Nat} {vs : List Value} (b : Bk wx g 31 vs) : Bk wy g 31 vs := h _ _ _ b (by decide) (by decide) (by decide)
/-- The two tables, L1 and L2, and the numbers, of which k were taken. -/
structure Py (w : World) (t x p : Nat) (a : Option Addr) (cap : Nat) (zs : List Int) (L1 L2 : List Sl) (k : Nat) (wx : World) : Prop where
  tab : TabIn w t L1 wx
  rt : ∃ ra rc, RT (t + 1) wx x ra rc L2
  sq : Sq w wx p a cap zs k
theorem Py.grew {w : World} {t x p : Nat} {a : Option Addr} {cap : Nat} {zs : List Int} {L1 L2 : List Sl} {k : Nat} {wx wy : World} (h : Py w t x p a cap zs L1 L2 k wx) (kp : Kp [] wx wy) : Py w t x p a cap zs L1 L2 k wy := by
  obtain ⟨ra, rc, r⟩ := h.rt
  exact ⟨h.tab.grew kp, ⟨ra, rc, r.grew kp⟩, h.sq.kept kp (by simp) (by simp)⟩
theorem Py.nex {w : World} {t x p : Nat} {a : Option Addr} {cap : Nat} {zs : List Int} {L1 L2 : List Sl} {k : Nat} {wx : World} (h : Py w t x p a cap zs L1 L2 k wx) : x ≠ t ∧ p ≠ t ∧ p ≠ x := by
  obtain ⟨ra, rc, r⟩ := h.rt
  obtain ⟨m, hp, _⟩ := h.tab.tab
  exact ⟨by have := r.new; omega, h.sq.bk.apart hp.head (by decide), h.sq.bk.apart r.head (by decide)⟩
theorem Py.turnT {w : World} {t x p : Nat} {a : Option Addr} {cap : Nat} {zs : List Int} {L1 L2 L1' : List Sl} {k : Nat} {wx wy : World} (h : Py w t x p a cap zs L1 L2 k wx) (T : Tch w t wx wy) (X : TabIn w t L1' wy) : Py w t x p a cap zs L1' L2 k wy ∧ Ch wx wy := by
  obtain ⟨ra, rc, r⟩ := h.rt
  obtain ⟨n1, n2, n3⟩ := h.nex
  obtain ⟨m, hp, _⟩ := h.tab.tab
  refine ⟨?_, fun g T' vs b h1 h2 h3 => T.bk b (b.apart hp.head h1)⟩
  obtain ⟨S, kS, hS⟩ := T
  refine ⟨X, ⟨ra, rc, r.kept kS (fun m => ?_) (fun g hg m => ?_)⟩, h.sq.kept kS (fun m => ?_) (fun i m => (hS i m).1)⟩
  · rcases (hS x m).2 with e | e
    · exact n1 e
    · exact e _ _ _ r.head
  · rcases r.own.2 with ⟨e, _⟩ | ⟨g', c, cur, e, hb, hh, _⟩
    · rw [hg] at e; cases e
    · rw [hg] at e
      cases e
      rcases (hS g m).2 with e | e
      · omega
      · exact e _ _ _ hh
  · rcases (hS p m).2 with e | e
    · exact n2 e
    · exact e _ _ _ h.sq.bk
theorem Py.turnX {w : World} {t x p : Nat} {a : Option Addr} {cap : Nat} {zs : List Int} {L1 L2 L2' : List Sl} {k : Nat} {wx wy : World} (h : Py w t x p a cap zs L1 L2 k wx) (kx : Kp [x] wx wy) (X : ∃ ra rc, RT (t + 1) wy x ra rc L2') : Py w t x p a cap zs L1 L2' k wy ∧ Ch wx wy := by
  obtain ⟨ra, rc, r⟩ := h.rt
  obtain ⟨n1, n2, n3⟩ := h.nex
  have hw : w.heap.size ≤ x := by have := r.new; have := h.tab.new; omega
  exact ⟨⟨h.tab.beside kx r.head n1 hw, X, h.sq.kept kx (by simpa using n3) (by simpa using hw)⟩, fun g T' vs b h1 h2 h3 => b.kept kx (by simpa using b.apart r.head h2)⟩
theorem Py.turnS {w : World} {t x p : Nat} {a : Option Addr} {cap : Nat} {zs : List Int} {L1 L2 : List Sl} {k k' : Nat} {wx wy : World} (h : Py w t x p a cap zs L1 L2 k wx) (ks : Kp [p] wx wy) (X : Sq w wy p a cap zs k') : Py w t x p a cap zs L1 L2 k' wy ∧ Ch wx wy := by
  obtain ⟨ra, rc, r⟩ := h.rt
  obtain ⟨n1, n2, n3⟩ := h.nex
  refine ⟨⟨h.tab.beside ks h.sq.bk n2 h.sq.new, ⟨ra, rc, r.kept ks (by simpa using n3.symm) (fun g hg m => ?_)⟩, X⟩, fun g T' vs b h1 h2 h3 => b.kept ks (by simpa using b.apart h.sq.bk h3)⟩
  rcases r.own.2 with ⟨e, _⟩ | ⟨g', c, cur, e, hb, hh, _⟩
  · rw [hg] at e; cases e
  · rw [hg] at e
    cases e
    have e2 : g = p := by simpa using m
    subst e2
    have := h.sq.bk
    unfold Bk at this
    rw [hh] at this
    simp at this
/-- What a change of the document's table leaves. -/
def RInP (base : Nat) (x : Nat) (L : List Sl) (w : World) (v : Value) (e : Ending) (w' : World) : Prop := e = .returned v ∧ (∃ ra rc, RT base w' x ra rc L) ∧ Kp [x] w w'
theorem rin_of {base x : Nat} {L : List Sl} {w : World} {e : Ending} {w' : World} (h : PutP base w x L e w') : RInP base x L w (.bool true) e w' := by
  obtain ⟨he, a, c, r, k⟩ := h
  exact ⟨he, ⟨a, c, r⟩, k⟩
/-- A thing done in both: the same answer, the same slots. -/
structure Both (w : World) (t x : Nat) (L L' : List Sl) (v : Bool) (f g : FuncId) (xs : List Value) : Prop where
  prog : ∀ wr, TabIn w t L wr → Calls Try.prog f (.pointer (some ⟨t, 0, none⟩) :: xs).toArray wr (TInP w t L' wr (.bool v))
  doc : ∀ wr ra rc, RT (t + 1) wr x ra rc L → Calls Try.prog g (.pointer (some ⟨x, 0, none⟩) :: xs).toArray wr (RInP (t + 1) x L' wr (.bool v))
  len : L'.length ≤ L.length + 1
theorem Kp.one {w w' : World} {x : Nat} (k : Kp [] w w') : Kp [x] w w' := k.mono (by simp)
theorem both_put {w : World} {t x : Nat} {L : List Sl} (hL : L.length < 65536) {n s k o z b r u v : Int} (hi : PIn (n, s)) (hu : PIn (u, v)) :
    ∃ is L', Both w t x L L' is 11 23 [.agg #[.int .i64 n, .int .i64 s], .agg #[.int .i64 k, .int .i64 o, .int .i64 z, .int .i64 b, .int .i64 r], .agg #[.int .i64 u, .int .i64 v]] := by
  by_cases hp : putP L n s k o z b r u v
  · refine ⟨true, _, fun wr h => tput_yes h hi hu hp hL rfl, fun wr ra rc h => (rput_yes h n s k o z b r u v hp hL).mono fun e w' q => rin_of q, ?_⟩
    rw [(ins_perm L _).length_eq]
    simp
  · exact ⟨false, L, fun wr h => tput_no h hi hu hp, fun wr ra rc h => (rput_no h n s k o z b r u v hp).mono fun e w' q => ⟨q.1, ⟨ra, rc, h.grew q.2⟩, q.2.one⟩, by omega⟩
theorem both_drop {w : World} {t x : Nat} {L : List Sl} {n s : Int} (hi : PIn (n, s)) :
    ∃ is L', Both w t x L L' is 32 40 [.agg #[.int .i64 n, .int .i64 s]] := by
  cases ha : atL L n s with
  | none => exact ⟨false, L, fun wr h => tdrop_no h hi ha, fun wr ra rc h => (rdrop_no h n s ha).mono fun e w' q => ⟨q.1, ⟨ra, rc, h.grew q.2⟩, q.2.one⟩, by omega⟩
  | some i =>
    obtain ⟨y, hy, _⟩ := atL_some ha
    exact ⟨true, _, fun wr h => tdrop_yes h ha hy rfl, fun wr ra rc h => (rdrop_yes h n s ha hy).mono fun e w' q => rin_of q, by have := drop_len L n s i y; omega⟩
/-- What the document's table tells, by what lies at a place. -/
theorem rget_to {base x : Nat} {wr : World} {ra : Option Addr} {rc : Nat} {L : List Sl} (h : RT base wr x ra rc L) (n s : Int) :
    Calls Try.prog 22 #[.pointer (some ⟨x, 0, none⟩), .agg #[.int .i64 n, .int .i64 s]] wr fun e w' => e = .returned (.tuple #[capO (lookS L n s), .bool (lookS L n s).isSome]) ∧ Kp [] wr w' := by
  unfold lookS
  cases ha : atL L n s with
  | none => exact rget_no h n s ha
  | some i =>
    obtain ⟨y, hy, _⟩ := atL_some ha
    simp only [hy]
    exact rget_yes h n s ha hy
end Go.Proofs.Ytdlkaaiedfikoaa
