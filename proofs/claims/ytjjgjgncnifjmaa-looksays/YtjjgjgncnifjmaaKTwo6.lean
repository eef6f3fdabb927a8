/- The program's table and the document's, beside one another (of their order below parents nothing is asked). -/
import Derived.Test.YtjjgjgncnifjmaaKTb
import Derived.Test.YtjjgjgncnifjmaaKTab6
import Derived.Test.YtjjgjgncnifjmaaKMkCap
namespace Go.Proofs.Ytjjgjgncnifjmaa
open Go.RowKit
set_option linter.unusedVariables false
/-- Blocks of other types than the tables' and the numbers' are as they were. -/
def Cg (wx wy : World) : Prop := ∀ g T vs, Bk wx g T vs → T ≠ 50 → T ≠ 59 → T ≠ 29 → Bk wy g T vs
theorem Cg.of {wx wy : World} (k : Kp [] wx wy) : Cg wx wy := fun g T vs b _ _ _ => b.kept k (by simp)
theorem Cg.trans {wx wy wz : World} (h : Cg wx wy) (h' : Cg wy wz) : Cg wx wz := fun g T vs b h1 h2 h3 => h' g T vs (h g T vs b h1 h2 h3) h1 h2 h3
theorem Cg.box {wx wy : World} (h : Cg wx wy) {g : Nat} {vs : List Value} (b : Bk wx g 40 vs) : Bk wy g 40 vs := h _ _ _ b (by decide) (by decide) (by decide)
theorem Cg.cap {wx wy : World} (h : Cg wx wy) {g : Nat} {vs : List Value} (b : Bk wx g 24 vs) : Bk wy g 24 vs := h _ _ _ b (by decide) (by decide) (by decide)
/-- The two tables, L1 and L2, and the numbers, of which k were taken. -/
structure Pt (w : World) (t x p : Nat) (a : Option Addr) (cap : Nat) (zs : List Int) (L1 L2 : List Sl) (k : Nat) (wx : World) : Prop where
  tab : Tb w t L1 wx
  rt : ∃ ra rc, RT (t + 1) wx x ra rc L2
  sq : Sq w wx p a cap zs k
theorem Pt.grew {w : World} {t x p : Nat} {a : Option Addr} {cap : Nat} {zs : List Int} {L1 L2 : List Sl} {k : Nat} {wx wy : World} (h : Pt w t x p a cap zs L1 L2 k wx) (kp : Kp [] wx wy) : Pt w t x p a cap zs L1 L2 k wy := by
  obtain ⟨ra, rc, r⟩ := h.rt
  exact ⟨h.tab.grew kp, ⟨ra, rc, r.grew kp⟩, h.sq.kept kp (by simp) (by simp)⟩
theorem Pt.nex {w : World} {t x p : Nat} {a : Option Addr} {cap : Nat} {zs : List Int} {L1 L2 : List Sl} {k : Nat} {wx : World} (h : Pt w t x p a cap zs L1 L2 k wx) : x ≠ t ∧ p ≠ t ∧ p ≠ x := by
  obtain ⟨ra, rc, r⟩ := h.rt
  obtain ⟨m, hp, _⟩ := h.tab.tab
  exact ⟨by have := r.new; omega, h.sq.bk.apart hp.head (by decide), h.sq.bk.apart r.head (by decide)⟩
theorem Pt.turnT {w : World} {t x p : Nat} {a : Option Addr} {cap : Nat} {zs : List Int} {L1 L2 L1' : List Sl} {k : Nat} {wx wy : World} (h : Pt w t x p a cap zs L1 L2 k wx) (T : Tch w t wx wy) (X : Tb w t L1' wy) : Pt w t x p a cap zs L1' L2 k wy ∧ Cg wx wy := by
  obtain ⟨ra, rc, r⟩ := h.rt
  obtain ⟨n1, n2, n3⟩ := h.nex
  obtain ⟨m, hp, _⟩ := h.tab.tab
  refine ⟨?_, fun g T' vs b h1 h2 h3 => T.bk b (b.apart hp.head h1)⟩
  obtain ⟨S, kS, hS⟩ := T
  refine ⟨X, ⟨ra, rc, r.kept kS (fun m => ?_) (fun g hg m => ?_)⟩, h.sq.kept kS (fun m => ?_) (fun i m => (hS i m).1)⟩
  · rcases (hS x m).2 with e | e
    · exact n1 e
    · exact e _ _ _ r.head
  · rcases r.own.2 with ⟨e, _⟩ | ⟨g', c, cur, e, hb, hh, _⟩
    · rw [hg] at e; cases e
    · rw [hg] at e
      cases e
      rcases (hS g m).2 with e | e
      · omega
      · exact e _ _ _ hh
  · rcases (hS p m).2 with e | e
    · exact n2 e
    · exact e _ _ _ h.sq.bk
theorem Pt.turnX {w : World} {t x p : Nat} {a : Option Addr} {cap : Nat} {zs : List Int} {L1 L2 L2' : List Sl} {k : Nat} {wx wy : World} (h : Pt w t x p a cap zs L1 L2 k wx) (kx : Kp [x] wx wy) (X : ∃ ra rc, RT (t + 1) wy x ra rc L2') : Pt w t x p a cap zs L1 L2' k wy ∧ Cg wx wy := by
  obtain ⟨ra, rc, r⟩ := h.rt
  obtain ⟨n1, n2, n3⟩ := h.nex
  have hw : w.heap.size ≤ x := by have := r.new; have := h.tab.new; omega
  exact ⟨⟨h.tab.beside kx r.head n1 hw, X, h.sq.kept kx (by simpa using n3) (by simpa using hw)⟩, fun g T' vs b h1 h2 h3 => b.kept kx (by simpa using b.apart r.head h2)⟩
theorem Pt.turnS {w : World} {t x p : Nat} {a : Option Addr} {cap : Nat} {zs : List Int} {L1 L2 : List Sl} {k k' : Nat} {wx wy : World} (h : Pt w t x p a cap zs L1 L2 k wx) (ks : Kp [p] wx wy) (X : Sq w wy p a cap zs k') : Pt w t x p a cap zs L1 L2 k' wy ∧ Cg wx wy := by
  obtain ⟨ra, rc, r⟩ := h.rt
  obtain ⟨n1, n2, n3⟩ := h.nex
  refine ⟨⟨h.tab.beside ks h.sq.bk n2 h.sq.new, ⟨ra, rc, r.kept ks (by simpa using n3.symm) (fun g hg m => ?_)⟩, X⟩, fun g T' vs b h1 h2 h3 => b.kept ks (by simpa using b.apart h.sq.bk h3)⟩
  rcases r.own.2 with ⟨e, _⟩ | ⟨g', c, cur, e, hb, hh, _⟩
  · rw [hg] at e; cases e
  · rw [hg] at e
    cases e
    have e2 : g = p := by simpa using m
    subst e2
    have := h.sq.bk
    unfold Bk at this
    rw [hh] at this
    simp at this
/-- What a change of the document's table leaves. -/
def RIn6 (base : Nat) (x : Nat) (L : List Sl) (w : World) (v : Value) (e : Ending) (w' : World) : Prop := e = .returned v ∧ (∃ ra rc, RT base w' x ra rc L) ∧ Kp [x] w w'
theorem rin6 {base x : Nat} {L : List Sl} {w : World} {e : Ending} {w' : World} (h : PutP base w x L e w') : RIn6 base x L w (.bool true) e w' := by
  obtain ⟨he, a, c, r, k⟩ := h
  exact ⟨he, ⟨a, c, r⟩, k⟩
/-- A thing done in both: the same answer, the same slots. -/
structure Bt (w : World) (t x : Nat) (L L' : List Sl) (v : Bool) (f g : FuncId) (xs : List Value) : Prop where
  prog : ∀ wr, Tb w t L wr → Calls Try.prog f (.pointer (some ⟨t, 0, none⟩) :: xs).toArray wr (TbP w t L' wr (.bool v))
  doc : ∀ wr ra rc, RT (t + 1) wr x ra rc L → Calls Try.prog g (.pointer (some ⟨x, 0, none⟩) :: xs).toArray wr (RIn6 (t + 1) x L' wr (.bool v))
  len : L'.length ≤ L.length + 1
theorem Kp.one6 {w w' : World} {x : Nat} (k : Kp [] w w') : Kp [x] w w' := k.mono (by simp)
theorem bt_put {w : World} {t x : Nat} {L : List Sl} (hL : L.length < 65536) {n s k o z b r u v : Int} (hi : PIn (n, s)) (hu : PIn (u, v)) :
    ∃ is L', Bt w t x L L' is 16 20 [.agg #[.int .i64 n, .int .i64 s], .agg #[.int .i64 k, .int .i64 o, .int .i64 z, .int .i64 b, .int .i64 r], .agg #[.int .i64 u, .int .i64 v]] := by
  by_cases hp : putP L n s k o z b r u v
  · refine ⟨true, _, fun wr h => bput_yes h hi hu hp hL rfl, fun wr ra rc h => (rput_yes h n s k o z b r u v hp hL).mono fun e w' q => rin6 q, ?_⟩
    rw [(ins_perm L _).length_eq]
    simp
  · exact ⟨false, L, fun wr h => bput_no h hi hu hp, fun wr ra rc h => (rput_no h n s k o z b r u v hp).mono fun e w' q => ⟨q.1, ⟨ra, rc, h.grew q.2⟩, q.2.one6⟩, by omega⟩
end Go.Proofs.Ytjjgjgncnifjmaa
