/- The walk of SlotsPlay. -/
import Derived.Test.YtdlkaaiedfikoaaKTwo5
import Derived.Test.YtdlkaaiedfikoaaKPlace5
import Derived.Test.YtdlkaaiedfikoaaKArgs
import Derived.Deep.DeepCutAuto
import Derived.Deep.CutBlock
namespace Go.Proofs.Ytdlkaaiedfikoaa
open Go.RowKit
set_option linter.unusedVariables false
theorem py_start {w W : World} {a : Option Addr} {cap : Nat} {zs : List Int} (K : Kp [] w W) (hI : Ints .i64 w a zs) :
    Py w W.heap.size (W.heap.size + 1) (W.heap.size + 1 + 1) a cap zs [] [] 0 (((W.alloc (.cells #[.map none] 26)).alloc (.cells #[.slice none 0 0] 46)).alloc (.cells #[.slice a zs.length cap, .int .i64 0] 49)) := by
  refine ⟨TabIn.of (T := []) K rfl (((Kp.refl [] _).alloc _).alloc _), ⟨none, 0, ?_⟩, ?_⟩
  · exact ⟨(Bk.next (p := W.heap.size + 1) _ _ [.slice none 0 0] (by simp)).alloc _, ⟨rfl, .inl ⟨rfl, rfl⟩⟩, Nat.le_refl _, by simp, by simp⟩
  · exact ⟨Bk.next (p := W.heap.size + 1 + 1) _ _ [.slice a zs.length cap, .int .i64 0] (by simp), by have := K.size; omega, ((K.alloc _).alloc _).alloc _, hI, by omega⟩
/-- One thing's numbers. -/
theorem do_cells {w w' : World} {a : Option Addr} {len : Nat} {V : Nat → Nat → Value} (h : Recs w a len 4 V) (k : Kp [] w w') {j : Nat} (hj : j < len) : ∃ b off, a = some ⟨b, off, none⟩ ∧ ∀ i, i < 4 → w'.cell? ⟨b, off + (j * 4 + i), none⟩ = some (V j i) := by
  obtain ⟨_, hz | ⟨b, off, rfl, hc⟩⟩ := h
  · omega
  · exact ⟨b, off, rfl, fun i hi => k.cell (hc j i hj hi)⟩
/-- The two tables and the two places. -/
structure Pz (w : World) (t x p : Nat) (a : Option Addr) (cap : Nat) (zs : List Int) (L1 L2 : List Sl) (k A B : Nat) (an as1 bn bs : Int) (wx : World) : Prop where
  py : Py w t x p a cap zs L1 L2 k wx
  pa : Bk wx A 28 [.int .i64 an, .int .i64 as1]
  pb : Bk wx B 28 [.int .i64 bn, .int .i64 bs]
  nb : w.heap.size ≤ B
  ne : A ≠ B
theorem Pz.grew {w : World} {t x p : Nat} {a : Option Addr} {cap : Nat} {zs : List Int} {L1 L2 : List Sl} {k A B : Nat} {an as1 bn bs : Int} {wx wy : World} (h : Pz w t x p a cap zs L1 L2 k A B an as1 bn bs wx) (kp : Kp [] wx wy) : Pz w t x p a cap zs L1 L2 k A B an as1 bn bs wy := ⟨h.py.grew kp, h.pa.kept kp (by simp), h.pb.kept kp (by simp), h.nb, h.ne⟩
theorem Pz.turned {w : World} {t x p : Nat} {a : Option Addr} {cap : Nat} {zs : List Int} {L1 L2 L1' L2' : List Sl} {k k' A B : Nat} {an as1 bn bs : Int} {wx wy : World} (h : Pz w t x p a cap zs L1 L2 k A B an as1 bn bs wx) (q : Py w t x p a cap zs L1' L2' k' wy ∧ Ch wx wy) : Pz w t x p a cap zs L1' L2' k' A B an as1 bn bs wy := ⟨q.1, q.2.box h.pa, q.2.box h.pb, h.nb, h.ne⟩
/-- The second place is written. -/
theorem Pz.setB {w : World} {t x p : Nat} {a : Option Addr} {cap : Nat} {zs : List Int} {L1 L2 : List Sl} {k A B : Nat} {an as1 bn bs : Int} {wx : World} (h : Pz w t x p a cap zs L1 L2 k A B an as1 bn bs wx) (bn' bs' : Int) : Pz w t x p a cap zs L1 L2 k A B an as1 bn' bs' ((wx.setCell ⟨B, 0, none⟩ (.int .i64 bn')).setCell ⟨B, 1, none⟩ (.int .i64 bs')) := by
  have kb := kp_two (w := wx) (q := B) (.int .i64 bn') (.int .i64 bs')
  obtain ⟨ra, rc, r⟩ := h.py.rt
  obtain ⟨m, hp, _⟩ := h.py.tab.tab
  refine ⟨⟨h.py.tab.beside kb h.pb (h.pb.apart hp.head (by decide)) h.nb, ⟨ra, rc, r.kept kb (by simpa using r.head.apart h.pb (by decide)) (fun g hg mm => ?_)⟩, h.py.sq.kept kb (by simpa using h.py.sq.bk.apart h.pb (by decide)) (by simpa using h.nb)⟩, h.pa.kept kb (by simpa using h.ne), bk2 h.pb, h.nb, h.ne⟩
  rcases r.own.2 with ⟨e, _⟩ | ⟨g', c, cur, e, hb, hh, _⟩
  · rw [hg] at e; cases e
  · rw [hg] at e
    cases e
    have e2 : g = B := by simpa using mm
    subst e2
    have := h.pb
    unfold Bk at this
    rw [hh] at this
    simp at this
theorem pc_cells {w : World} {t x p : Nat} {a : Option Addr} {cap : Nat} {zs : List Int} {L1 L2 : List Sl} {k A B C : Nat} {an as1 bn bs ck co cz cb cr : Int} {wx : World} (h : Pz w t x p a cap zs L1 L2 k A B an as1 bn bs wx) (c : Bk wx C 31 [.int .i64 ck, .int .i64 co, .int .i64 cz, .int .i64 cb, .int .i64 cr]) : wx.cell? ⟨A, 0, none⟩ = some (.int .i64 an) ∧ wx.cell? ⟨A, 1, none⟩ = some (.int .i64 as1) ∧ wx.cell? ⟨B, 0, none⟩ = some (.int .i64 bn) ∧ wx.cell? ⟨B, 1, none⟩ = some (.int .i64 bs) ∧ wx.cell? ⟨C, 0, none⟩ = some (.int .i64 ck) ∧ wx.cell? ⟨C, 1, none⟩ = some (.int .i64 co) ∧ wx.cell? ⟨C, 2, none⟩ = some (.int .i64 cz) ∧ wx.cell? ⟨C, 3, none⟩ = some (.int .i64 cb) ∧ wx.cell? ⟨C, 4, none⟩ = some (.int .i64 cr) := ⟨h.pa.cell rfl, h.pa.cell rfl, h.pb.cell rfl, h.pb.cell rfl, c.cell rfl, c.cell rfl, c.cell rfl, c.cell rfl, c.cell rfl⟩
theorem Pz.cells {w : World} {t x p : Nat} {a : Option Addr} {cap : Nat} {zs : List Int} {L1 L2 : List Sl} {k A B : Nat} {an as1 bn bs : Int} {wx : World} (h : Pz w t x p a cap zs L1 L2 k A B an as1 bn bs wx) : wx.cell? ⟨A, 0, none⟩ = some (.int .i64 an) ∧ wx.cell? ⟨A, 1, none⟩ = some (.int .i64 as1) ∧ wx.cell? ⟨B, 0, none⟩ = some (.int .i64 bn) ∧ wx.cell? ⟨B, 1, none⟩ = some (.int .i64 bs) := ⟨h.pa.cell rfl, h.pa.cell rfl, h.pb.cell rfl, h.pb.cell rfl⟩
theorem psrc_three {w : World} {g : Nat} {n1 s1 n2 s2 n3 s3 : Int} (h : Bk w g 28 [.int .i64 n1, .int .i64 s1, .int .i64 n2, .int .i64 s2, .int .i64 n3, .int .i64 s3]) (c : Nat) : PSrc w (.slice (some ⟨g, 0, none⟩) 3 c) [(n1, s1), (n2, s2), (n3, s3)] :=
  .inr ⟨_, c, rfl, fun j u hu => by rw [Addr.add_mid, Nat.zero_add]; exact h.cell hu⟩
theorem capO_form (o : Option Sl) : ∃ k ob z b r : Int, capO o = .agg #[.int .i64 k, .int .i64 ob, .int .i64 z, .int .i64 b, .int .i64 r] := by
  cases o with
  | none => exact ⟨0, 0, 0, 0, 0, rfl⟩
  | some x => exact ⟨_, _, _, _, _, rfl⟩
end Go.Proofs.Ytdlkaaiedfikoaa
