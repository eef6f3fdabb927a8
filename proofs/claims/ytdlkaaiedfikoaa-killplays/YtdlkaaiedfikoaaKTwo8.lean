/- The program's table and the document's, beside one another: deleted, revoked. -/
import Derived.Test.YtdlkaaiedfikoaaKTwo5
import Derived.Test.YtdlkaaiedfikoaaKLaw8
import Derived.Test.YtdlkaaiedfikoaaKKill1
import Derived.Test.YtdlkaaiedfikoaaKSameO
import Derived.Test.YtdlkaaiedfikoaaKRef
namespace Go.Proofs.Ytdlkaaiedfikoaa
open Go.RowKit
set_option linter.unusedVariables false
/-- A thing done in both: the same is gone, the same slots are left. -/
structure BothK (w : World) (t x : Nat) (L : List Sl) (R : List (Int × Int) × List Sl × Int) (f g : FuncId) (xs : List Value) : Prop where
  prog : ∀ wr, TabIn w t L wr → Calls Try.prog f (.pointer (some ⟨t, 0, none⟩) :: xs).toArray wr (KlP w t R wr)
  doc : ∀ wr ra rc, RT (t + 1) wr x ra rc L → Calls Try.prog g (.pointer (some ⟨x, 0, none⟩) :: xs).toArray wr (DelP (t + 1) x wr R)
  len : R.1.length + R.2.1.length ≤ L.length
theorem bothK_del {w : World} {t x : Nat} {L : List Sl} {n s : Int} (hi : PIn (n, s)) :
    ∃ R, BothK w t x L R 12 17 [.agg #[.int .i64 n, .int .i64 s]] :=
  ⟨_, fun wr h => kdelete h (Nat.le_refl _) hi rfl, fun wr ra rc h => rdelete L.length h (Nat.le_refl _) n s, delF_len _ _ _ _⟩
theorem revR_len (m : Nat) (L : List Sl) (n s : Int) : (revR m L n s).1.length + (revR m L n s).2.1.length ≤ L.length := by
  unfold revR
  split
  · exact revF_len m L n s
  · simp
theorem bothK_rev {w : World} {t x : Nat} {L : List Sl} {n s : Int} (hi : PIn (n, s)) :
    ∃ R, BothK w t x L R 14 19 [.agg #[.int .i64 n, .int .i64 s]] :=
  ⟨_, fun wr h => krevoke h (Nat.le_refl _) hi rfl, fun wr ra rc h => rrevoke h (Nat.le_refl _) n s, revR_len _ _ _ _⟩
/-- Both tables, the numbers; a place's box. -/
structure Pa8 (w : World) (t x p : Nat) (a : Option Addr) (cap : Nat) (zs : List Int) (L1 L2 : List Sl) (k A : Nat) (an as1 : Int) (wx : World) : Prop where
  py : Py w t x p a cap zs L1 L2 k wx
  pa : Bk wx A 28 [.int .i64 an, .int .i64 as1]
theorem Pa8.grew {w : World} {t x p : Nat} {a : Option Addr} {cap : Nat} {zs : List Int} {L1 L2 : List Sl} {k A : Nat} {an as1 : Int} {wx wy : World} (h : Pa8 w t x p a cap zs L1 L2 k A an as1 wx) (kp : Kp [] wx wy) : Pa8 w t x p a cap zs L1 L2 k A an as1 wy := ⟨h.py.grew kp, h.pa.kept kp (by simp)⟩
theorem Pa8.turned {w : World} {t x p : Nat} {a : Option Addr} {cap : Nat} {zs : List Int} {L1 L2 L1' L2' : List Sl} {k k' A : Nat} {an as1 : Int} {wx wy : World} (h : Pa8 w t x p a cap zs L1 L2 k A an as1 wx) (q : Py w t x p a cap zs L1' L2' k' wy ∧ Ch wx wy) : Pa8 w t x p a cap zs L1' L2' k' A an as1 wy := ⟨q.1, q.2.box h.pa⟩
/-- A block beside the two tables and the numbers was written. -/
theorem Py.other {w : World} {t x p : Nat} {a : Option Addr} {cap : Nat} {zs : List Int} {L1 L2 : List Sl} {k g : Nat} {T : TypeId} {vs : List Value} {wx wy : World} (h : Py w t x p a cap zs L1 L2 k wx) (kb : Kp [g] wx wy) (b : Bk wx g T vs) (h1 : T ≠ 26) (h2 : T ≠ 46) (h3 : T ≠ 49) (h4 : T ≠ 83) (hn : w.heap.size ≤ g) : Py w t x p a cap zs L1 L2 k wy := by
  obtain ⟨ra, rc, r⟩ := h.rt
  obtain ⟨m, hp, _⟩ := h.tab.tab
  refine ⟨h.tab.beside kb b (b.apart hp.head h1) hn, ⟨ra, rc, r.kept kb (by simpa using r.head.apart b h2.symm) (fun g' hg mm => ?_)⟩, h.sq.kept kb (by simpa using h.sq.bk.apart b h3.symm) (by simpa using hn)⟩
  rcases r.own.2 with ⟨e, _⟩ | ⟨g2, c, cur, e, hb, hh, _⟩
  · rw [hg] at e; cases e
  · rw [hg] at e
    cases e
    have e2 : g' = g := by simpa using mm
    subst e2
    have := b
    unfold Bk at this
    rw [hh] at this
    injection this with q
    injection q with q1 q2
    exact h4 q2.symm
theorem kp_five {w : World} {q : Nat} (c0 c1 c2 c3 c4 : Value) : Kp [q] w (((((w.setCell ⟨q, 0, none⟩ c0).setCell ⟨q, 1, none⟩ c1).setCell ⟨q, 2, none⟩ c2).setCell ⟨q, 3, none⟩ c3).setCell ⟨q, 4, none⟩ c4) := kp_put5 (Kp.refl [q] w) (.inl (by simp)) c0 c1 c2 c3 c4
/-- The place of a number. -/
def plA (n : Int) : Int × Int := (1 + n % 64 / 16, n % 64 % 16)
theorem plA_in (n : Int) : PIn (plA n) := pin8 (by show _ ≤ 1 + n % 64 / 16; omega) (by show 1 + n % 64 / 16 ≤ _; omega) (by show _ ≤ n % 64 % 16; omega) (by show n % 64 % 16 ≤ _; omega)
set_option maxHeartbeats 400000 in
theorem at8_to {n p q : Int} (w : World) (h : plA n = (p, q)) :
    Calls Try.prog 16 #[.int .i64 n] w fun e w' => e = .returned (.agg #[.int .i64 p, .int .i64 q]) ∧ Kp [] w w' := by
  obtain ⟨m, hm⟩ : ∃ m : Nat, n % 64 = (m : Int) := ⟨(n % 64).toNat, by omega⟩
  unfold plA at h
  rw [hm] at h
  have e1 : 1 + (m : Int) / 16 = p := congrArg Prod.fst h
  have e2 : (m : Int) % 16 = q := congrArg Prod.snd h
  have w1 : IntKind.i64.wrap (1 + (m : Int) / 16) = p := by rw [IntKind.wrap_i64]; omega
  have m1 : m < 64 := by omega
  replace hm := hide hm
  clear h
  go_enter Try.func16, Try.ntmps16
  go_wp2_with fail
  refine (number_to _ _ _ _ (by omega) (by omega) (unhide hm)).mono ?_
  rintro e w1 ⟨rfl, rfl⟩
  go_wp2
  refine bodyPost_ret (v := .agg #[.int .i64 p, .int .i64 q]) (by simp [results, Try.results16, go_sem, *]) rfl ⟨rfl, ?_⟩
  exact (Kp.refl [] _).alloc _
/-- .. and the capability's box, and the parent's. -/
structure Pd8 (w : World) (t x p : Nat) (a : Option Addr) (cap : Nat) (zs : List Int) (L1 L2 : List Sl) (k A C U : Nat) (an as1 ck co cz cb cr un us : Int) (wx : World) : Prop where
  pa : Pa8 w t x p a cap zs L1 L2 k A an as1 wx
  c : Bk wx C 31 [.int .i64 ck, .int .i64 co, .int .i64 cz, .int .i64 cb, .int .i64 cr]
  u : Bk wx U 28 [.int .i64 un, .int .i64 us]
theorem Pd8.grew {w : World} {t x p : Nat} {a : Option Addr} {cap : Nat} {zs : List Int} {L1 L2 : List Sl} {k A C U : Nat} {an as1 ck co cz cb cr un us : Int} {wx wy : World} (h : Pd8 w t x p a cap zs L1 L2 k A C U an as1 ck co cz cb cr un us wx) (kp : Kp [] wx wy) : Pd8 w t x p a cap zs L1 L2 k A C U an as1 ck co cz cb cr un us wy := ⟨h.pa.grew kp, h.c.kept kp (by simp), h.u.kept kp (by simp)⟩
theorem Pd8.turned {w : World} {t x p : Nat} {a : Option Addr} {cap : Nat} {zs : List Int} {L1 L2 L1' L2' : List Sl} {k k' A C U : Nat} {an as1 ck co cz cb cr un us : Int} {wx wy : World} (h : Pd8 w t x p a cap zs L1 L2 k A C U an as1 ck co cz cb cr un us wx) (q : Py w t x p a cap zs L1' L2' k' wy ∧ Ch wx wy) : Pd8 w t x p a cap zs L1' L2' k' A C U an as1 ck co cz cb cr un us wy := ⟨h.pa.turned q, q.2.cap h.c, q.2.box h.u⟩
theorem Pd8.cells {w : World} {t x p : Nat} {a : Option Addr} {cap : Nat} {zs : List Int} {L1 L2 : List Sl} {k A C U : Nat} {an as1 ck co cz cb cr un us : Int} {wx : World} (h : Pd8 w t x p a cap zs L1 L2 k A C U an as1 ck co cz cb cr un us wx) : wx.cell? ⟨A, 0, none⟩ = some (.int .i64 an) ∧ wx.cell? ⟨A, 1, none⟩ = some (.int .i64 as1) ∧ wx.cell? ⟨U, 0, none⟩ = some (.int .i64 un) ∧ wx.cell? ⟨U, 1, none⟩ = some (.int .i64 us) ∧ wx.cell? ⟨C, 0, none⟩ = some (.int .i64 ck) ∧ wx.cell? ⟨C, 1, none⟩ = some (.int .i64 co) ∧ wx.cell? ⟨C, 2, none⟩ = some (.int .i64 cz) ∧ wx.cell? ⟨C, 3, none⟩ = some (.int .i64 cb) ∧ wx.cell? ⟨C, 4, none⟩ = some (.int .i64 cr) :=
  ⟨h.pa.pa.cell rfl, h.pa.pa.cell rfl, h.u.cell rfl, h.u.cell rfl, h.c.cell rfl, h.c.cell rfl, h.c.cell rfl, h.c.cell rfl, h.c.cell rfl⟩
end Go.Proofs.Ytdlkaaiedfikoaa
