/- The program's queue and the document's, beside one another. -/
import Derived.Test.YtennmoaaieedpaaKQIn
import Derived.Test.YtennmoaaieedpaaKArgs
namespace Go.Proofs.Ytennmoaaieedpaa
open Go.RowKit
set_option linter.unusedVariables false
/-- The program's queue at t, the document's at the next block. -/
structure Tq (w : World) (t : Nat) (L : List (Int × Int)) (wx : World) : Prop where
  p : QIn [] w t L wx
  d : ∃ a cap, RQ (t + 1) wx (t + 1) a cap L
theorem Tq.grew {w : World} {t : Nat} {L : List (Int × Int)} {wx wy : World} (h : Tq w t L wx) (k : Kp [] wx wy) : Tq w t L wy := by
  obtain ⟨a, cap, hr⟩ := h.d
  exact ⟨h.p.grew k, a, cap, hr.grew k⟩
theorem Tq.lt {w : World} {t : Nat} {L : List (Int × Int)} {wx : World} (h : Tq w t L wx) : t + 1 < wx.heap.size := by
  obtain ⟨a, cap, hr⟩ := h.d
  exact hr.lt
/-- Between the two calls: the program's has turned. -/
structure Tm (w : World) (t : Nat) (L M : List (Int × Int)) (wx : World) : Prop where
  p : QIn [] w t L wx
  d : ∃ a cap, RQ (t + 1) wx (t + 1) a cap M
theorem Tq.turnP {w : World} {t : Nat} {L L' : List (Int × Int)} {wx wy : World} (h : Tq w t L wx) (X : QIn [] w t L' wy) (S : Qch [] w t wx wy) : Tm w t L' L wy := by
  obtain ⟨a, cap, hr⟩ := h.d
  exact ⟨X, a, cap, ⟨S.bk hr.head (by omega) (.inl (by decide)), S.rw hr.own (fun g hg => ⟨by have := (hr.own.lt hg).1; omega, .inl (by decide)⟩), hr.new, hr.small⟩⟩
theorem Tm.turnD {w : World} {t : Nat} {L M : List (Int × Int)} {wx wy : World} (h : Tm w t L M wx) (X : ∃ a cap, RQ (t + 1) wy (t + 1) a cap L) (K : Kp [t + 1] wx wy) : Tq w t L wy := by
  obtain ⟨a, cap, hr⟩ := h.d
  exact ⟨h.p.beside K hr.head (by omega) (.inl (by decide)) (by have := h.p.new; omega), X⟩
theorem Tq.start {w W : World} {t : Nat} (k : Kp [] w W) (ht : W.heap.size = t) : Tq w t [] ((W.alloc (.cells #[.slice none 0 0, .slice none 0 0, .slice none 0 0, .slice none 0 0, .slice none 0 0, .slice none 0 0, .slice none 0 0, .slice none 0 0] 27)).alloc (.cells #[.slice none 0 0] 30)) := by
  refine ⟨QIn.of k ht.symm ((Kp.refl [] _).alloc _), none, 0, ?_⟩
  have := RQ.start (t + 1) (W.alloc (.cells #[.slice none 0 0, .slice none 0 0, .slice none 0 0, .slice none 0 0, .slice none 0 0, .slice none 0 0, .slice none 0 0, .slice none 0 0] 27)) (by simp [ht])
  simp only [World.size_alloc, ht] at this
  exact this
/-- Both answer the same, and have the same. -/
structure BoQ (L : List (Int × Int)) (args : List Value) (fp fd : Nat) (v : Value) (L' : List (Int × Int)) : Prop where
  prog : ∀ {N : List Nat} {w wr : World} {t : Nat}, QIn N w t L wr → Calls Try.prog fp (.pointer (some ⟨t, 0, none⟩) :: args).toArray wr (QInC N w t L' wr v)
  doc : ∀ {base : Nat} {wr : World} {y : Nat} {a : Option Addr} {cap : Nat}, RQ base wr y a cap L → Calls Try.prog fd (.pointer (some ⟨y, 0, none⟩) :: args).toArray wr (RQP base y wr v L')
  len : L'.length ≤ L.length + 1
  ok : QOk L'
theorem bothq_add {L : List (Int × Int)} (hq : QOk L) (hL : L.length < 65536) (t p : Int) :
    ∃ v L', BoQ L [.int .i64 t, .int .i64 p] 8 9 (.bool v) L' := by
  refine ⟨_, _, ⟨fun h => qadd_in h hL rfl rfl, fun h => rqadd h hL rfl rfl, ?_, ?_⟩⟩ <;>
  · cases e : qAdd L t p with
    | none => first | exact hq | exact Nat.le_succ _
    | some M => have := qAdd_ok hq e; first | exact this.1 | exact Nat.le_of_eq this.2
theorem bothq_rem {L : List (Int × Int)} (hq : QOk L) (t : Int) :
    ∃ v L', BoQ L [.int .i64 t] 10 11 (.bool v) L' :=
  ⟨_, _, ⟨fun h => qrem_in h rfl rfl, fun h => rqrem hq h rfl rfl, Nat.le_succ_of_le (qDel_len L t), hq.del t⟩⟩
theorem bothq_set {L : List (Int × Int)} (hq : QOk L) (t p : Int) :
    ∃ v L', BoQ L [.int .i64 t, .int .i64 p] 12 13 (.bool v) L' := by
  refine ⟨_, _, ⟨fun h => qset_in h rfl rfl, fun h => rqset hq h rfl rfl, ?_, ?_⟩⟩ <;>
  · cases e : qSet L t p with
    | none => first | exact hq | exact Nat.le_succ _
    | some M => have := qSet_ok hq e; first | exact this.1 | exact Nat.le_succ_of_le this.2
theorem bothq_pick {L : List (Int × Int)} (hq : QOk L) (i : Int) :
    ∃ (t : Int) (is : Bool) (L' : List (Int × Int)), BoQ L [.int .i64 i] 14 15 (.tuple #[.int .i64 t, .bool is]) L' :=
  ⟨_, _, _, ⟨fun h => qpick_in h rfl rfl rfl, fun h => rqpick hq h rfl rfl rfl, Nat.le_succ_of_le (qPicked_ok hq rfl).2, (qPicked_ok hq rfl).1⟩⟩
/-- Both, and the thing's box. -/
structure Tz (w : World) (t : Nat) (L : List (Int × Int)) (A : Nat) (k s n : Int) (wx : World) : Prop where
  tq : Tq w t L wx
  a : Bk wx A 32 [.int .i64 k, .int .i64 s, .int .i64 n]
  gt : t + 1 < A
structure Ty (w : World) (t : Nat) (L M : List (Int × Int)) (A : Nat) (k s n : Int) (wx : World) : Prop where
  tq : Tm w t L M wx
  a : Bk wx A 32 [.int .i64 k, .int .i64 s, .int .i64 n]
  gt : t + 1 < A
theorem Tz.grew {w : World} {t : Nat} {L : List (Int × Int)} {A : Nat} {k s n : Int} {wx wy : World} (h : Tz w t L A k s n wx) (kp : Kp [] wx wy) : Tz w t L A k s n wy := ⟨h.tq.grew kp, h.a.kept kp (by simp), h.gt⟩
theorem Tz.turnP {w : World} {t : Nat} {L L' : List (Int × Int)} {A : Nat} {k s n : Int} {wx wy : World} (h : Tz w t L A k s n wx) (X : QIn [] w t L' wy) (S : Qch [] w t wx wy) : Ty w t L' L A k s n wy :=
  ⟨h.tq.turnP X S, S.bk h.a (by have := h.gt; omega) (.inl (by decide)), h.gt⟩
theorem Ty.turnD {w : World} {t : Nat} {L M : List (Int × Int)} {A : Nat} {k s n : Int} {wx wy : World} (h : Ty w t L M A k s n wx) (X : ∃ a cap, RQ (t + 1) wy (t + 1) a cap L) (K : Kp [t + 1] wx wy) : Tz w t L A k s n wy :=
  ⟨h.tq.turnD X K, h.a.kept K (by have := h.gt; simp; omega), h.gt⟩
theorem Tz.cells {w : World} {t : Nat} {L : List (Int × Int)} {A : Nat} {k s n : Int} {wx : World} (h : Tz w t L A k s n wx) : wx.cell? ⟨A, 0, none⟩ = some (.int .i64 k) ∧ wx.cell? ⟨A, 1, none⟩ = some (.int .i64 s) ∧ wx.cell? ⟨A, 2, none⟩ = some (.int .i64 n) :=
  ⟨h.a.cell rfl, h.a.cell rfl, h.a.cell rfl⟩
theorem Ty.cells {w : World} {t : Nat} {L M : List (Int × Int)} {A : Nat} {k s n : Int} {wx : World} (h : Ty w t L M A k s n wx) : wx.cell? ⟨A, 0, none⟩ = some (.int .i64 k) ∧ wx.cell? ⟨A, 1, none⟩ = some (.int .i64 s) ∧ wx.cell? ⟨A, 2, none⟩ = some (.int .i64 n) :=
  ⟨h.a.cell rfl, h.a.cell rfl, h.a.cell rfl⟩
theorem Tq.box {w : World} {t : Nat} {L : List (Int × Int)} {wx : World} (h : Tq w t L wx) (k s n : Int) : Tz w t L wx.heap.size k s n (wx.alloc (.cells #[.int .i64 k, .int .i64 s, .int .i64 n] 32)) :=
  ⟨h.grew ((Kp.refl [] _).alloc _), Bk.new wx _ [.int .i64 k, .int .i64 s, .int .i64 n], h.lt⟩
theorem do3_q {w w' : World} {a : Option Addr} {len : Nat} {V : Nat → Nat → Value} (h : Recs w a len 3 V) (k : Kp [] w w') {j : Nat} (hj : j < len) : ∃ b off, a = some ⟨b, off, none⟩ ∧ ∀ i, i < 3 → w'.cell? ⟨b, off + (j * 3 + i), none⟩ = some (V j i) := by
  obtain ⟨_, hz | ⟨b, off, rfl, hc⟩⟩ := h
  · omega
  · exact ⟨b, off, rfl, fun i hi => k.cell (hc j i hj hi)⟩
/-- Three integers a thing. -/
def ThreeQ (V : Nat → Nat → Value) (len : Nat) : Prop := ∀ i, i < len → (∃ n, V i 0 = .int .i64 n ∧ (Lit.int .i64 n).wf = true) ∧ (∃ n, V i 1 = .int .i64 n ∧ (Lit.int .i64 n).wf = true) ∧ (∃ n, V i 2 = .int .i64 n ∧ (Lit.int .i64 n).wf = true)
end Go.Proofs.Ytennmoaaieedpaa
