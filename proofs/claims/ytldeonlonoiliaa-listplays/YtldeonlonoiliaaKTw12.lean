/- The program's list and the document's, beside one another. -/
import Derived.Test.YtldeonlonoiliaaKLsIn
import Derived.Test.YtldeonlonoiliaaKSameL
import Derived.Test.YtldeonlonoiliaaKArgs
namespace Go.Proofs.Ytldeonlonoiliaa
open Go.RowKit
set_option linter.unusedVariables false
/-- The program's list at t, the document's at the next block. -/
structure Tl (w : World) (t : Nat) (L M : List (Int × Int)) (wx : World) : Prop where
  p : LIn w t L wx
  d : ∃ a cap, RL (t + 1) wx (t + 1) a cap M
theorem Tl.grew {w : World} {t : Nat} {L M : List (Int × Int)} {wx wy : World} (h : Tl w t L M wx) (k : Kp [] wx wy) : Tl w t L M wy := by
  obtain ⟨a, cap, hr⟩ := h.d
  exact ⟨h.p.grew k, a, cap, hr.grew k⟩
theorem Tl.turnP {w : World} {t : Nat} {L L' M : List (Int × Int)} {wx wy : World} (h : Tl w t L M wx) (X : LIn w t L' wy) (S : Lch w t wx wy) : Tl w t L' M wy := by
  obtain ⟨a, cap, hr⟩ := h.d
  exact ⟨X, a, cap, ⟨S.bk hr.head (by omega), S.ro hr.rd (fun g hg => by have := (hr.rd.lt hg).1; omega), hr.new, hr.small⟩⟩
theorem Tl.turnD {w : World} {t : Nat} {L M M' : List (Int × Int)} {wx wy : World} (h : Tl w t L M wx) (X : ∃ a cap, RL (t + 1) wy (t + 1) a cap M') (K : Kp [t + 1] wx wy) : Tl w t L M' wy := by
  obtain ⟨a, cap, hr⟩ := h.d
  exact ⟨h.p.beside K hr.head (by omega) (by have := h.p.new; omega), X⟩
theorem Tl.lt {w : World} {t : Nat} {L M : List (Int × Int)} {wx : World} (h : Tl w t L M wx) : t + 1 < wx.heap.size := by
  obtain ⟨a, cap, hr⟩ := h.d
  exact hr.head.lt
theorem Tl.start {w W : World} {t : Nat} (k : Kp [] w W) (ht : W.heap.size = t) : Tl w t [] [] ((W.alloc (.cells #[.map none, .int .i64 0, .int .i64 0] 28)).alloc (.cells #[.slice none 0 0] 31)) := by
  refine ⟨LIn.of k ht.symm ((Kp.refl [] _).alloc _), none, 0, ?_⟩
  have := RL.start (t + 1) (W.alloc (.cells #[.map none, .int .i64 0, .int .i64 0] 28)) (by simp [ht])
  simp only [World.size_alloc, ht] at this
  exact this
/-- Both answer the same, and have the same. -/
structure BoL (L : List (Int × Int)) (args : List Value) (fp fd : Nat) (v : Value) (L' : List (Int × Int)) : Prop where
  prog : ∀ {w wr : World} {t : Nat}, LIn w t L wr → Calls Try.prog fp (.pointer (some ⟨t, 0, none⟩) :: args).toArray wr (LsC w t L' wr v)
  doc : ∀ {base : Nat} {wr : World} {y : Nat} {a : Option Addr} {cap : Nat}, RL base wr y a cap L → Calls Try.prog fd (.pointer (some ⟨y, 0, none⟩) :: args).toArray wr (RLP base y wr v L')
  len : L'.length ≤ L.length + 1
theorem bothl_push {L : List (Int × Int)} {q1 q2 : Int} (hi : IdIn (q1, q2)) (hL : L.length < 65536) :
    ∃ v L', BoL L [.agg #[.int .i64 q1, .int .i64 q2]] 12 13 (.bool v) L' := by
  refine ⟨!lHas L (q1, q2), lPush L (q1, q2), ⟨fun h => lpush h hi hL rfl rfl, fun h => ?_, lPush_len _ _⟩⟩
  by_cases hq : (q1, q2) ∈ L
  · rw [lHas_yes hq, lPush_no hq]
    refine (rlpush_no h hq).mono ?_
    rintro e w' ⟨rfl, K⟩
    exact .same h K
  · rw [lHas_no hq, lPush_yes hq]
    exact rlpush_yes h hq hL
theorem bothl_drop {L : List (Int × Int)} {q1 q2 : Int} (hi : IdIn (q1, q2)) (hnd : L.Nodup) :
    ∃ v L', BoL L [.agg #[.int .i64 q1, .int .i64 q2]] 10 11 (.bool v) L' := by
  refine ⟨lHas L (q1, q2), lDel L (q1, q2), ⟨fun h => ldrop h hi rfl rfl, fun h => ?_, by have := lDel_len L (q1, q2); omega⟩⟩
  by_cases hq : (q1, q2) ∈ L
  · rw [lHas_yes hq]
    exact rldrop_yes h hnd hq
  · rw [lHas_no hq, lDel_same hq]
    refine (rldrop_no h hq).mono ?_
    rintro e w' ⟨rfl, K⟩
    exact .same h K
theorem bothl_pop (L : List (Int × Int)) :
    ∃ q1 q2 v L', BoL L [] 8 9 (.tuple #[.agg #[.int .i64 q1, .int .i64 q2], .bool v]) L' := by
  refine ⟨(lFst L).1, (lFst L).2, !L.isEmpty, L.tail, ⟨fun h => lpop h rfl rfl rfl, fun h => ?_, by rw [List.length_tail]; omega⟩⟩
  cases L with
  | nil =>
    refine (rlpop_no h).mono ?_
    rintro e w' ⟨rfl, K⟩
    exact .same h K
  | cons x T =>
    obtain ⟨x1, x2⟩ := x
    exact rlpop_yes h
/-- Both, the ID's box. -/
structure Tb12 (w : World) (t : Nat) (L M : List (Int × Int)) (A : Nat) (q1 q2 : Int) (wx : World) : Prop where
  tl : Tl w t L M wx
  b : Bk wx A 26 [.int .i64 q1, .int .i64 q2]
  gt : t + 1 < A
theorem Tb12.grew {w : World} {t : Nat} {L M : List (Int × Int)} {A : Nat} {q1 q2 : Int} {wx wy : World} (h : Tb12 w t L M A q1 q2 wx) (k : Kp [] wx wy) : Tb12 w t L M A q1 q2 wy := ⟨h.tl.grew k, h.b.kept k (by simp), h.gt⟩
theorem Tb12.turnP {w : World} {t : Nat} {L L' M : List (Int × Int)} {A : Nat} {q1 q2 : Int} {wx wy : World} (h : Tb12 w t L M A q1 q2 wx) (X : LIn w t L' wy) (S : Lch w t wx wy) : Tb12 w t L' M A q1 q2 wy := ⟨h.tl.turnP X S, S.bk h.b (by have := h.gt; omega), h.gt⟩
theorem Tb12.turnD {w : World} {t : Nat} {L M M' : List (Int × Int)} {A : Nat} {q1 q2 : Int} {wx wy : World} (h : Tb12 w t L M A q1 q2 wx) (X : ∃ a cap, RL (t + 1) wy (t + 1) a cap M') (K : Kp [t + 1] wx wy) : Tb12 w t L M' A q1 q2 wy := ⟨h.tl.turnD X K, h.b.kept K (by have := h.gt; simp; omega), h.gt⟩
theorem Tb12.cells {w : World} {t : Nat} {L M : List (Int × Int)} {A : Nat} {q1 q2 : Int} {wx : World} (h : Tb12 w t L M A q1 q2 wx) : wx.cell? ⟨A, 0, none⟩ = some (.int .i64 q1) ∧ wx.cell? ⟨A, 1, none⟩ = some (.int .i64 q2) := ⟨h.b.cell rfl, h.b.cell rfl⟩
theorem Tl.box {w : World} {t : Nat} {L M : List (Int × Int)} {wx : World} (h : Tl w t L M wx) (q1 q2 : Int) : Tb12 w t L M wx.heap.size q1 q2 (wx.alloc (.cells #[.int .i64 q1, .int .i64 q2] 26)) :=
  ⟨h.grew ((Kp.refl [] _).alloc _), Bk.new wx _ [.int .i64 q1, .int .i64 q2], h.lt⟩
theorem do3_l {w w' : World} {a : Option Addr} {len : Nat} {V : Nat → Nat → Value} (h : Recs w a len 3 V) (k : Kp [] w w') {j : Nat} (hj : j < len) : ∃ b off, a = some ⟨b, off, none⟩ ∧ ∀ i, i < 3 → w'.cell? ⟨b, off + (j * 3 + i), none⟩ = some (V j i) := by
  obtain ⟨_, hz | ⟨b, off, rfl, hc⟩⟩ := h
  · omega
  · exact ⟨b, off, rfl, fun i hi => k.cell (hc j i hj hi)⟩
/-- Three integers a thing. -/
def ThreeL (V : Nat → Nat → Value) (len : Nat) : Prop := ∀ i, i < len → (∃ n, V i 0 = .int .i64 n ∧ (Lit.int .i64 n).wf = true) ∧ (∃ n, V i 1 = .int .i64 n ∧ (Lit.int .i64 n).wf = true) ∧ (∃ n, V i 2 = .int .i64 n ∧ (Lit.int .i64 n).wf = true)
end Go.Proofs.Ytldeonlonoiliaa
