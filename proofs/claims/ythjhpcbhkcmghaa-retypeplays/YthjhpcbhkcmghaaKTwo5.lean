/- The program's table and the document's, beside one another. -/
import Derived.Test.YthjhpcbhkcmghaaKTabIn
import Derived.Test.YthjhpcbhkcmghaaKRefuse
import Derived.Test.YthjhpcbhkcmghaaKTab9
import Derived.Test.YthjhpcbhkcmghaaKMkCap
import Derived.Test.YthjhpcbhkcmghaaKSamePl
namespace Go.Proofs.Ythjhpcbhkcmghaa
open Go.RowKit
set_option linter.unusedVariables false
/-- What a change of the document's table leaves. -/
def RInP (base : Nat) (x : Nat) (L : List Sl) (w : World) (v : Value) (e : Ending) (w' : World) : Prop := e = .returned v ∧ (∃ ra rc, RT base w' x ra rc L) ∧ Kp [x] w w'
theorem rin_of {base x : Nat} {L : List Sl} {w : World} {e : Ending} {w' : World} (h : PutP base w x L e w') : RInP base x L w (.bool true) e w' := by
  obtain ⟨he, a, c, r, k⟩ := h
  exact ⟨he, ⟨a, c, r⟩, k⟩
/-- A thing done in both: the same answer, the same slots. -/
structure Both (w : World) (t x : Nat) (L L' : List Sl) (v : Bool) (f g : FuncId) (xs : List Value) : Prop where
  prog : ∀ wr, TabIn w t L wr → Calls Try.prog f (.pointer (some ⟨t, 0, none⟩) :: xs).toArray wr (TInP w t L' wr (.bool v))
  doc : ∀ wr ra rc, RT (t + 1) wr x ra rc L → Calls Try.prog g (.pointer (some ⟨x, 0, none⟩) :: xs).toArray wr (RInP (t + 1) x L' wr (.bool v))
  len : L'.length ≤ L.length + 1
theorem Kp.one {w w' : World} {x : Nat} (k : Kp [] w w') : Kp [x] w w' := k.mono (by simp)
theorem both_put {w : World} {t x : Nat} {L : List Sl} (hL : L.length < 65536) {n s k o z b r u v : Int} (hi : PIn (n, s)) (hu : PIn (u, v)) :
    ∃ is L', Both w t x L L' is 10 11 [.agg #[.int .i64 n, .int .i64 s], .agg #[.int .i64 k, .int .i64 o, .int .i64 z, .int .i64 b, .int .i64 r], .agg #[.int .i64 u, .int .i64 v]] := by
  by_cases hp : putP L n s k o z b r u v
  · refine ⟨true, _, fun wr h => tput_yes h hi hu hp hL rfl, fun wr ra rc h => (rput_yes h n s k o z b r u v hp hL).mono fun e w' q => rin_of q, ?_⟩
    rw [(ins_perm L _).length_eq]
    simp
  · exact ⟨false, L, fun wr h => tput_no h hi hu hp, fun wr ra rc h => (rput_no h n s k o z b r u v hp).mono fun e w' q => ⟨q.1, ⟨ra, rc, h.grew q.2⟩, q.2.one⟩, by omega⟩
theorem both_drop {w : World} {t x : Nat} {L : List Sl} {n s : Int} (hi : PIn (n, s)) :
    ∃ is L', Both w t x L L' is 13 14 [.agg #[.int .i64 n, .int .i64 s]] := by
  cases ha : atL L n s with
  | none => exact ⟨false, L, fun wr h => tdrop_no h hi ha, fun wr ra rc h => (rdrop_no h n s ha).mono fun e w' q => ⟨q.1, ⟨ra, rc, h.grew q.2⟩, q.2.one⟩, by omega⟩
  | some i =>
    obtain ⟨y, hy, _⟩ := atL_some ha
    exact ⟨true, _, fun wr h => tdrop_yes h ha hy rfl, fun wr ra rc h => (rdrop_yes h n s ha hy).mono fun e w' q => rin_of q, by have := drop_len L n s i y; omega⟩
/-- What the document's table tells, by what lies at a place. -/
theorem rget_to {base x : Nat} {wr : World} {ra : Option Addr} {rc : Nat} {L : List Sl} (h : RT base wr x ra rc L) (n s : Int) :
    Calls Try.prog 12 #[.pointer (some ⟨x, 0, none⟩), .agg #[.int .i64 n, .int .i64 s]] wr fun e w' => e = .returned (.tuple #[capO (lookS L n s), .bool (lookS L n s).isSome]) ∧ Kp [] wr w' := by
  unfold lookS
  cases ha : atL L n s with
  | none => exact rget_no h n s ha
  | some i =>
    obtain ⟨y, hy, _⟩ := atL_some ha
    simp only [hy]
    exact rget_yes h n s ha hy
end Go.Proofs.Ythjhpcbhkcmghaa
