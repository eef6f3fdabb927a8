/- The program's list since a world: what a walk carries along; the chapter's examples. -/
import Derived.Test.YtgahekhlbcnmaaaKRLst3
namespace Go.Proofs.Ytgahekhlbcnmaaa
open Go.RowKit
set_option linter.unusedVariables false
/-- Since w: at y there is the program's list of these, in memory that is new since w. -/
structure LIg (w : World) (y o : Nat) (U : TypeId) (pre post : List Value) (L : List (Int × Int)) (wr : World) : Prop where
  kp : Kp [] w wr
  pl : ∃ m f, PL wr y o U pre post m f L ∧ ∀ b, m = some b → w.heap.size ≤ b
  new : w.heap.size ≤ y
/-- .. as an object of its own. -/
abbrev LIn (w : World) (y : Nat) (L : List (Int × Int)) (wr : World) : Prop := LIg w y 0 29 [] [] L wr
/-- What a change of the list at y leaves alone. -/
structure Lch (w : World) (y : Nat) (wr w' : World) : Prop where
  size : wr.heap.size ≤ w'.heap.size
  cells : ∀ k c U z, wr.heap[k]? = some (.cells c U z) → k ≠ y → w'.heap[k]? = some (.cells c U z)
  kp : Kp [] w wr → Kp [] w w'
theorem Lch.of {w wr w' : World} {y : Nat} (k : Kp [] wr w') : Lch w y wr w' := ⟨k.size, fun i c U z h _ => (k.block i (Array.getElem?_eq_some_iff.1 h).1 (by simp)).trans h, fun h => h.then k⟩
theorem Lch.bk {w wr w' : World} {y g : Nat} {T : TypeId} {vs : List Value} (h : Lch w y wr w') (b : Bk wr g T vs) (hg : g ≠ y) : Bk w' g T vs := h.cells g _ _ _ b hg
theorem Lch.ro {w wr w' : World} {y : Nat} {α : Type} {T : TypeId} {sz : Nat} {E : Gr.Enc α T sz} {base : Nat} {v : Value} {L : List α} (h : Lch w y wr w') (r : Gr.Ro E base wr v L) (hg : ∀ g, v.ownBlock = some g → g ≠ y) : Gr.Ro E base w' v L := by
  rcases r with hz | ⟨g, off, c, cs, e, hb, h1, h2, hh, hc⟩
  · exact .inl hz
  · exact .inr ⟨g, off, c, cs, e, hb, h1, h2, h.cells g _ _ _ hh (hg g (by rw [e]; rfl)), hc⟩
theorem Lch.rw {w wr w' : World} {y : Nat} {α : Type} {T : TypeId} {sz : Nat} {E : Gr.Enc α T sz} {base : Nat} {v : Value} {L : List α} (h : Lch w y wr w') (r : Gr.Rw E base wr v L) (hg : ∀ g, v.ownBlock = some g → g ≠ y) : Gr.Rw E base w' v L := by
  refine ⟨r.1, ?_⟩
  rcases r.2 with hz | ⟨g, c, cur, e, hb, hh, rest⟩
  · exact .inl hz
  · exact .inr ⟨g, c, cur, e, hb, h.cells g _ _ _ hh (hg g (by rw [e]; rfl)), rest⟩
theorem LIg.lt {w wr : World} {y o : Nat} {U : TypeId} {pre post : List Value} {L : List (Int × Int)} (h : LIg w y o U pre post L wr) : y < wr.heap.size := by
  obtain ⟨m, f, hs, _⟩ := h.pl
  exact hs.head.lt
theorem LIg.grew {w wr w' : World} {y o : Nat} {U : TypeId} {pre post : List Value} {L : List (Int × Int)} (h : LIg w y o U pre post L wr) (k : Kp [] wr w') : LIg w y o U pre post L w' := by
  obtain ⟨m, f, hs, hm⟩ := h.pl
  exact ⟨h.kp.then k, ⟨m, f, hs.grew k, hm⟩, h.new⟩
theorem LIg.small {w wr : World} {y o : Nat} {U : TypeId} {pre post : List Value} {L : List (Int × Int)} (h : LIg w y o U pre post L wr) : L.length ≤ 65536 := by
  obtain ⟨m, f, hs, _⟩ := h.pl
  exact hs.small
theorem LIg.nd {w wr : World} {y o : Nat} {U : TypeId} {pre post : List Value} {L : List (Int × Int)} (h : LIg w y o U pre post L wr) : L.Nodup := by
  obtain ⟨m, f, hs, _⟩ := h.pl
  exact hs.nd
theorem LIg.ok {w wr : World} {y o : Nat} {U : TypeId} {pre post : List Value} {L : List (Int × Int)} (h : LIg w y o U pre post L wr) : ∀ q ∈ L, IdIn q := by
  obtain ⟨m, f, hs, _⟩ := h.pl
  exact hs.ok
/-- A block of cells beside the list was written. -/
theorem LIg.beside {w wr w' : World} {y o g : Nat} {U : TypeId} {pre post : List Value} {L : List (Int × Int)} {T : TypeId} {vs : List Value} (h : LIg w y o U pre post L wr) (k : Kp [g] wr w') (b : Bk wr g T vs) (hg : g ≠ y) (hn : w.heap.size ≤ g) : LIg w y o U pre post L w' := by
  obtain ⟨m, f, hs, hm⟩ := h.pl
  refine ⟨h.kp.trans k (by simp) (by simpa using hn), ⟨m, f, hs.kept k (by simpa using (Ne.symm hg)) (fun b' e q => ?_), hm⟩, h.new⟩
  have q' : b' = g := by simpa using q
  subst q'
  exact hs.noc b' e _ _ _ b
theorem LIn.of {w W wr : World} {y : Nat} (k : Kp [] w W) (hy : y = W.heap.size) (k' : Kp [] (W.alloc (.cells #[.map none, .int .i64 0, .int .i64 0] 29)) wr) : LIn w y [] wr := by
  subst hy
  exact ⟨(k.alloc _).then k', ⟨none, (0, 0), (PL.new W).grew k', by simp⟩, k.size⟩
/-- What a change of the list leaves. -/
def LsC (w : World) (y o : Nat) (U : TypeId) (pre post : List Value) (L : List (Int × Int)) (wr : World) (v : Value) (e : Ending) (w' : World) : Prop := e = .returned v ∧ LIg w y o U pre post L w' ∧ Lch w y wr w'
theorem lsc_of {w wr : World} {y o : Nat} {U : TypeId} {pre post : List Value} {m : Option Nat} {f : Int × Int} {L L' : List (Int × Int)} {v : Value} {e : Ending} {w' : World} (k : Kp [] w wr) (hs : PL wr y o U pre post m f L) (hm : ∀ b, m = some b → w.heap.size ≤ b) (hn : w.heap.size ≤ y) (h : PLP wr y o U pre post m L' v e w') : LsC w y o U pre post L' wr v e w' := by
  obtain ⟨rfl, m', f', hT, hK, hm'⟩ := h
  have hS : ∀ i ∈ y :: m.toList, w.heap.size ≤ i := by
    intro i hi
    rcases List.mem_cons.1 hi with q | q
    · rw [q]; exact hn
    · exact hm i (Option.mem_toList.1 q)
  have hKw : Kp [] w wr → Kp [] w w' := fun q => q.trans hK (by simp) (fun i hi => .inr (hS i hi))
  refine ⟨rfl, ⟨hKw k, ⟨m', f', hT, fun b hb => ?_⟩, hn⟩, hK.size, fun i c U z hi hne => ?_, hKw⟩
  · rcases hm' b hb with q | q
    · exact hm b q
    · exact Nat.le_trans k.size q
  · refine (hK.block i (Array.getElem?_eq_some_iff.1 hi).1 (fun q => ?_)).trans hi
    rcases List.mem_cons.1 q with q | q
    · exact hne q
    · exact hs.noc i (Option.mem_toList.1 q) _ _ _ hi
theorem LsC.same {w wr w' : World} {y o : Nat} {U : TypeId} {pre post : List Value} {L : List (Int × Int)} {v : Value} (h : LIg w y o U pre post L wr) (k : Kp [] wr w') : LsC w y o U pre post L wr v (.returned v) w' := ⟨rfl, h.grew k, .of k⟩
/-- Put in: there already, or behind the others. -/
def lPush (L : List (Int × Int)) (q : Int × Int) : List (Int × Int) := if q ∈ L then L else L ++ [q]
theorem lPush_yes {L : List (Int × Int)} {q : Int × Int} (h : q ∉ L) : lPush L q = L ++ [q] := if_neg h
theorem lPush_no {L : List (Int × Int)} {q : Int × Int} (h : q ∈ L) : lPush L q = L := if_pos h
theorem lPush_len (L : List (Int × Int)) (q : Int × Int) : (lPush L q).length ≤ L.length + 1 := by
  unfold lPush
  split <;> simp
/-- The first, or an ID of zeros. -/
def lFst (L : List (Int × Int)) : Int × Int := L.headD (0, 0)
theorem lpush {w wr : World} {y o : Nat} {U : TypeId} {pre post : List Value} {L L' : List (Int × Int)} (h : LIg w y o U pre post L wr) {q1 q2 : Int} {is : Bool} (hi : IdIn (q1, q2)) (hL : L.length < 65536) (hIs : (!lHas L (q1, q2)) = is) (e : lPush L (q1, q2) = L') :
    Calls Try.prog 18 #[.pointer (some ⟨y, o, none⟩), .agg #[.int .i64 q1, .int .i64 q2]] wr (LsC w y o U pre post L' wr (.bool is)) := by
  subst e hIs
  obtain ⟨m, f, hs, hm⟩ := h.pl
  by_cases hq : (q1, q2) ∈ L
  · rw [lHas_yes hq, lPush_no hq]
    refine (ppush_no hs hq).mono ?_
    rintro e w' ⟨rfl, K⟩
    exact .same h K
  · rw [lHas_no hq, lPush_yes hq]
    exact (ppush hs hi hq hL).mono fun e' w' q => lsc_of h.kp hs hm h.new q
theorem ldrop {w wr : World} {y o : Nat} {U : TypeId} {pre post : List Value} {L L' : List (Int × Int)} (h : LIg w y o U pre post L wr) {q1 q2 : Int} {is : Bool} (hi : IdIn (q1, q2)) (hIs : lHas L (q1, q2) = is) (e : lDel L (q1, q2) = L') :
    Calls Try.prog 23 #[.pointer (some ⟨y, o, none⟩), .agg #[.int .i64 q1, .int .i64 q2]] wr (LsC w y o U pre post L' wr (.bool is)) := by
  subst e hIs
  obtain ⟨m, ⟨f1, f2⟩, hs, hm⟩ := h.pl
  by_cases hq : (q1, q2) ∈ L
  · rw [lHas_yes hq]
    exact (pdrop_yes hs hq).mono fun e' w' q => lsc_of h.kp hs hm h.new q
  · rw [lHas_no hq, lDel_same hq]
    refine (pdrop_no hs hi hq).mono ?_
    rintro e w' ⟨rfl, K⟩
    exact .same h K
theorem PL.first {w : World} {y o : Nat} {U : TypeId} {pre post : List Value} {m : Option Nat} {f x : Int × Int} {T : List (Int × Int)} (h : PL w y o U pre post m f (x :: T)) : f = x := by
  cases m with
  | none => have e : x :: T = [] := h.mo; cases e
  | some b =>
    obtain ⟨p, n, _, hr⟩ := h.mo
    exact hr.1
theorem lpop {w wr : World} {y o : Nat} {U : TypeId} {pre post : List Value} {L L' : List (Int × Int)} (h : LIg w y o U pre post L wr) {q1 q2 : Int} {is : Bool} (hq : lFst L = (q1, q2)) (hIs : (!L.isEmpty) = is) (e : L.tail = L') :
    Calls Try.prog 21 #[.pointer (some ⟨y, o, none⟩)] wr (LsC w y o U pre post L' wr (.tuple #[.agg #[.int .i64 q1, .int .i64 q2], .bool is])) := by
  subst e hIs
  obtain ⟨m, f, hs, hm⟩ := h.pl
  cases L with
  | nil =>
    cases hq
    refine (ppop_no hs).mono ?_
    rintro e w' ⟨rfl, K⟩
    exact .same h K
  | cons x T =>
    obtain rfl : x = (q1, q2) := hq
    obtain rfl := hs.first
    exact (ppop_yes hs).mono fun e' w' q => lsc_of h.kp hs hm h.new q
theorem llen {w wr : World} {y o : Nat} {U : TypeId} {pre post : List Value} {L : List (Int × Int)} (h : LIg w y o U pre post L wr) {k : Int} (hk : (L.length : Int) = k) :
    Calls Try.prog 28 #[.pointer (some ⟨y, o, none⟩)] wr fun e w' => e = .returned (.int .i64 k) ∧ Kp [] wr w' := by
  obtain ⟨m, f, hs, hm⟩ := h.pl
  exact plen hs hk
theorem lhas {w wr : World} {y o : Nat} {U : TypeId} {pre post : List Value} {L : List (Int × Int)} (h : LIg w y o U pre post L wr) {q1 q2 : Int} {is : Bool} (hi : IdIn (q1, q2)) (his : lHas L (q1, q2) = is) :
    Calls Try.prog 27 #[.pointer (some ⟨y, o, none⟩), .agg #[.int .i64 q1, .int .i64 q2]] wr fun e w' => e = .returned (.bool is) ∧ Kp [] wr w' := by
  obtain ⟨m, f, hs, hm⟩ := h.pl
  exact phas hs hi his
theorem lall {w wr : World} {y o : Nat} {U : TypeId} {pre post : List Value} {L : List (Int × Int)} (h : LIg w y o U pre post L wr) : Calls Try.prog 20 #[.pointer (some ⟨y, o, none⟩)] wr (ListId wr L) := by
  obtain ⟨m, f, hs, hm⟩ := h.pl
  exact pall hs
end Go.Proofs.Ytgahekhlbcnmaaa
