/- The program's table since a world: what a walk carries along. -/
import Derived.Test.YtgpclbkekobaoaaKLaw5
import Derived.Test.YtgpclbkekobaoaaKTb
namespace Go.Proofs.Ytgpclbkekobaoaa
open Go.RowKit
set_option linter.unusedVariables false
/-- Since w: at t there is a table of the slots L, in memory that is new since w. -/
structure TabIn (w : World) (t : Nat) (L : List Sl) (wr : World) : Prop where
  kp : Kp [] w wr
  tab : ∃ m, PT wr t m L ∧ ∀ b, m = some b → w.heap.size ≤ b
  new : w.heap.size ≤ t
  fo : Forest L
theorem TabIn.grew {w wr w' : World} {t : Nat} {L : List Sl} (h : TabIn w t L wr) (k : Kp [] wr w') : TabIn w t L w' := by
  obtain ⟨m, hp, hm⟩ := h.tab
  exact ⟨h.kp.then k, ⟨m, hp.grew k, hm⟩, h.new, h.fo⟩
theorem TabIn.lt {w wr : World} {t : Nat} {L : List Sl} (h : TabIn w t L wr) : t < wr.heap.size := by
  obtain ⟨m, hp, hm⟩ := h.tab
  exact hp.head.lt
/-- A block beside the table was written. -/
theorem TabIn.beside {w wr w' : World} {t g : Nat} {L : List Sl} {T : TypeId} {vs : List Value} (h : TabIn w t L wr) (k : Kp [g] wr w') (b : Bk wr g T vs) (hg : g ≠ t) (hn : w.heap.size ≤ g) : TabIn w t L w' := by
  obtain ⟨m, hp, hm⟩ := h.tab
  refine ⟨h.kp.trans k (by simp) (by simpa using hn), ⟨m, hp.kept k (by simpa using (Ne.symm hg)) (fun b' e q => ?_), hm⟩, h.new, h.fo⟩
  subst e
  have q' : b' = g := by simpa using q
  subst q'
  exact hp.noc _ _ _ b
theorem TabIn.of {w : World} {t : Nat} {T : List Sl} {W : World} {wr : World} (k : Kp [] w W) (ht : t = W.heap.size) (k' : Kp [] (W.alloc (.cells #[.map none] 27)) wr) : TabIn w t [] wr := by
  subst ht
  exact ⟨(k.alloc _).then k', ⟨none, (PT.new W).grew k', by simp⟩, k.size, Forest.nil⟩
/-- What a change of the table leaves. -/
def TInP (w : World) (t : Nat) (L : List Sl) (wr : World) (v : Value) (e : Ending) (w' : World) : Prop := e = .returned v ∧ TabIn w t L w' ∧ Tch w t wr w'
theorem tput_yes {w wr : World} {t : Nat} {L L' : List Sl} (h : TabIn w t L wr) {n s k o z b r u v : Int} (hi : PIn (n, s)) (hu : PIn (u, v)) (hp : putP L n s k o z b r u v) (hL : L.length < 65536) (e : insL L ⟨n, s, u, v, k, o, z, b, r⟩ = L') :
    Calls Try.prog 9 #[.pointer (some ⟨t, 0, none⟩), .agg #[.int .i64 n, .int .i64 s], .agg #[.int .i64 k, .int .i64 o, .int .i64 z, .int .i64 b, .int .i64 r], .agg #[.int .i64 u, .int .i64 v]] wr (TInP w t L' wr (.bool true)) := by
  obtain ⟨m, h1, h2⟩ := h.tab
  refine (put_to h1 hi hu hp hL e).mono ?_
  rintro e' w' ⟨rfl, m', hT, hK, hm⟩
  have T := tch_of h1 h2 h.new hK
  refine ⟨rfl, ⟨T.kp h.kp, ⟨m', hT, fun b hb => ?_⟩, h.new, by rw [← e]; exact h.fo.put hp⟩, T⟩
  rcases hm b hb with q | q
  · exact h2 b q
  · exact Nat.le_trans h.kp.size q
theorem tput_no {w wr : World} {t : Nat} {L : List Sl} (h : TabIn w t L wr) {n s k o z b r u v : Int} (hi : PIn (n, s)) (hu : PIn (u, v)) (hp : ¬ putP L n s k o z b r u v) :
    Calls Try.prog 9 #[.pointer (some ⟨t, 0, none⟩), .agg #[.int .i64 n, .int .i64 s], .agg #[.int .i64 k, .int .i64 o, .int .i64 z, .int .i64 b, .int .i64 r], .agg #[.int .i64 u, .int .i64 v]] wr (TInP w t L wr (.bool false)) := by
  obtain ⟨m, h1, h2⟩ := h.tab
  refine (put_no h1 hi hu hp).mono ?_
  rintro e' w' ⟨rfl, hK⟩
  exact ⟨rfl, h.grew hK, .of hK⟩
theorem tmove_yes {w wr : World} {t : Nat} {L L' : List Sl} (h : TabIn w t L wr) {n s n' s' : Int} {i : Nat} {x : Sl} (ha : atL L n s = some i) (hx : L[i]? = some x) (hp : placeOk n' s' = true) (hn' : atL L n' s' = none) (e : moveL L n s n' s' i x = L') :
    Calls Try.prog 42 #[.pointer (some ⟨t, 0, none⟩), .agg #[.int .i64 n, .int .i64 s], .agg #[.int .i64 n', .int .i64 s']] wr (TInP w t L' wr (.bool true)) := by
  obtain ⟨m, h1, h2⟩ := h.tab
  have hself : ¬ (x.u = n ∧ x.v = s) := by
    rintro ⟨e1, e2⟩
    obtain ⟨y, hy, q1, q2⟩ := atL_some ha
    rw [hx] at hy
    cases hy
    exact h.fo.self (List.mem_of_getElem? hx) (by unfold parP ppl; rw [e1, e2, q1, q2])
  refine (move_yes h1 ha hx hp hn' hself).mono ?_
  rintro e' w' ⟨rfl, hT, hK⟩
  have T := tch_of h1 h2 h.new (hK.mono (S' := t :: m.toList) (fun k hk => List.mem_cons_of_mem _ hk))
  subst e
  exact ⟨rfl, ⟨T.kp h.kp, ⟨m, hT, h2⟩, h.new, h.fo.move ha hx hp hn'⟩, T⟩
theorem tmove_no {w wr : World} {t : Nat} {L : List Sl} (h : TabIn w t L wr) {n s n' s' : Int} (hi : PIn (n, s)) (hi' : PIn (n', s')) (hn : atL L n s = none ∨ placeOk n' s' = false ∨ atL L n' s' ≠ none) :
    Calls Try.prog 42 #[.pointer (some ⟨t, 0, none⟩), .agg #[.int .i64 n, .int .i64 s], .agg #[.int .i64 n', .int .i64 s']] wr (TInP w t L wr (.bool false)) := by
  obtain ⟨m, h1, h2⟩ := h.tab
  refine (move_no h1 hi hi' hn).mono ?_
  rintro e' w' ⟨rfl, hK⟩
  exact ⟨rfl, h.grew hK, .of hK⟩
theorem tall {w wr : World} {t : Nat} {L : List Sl} (h : TabIn w t L wr) :
    Calls Try.prog 20 #[.pointer (some ⟨t, 0, none⟩)] wr (ListP wr (sel (fun _ => true) L)) := by
  obtain ⟨m, h1, h2⟩ := h.tab
  exact all_calls h1
theorem tget {w wr : World} {t : Nat} {L : List Sl} (h : TabIn w t L wr) {n s : Int} (hi : PIn (n, s)) :
    Calls Try.prog 21 #[.pointer (some ⟨t, 0, none⟩), .agg #[.int .i64 n, .int .i64 s]] wr fun e w' => e = .returned (.tuple #[capO (lookS L n s), .bool (lookS L n s).isSome]) ∧ Kp [] wr w' := by
  obtain ⟨m, h1, h2⟩ := h.tab
  exact get_calls h1 hi
def parB (L : List Sl) (n s u v : Int) : Bool := match lookS L n s with | some x => x.u == u && x.v == v | none => u == 0 && v == 0
theorem parB_is {L : List Sl} {n s u v : Int} (h : parB L n s u v = true) : parO (lookS L n s) = .agg #[.int .i64 u, .int .i64 v] := by
  unfold parB at h
  unfold parO
  cases hl : lookS L n s with
  | none => rw [hl] at h; simp at h; simp [h]
  | some x => rw [hl] at h; simp at h; simp [h]
theorem parL_is (L : List Sl) (n s : Int) : parO (lookS L n s) = .agg #[.int .i64 (parL L n s).1, .int .i64 (parL L n s).2] := by
  unfold parO lookS parL
  cases ha : atL L n s with
  | none => rfl
  | some i =>
    obtain ⟨y, hy, _⟩ := atL_some ha
    simp only [hy]
theorem tparent {w wr : World} {t : Nat} {L : List Sl} (h : TabIn w t L wr) {n s u v : Int} (hi : PIn (n, s)) (hv : parO (lookS L n s) = .agg #[.int .i64 u, .int .i64 v]) :
    Calls Try.prog 23 #[.pointer (some ⟨t, 0, none⟩), .agg #[.int .i64 n, .int .i64 s]] wr fun e w' => e = .returned (.agg #[.int .i64 u, .int .i64 v]) ∧ Kp [] wr w' := by
  obtain ⟨m, h1, h2⟩ := h.tab
  rw [← hv]
  exact parent_calls h1 hi
theorem tbelow {w wr : World} {t : Nat} {L : List Sl} (h : TabIn w t L wr) {n s : Int} (hi : PIn (n, s)) :
    Calls Try.prog 27 #[.pointer (some ⟨t, 0, none⟩), .agg #[.int .i64 n, .int .i64 s]] wr (ListP wr (sel (lowF L n s) L)) := by
  obtain ⟨m, h1, h2⟩ := h.tab
  exact below_calls h1 h.fo hi
theorem tkids {w wr : World} {t : Nat} {L : List Sl} (h : TabIn w t L wr) (n s : Int) :
    Calls Try.prog 63 #[.pointer (some ⟨t, 0, none⟩), .agg #[.int .i64 n, .int .i64 s]] wr (ListP wr (sel (kidF n s) L)) := by
  obtain ⟨m, h1, h2⟩ := h.tab
  exact kids_calls h1 n s
end Go.Proofs.Ytgpclbkekobaoaa
