/- The program's table since a world: what a walk carries along. -/
import Derived.Test.YthjhpcbhkcmghaaKLaw5
import Derived.Test.YthjhpcbhkcmghaaKTb
import Derived.Test.YthjhpcbhkcmghaaKLk
namespace Go.Proofs.Ythjhpcbhkcmghaa
open Go.RowKit
set_option linter.unusedVariables false
/-- What a slot has may be. -/
def CapOk (x : Sl) : Prop := chk x.k x.o x.z x.b x.r = true
theorem cap_re {n s u v : Int} {x : Sl} (h : CapOk x) : CapOk (reF n s u v x) := by
  unfold reF
  split
  · exact h
  · exact h
theorem cap_put {L : List Sl} {x : Sl} (h : ∀ y ∈ L, CapOk y) (hx : CapOk x) : ∀ y ∈ insL L x, CapOk y := by
  intro y hy
  rcases List.mem_append.1 ((ins_perm L x).mem_iff.1 hy) with m | m
  · exact h y m
  · rw [List.mem_singleton.1 m]; exact hx
theorem cap_drop {L : List Sl} {n s : Int} {i : Nat} {x : Sl} (h : ∀ y ∈ L, CapOk y) : ∀ y ∈ dropL L n s i x, CapOk y := by
  intro y hy
  unfold dropL at hy
  obtain ⟨z, hz, rfl⟩ := List.mem_map.1 hy
  exact cap_re (h z (List.mem_of_mem_eraseIdx hz))
theorem cap_move {L : List Sl} {n s n' s' : Int} {i : Nat} {x : Sl} (h : ∀ y ∈ L, CapOk y) (hx : CapOk x) : ∀ y ∈ moveL L n s n' s' i x, CapOk y := by
  intro y hy
  unfold moveL at hy
  obtain ⟨z, hz, rfl⟩ := List.mem_map.1 hy
  refine cap_re (cap_put (fun q hq => h q (List.mem_of_mem_eraseIdx hq)) ?_ z hz)
  exact hx
/-- Since w: at t there is a table of the slots L, in memory that is new since w. -/
structure TabIn (w : World) (t : Nat) (L : List Sl) (wr : World) : Prop where
  kp : Kp [] w wr
  tab : ∃ m, PT wr t m L ∧ ∀ b, m = some b → w.heap.size ≤ b
  new : w.heap.size ≤ t
  fo : Forest L
  cp : ∀ x ∈ L, CapOk x
theorem TabIn.grew {w wr w' : World} {t : Nat} {L : List Sl} (h : TabIn w t L wr) (k : Kp [] wr w') : TabIn w t L w' := by
  obtain ⟨m, hp, hm⟩ := h.tab
  exact ⟨h.kp.then k, ⟨m, hp.grew k, hm⟩, h.new, h.fo, h.cp⟩
theorem TabIn.lt {w wr : World} {t : Nat} {L : List Sl} (h : TabIn w t L wr) : t < wr.heap.size := by
  obtain ⟨m, hp, hm⟩ := h.tab
  exact hp.head.lt
/-- A block beside the table was written. -/
theorem TabIn.beside {w wr w' : World} {t g : Nat} {L : List Sl} {T : TypeId} {vs : List Value} (h : TabIn w t L wr) (k : Kp [g] wr w') (b : Bk wr g T vs) (hg : g ≠ t) (hn : w.heap.size ≤ g) : TabIn w t L w' := by
  obtain ⟨m, hp, hm⟩ := h.tab
  refine ⟨h.kp.trans k (by simp) (by simpa using hn), ⟨m, hp.kept k (by simpa using (Ne.symm hg)) (fun b' e q => ?_), hm⟩, h.new, h.fo, h.cp⟩
  subst e
  have q' : b' = g := by simpa using q
  subst q'
  exact hp.noc _ _ _ b
theorem TabIn.of {w : World} {t : Nat} {T : List Sl} {W : World} {wr : World} (k : Kp [] w W) (ht : t = W.heap.size) (k' : Kp [] (W.alloc (.cells #[.map none] 27)) wr) : TabIn w t [] wr := by
  subst ht
  exact ⟨(k.alloc _).then k', ⟨none, (PT.new W).grew k', by simp⟩, k.size, Forest.nil, by simp⟩
/-- What a change of the table leaves. -/
def TInP (w : World) (t : Nat) (L : List Sl) (wr : World) (v : Value) (e : Ending) (w' : World) : Prop := e = .returned v ∧ TabIn w t L w' ∧ Tch w t wr w'
theorem tput_yes {w wr : World} {t : Nat} {L L' : List Sl} (h : TabIn w t L wr) {n s k o z b r u v : Int} (hi : PIn (n, s)) (hu : PIn (u, v)) (hp : putP L n s k o z b r u v) (hL : L.length < 65536) (e : insL L ⟨n, s, u, v, k, o, z, b, r⟩ = L') :
    Calls Try.prog 10 #[.pointer (some ⟨t, 0, none⟩), .agg #[.int .i64 n, .int .i64 s], .agg #[.int .i64 k, .int .i64 o, .int .i64 z, .int .i64 b, .int .i64 r], .agg #[.int .i64 u, .int .i64 v]] wr (TInP w t L' wr (.bool true)) := by
  obtain ⟨m, h1, h2⟩ := h.tab
  refine (put_to h1 hi hu hp hL e).mono ?_
  rintro e' w' ⟨rfl, m', hT, hK, hm⟩
  have T := tch_of h1 h2 h.new hK hT hm
  refine ⟨rfl, ⟨T.kp h.kp, ⟨m', hT, fun b hb => ?_⟩, h.new, by rw [← e]; exact h.fo.put hp, by rw [← e]; exact cap_put h.cp hp.2.2.1⟩, T⟩
  rcases hm b hb with q | q
  · exact h2 b q
  · exact Nat.le_trans h.kp.size q
theorem tput_no {w wr : World} {t : Nat} {L : List Sl} (h : TabIn w t L wr) {n s k o z b r u v : Int} (hi : PIn (n, s)) (hu : PIn (u, v)) (hp : ¬ putP L n s k o z b r u v) :
    Calls Try.prog 10 #[.pointer (some ⟨t, 0, none⟩), .agg #[.int .i64 n, .int .i64 s], .agg #[.int .i64 k, .int .i64 o, .int .i64 z, .int .i64 b, .int .i64 r], .agg #[.int .i64 u, .int .i64 v]] wr (TInP w t L wr (.bool false)) := by
  obtain ⟨m, h1, h2⟩ := h.tab
  refine (put_no h1 hi hu hp).mono ?_
  rintro e' w' ⟨rfl, hK⟩
  exact ⟨rfl, h.grew hK, .of hK⟩
theorem tdrop_yes {w wr : World} {t : Nat} {L L' : List Sl} (h : TabIn w t L wr) {n s : Int} {i : Nat} {x : Sl} (ha : atL L n s = some i) (hx : L[i]? = some x) (e : dropL L n s i x = L') :
    Calls Try.prog 13 #[.pointer (some ⟨t, 0, none⟩), .agg #[.int .i64 n, .int .i64 s]] wr (TInP w t L' wr (.bool true)) := by
  obtain ⟨m, h1, h2⟩ := h.tab
  refine (drop_yes h1 ha hx).mono ?_
  rintro e' w' ⟨rfl, hT, hK⟩
  have T := tch_of h1 h2 h.new (hK.mono (S' := t :: m.toList) (fun k hk => List.mem_cons_of_mem _ hk)) hT (fun b q => .inl q)
  subst e
  exact ⟨rfl, ⟨T.kp h.kp, ⟨m, hT, h2⟩, h.new, h.fo.drop ha hx, cap_drop h.cp⟩, T⟩
theorem tdrop_no {w wr : World} {t : Nat} {L : List Sl} (h : TabIn w t L wr) {n s : Int} (hi : PIn (n, s)) (ha : atL L n s = none) :
    Calls Try.prog 13 #[.pointer (some ⟨t, 0, none⟩), .agg #[.int .i64 n, .int .i64 s]] wr (TInP w t L wr (.bool false)) := by
  obtain ⟨m, h1, h2⟩ := h.tab
  refine (drop_no h1 hi ha).mono ?_
  rintro e' w' ⟨rfl, hK⟩
  exact ⟨rfl, h.grew hK, .of hK⟩
theorem tall {w wr : World} {t : Nat} {L : List Sl} (h : TabIn w t L wr) :
    Calls Try.prog 23 #[.pointer (some ⟨t, 0, none⟩)] wr (ListP wr (sel (fun _ => true) L)) := by
  obtain ⟨m, h1, h2⟩ := h.tab
  exact all_calls h1
theorem tget {w wr : World} {t : Nat} {L : List Sl} (h : TabIn w t L wr) {n s : Int} (hi : PIn (n, s)) :
    Calls Try.prog 26 #[.pointer (some ⟨t, 0, none⟩), .agg #[.int .i64 n, .int .i64 s]] wr fun e w' => e = .returned (.tuple #[capO (lookS L n s), .bool (lookS L n s).isSome]) ∧ Kp [] wr w' := by
  obtain ⟨m, h1, h2⟩ := h.tab
  exact get_calls h1 hi
def parB (L : List Sl) (n s u v : Int) : Bool := match lookS L n s with | some x => x.u == u && x.v == v | none => u == 0 && v == 0
theorem parB_is {L : List Sl} {n s u v : Int} (h : parB L n s u v = true) : parO (lookS L n s) = .agg #[.int .i64 u, .int .i64 v] := by
  unfold parB at h
  unfold parO
  cases hl : lookS L n s with
  | none => rw [hl] at h; simp at h; simp [h]
  | some x => rw [hl] at h; simp at h; simp [h]
theorem parL_is (L : List Sl) (n s : Int) : parO (lookS L n s) = .agg #[.int .i64 (parL L n s).1, .int .i64 (parL L n s).2] := by
  unfold parO lookS parL
  cases ha : atL L n s with
  | none => rfl
  | some i =>
    obtain ⟨y, hy, _⟩ := atL_some ha
    simp only [hy]
theorem tparent {w wr : World} {t : Nat} {L : List Sl} (h : TabIn w t L wr) {n s u v : Int} (hi : PIn (n, s)) (hv : parO (lookS L n s) = .agg #[.int .i64 u, .int .i64 v]) :
    Calls Try.prog 27 #[.pointer (some ⟨t, 0, none⟩), .agg #[.int .i64 n, .int .i64 s]] wr fun e w' => e = .returned (.agg #[.int .i64 u, .int .i64 v]) ∧ Kp [] wr w' := by
  obtain ⟨m, h1, h2⟩ := h.tab
  rw [← hv]
  exact parent_calls h1 hi
theorem tkids {w wr : World} {t : Nat} {L : List Sl} (h : TabIn w t L wr) (n s : Int) :
    Calls Try.prog 51 #[.pointer (some ⟨t, 0, none⟩), .agg #[.int .i64 n, .int .i64 s]] wr (ListP wr (sel (kidF n s) L)) := by
  obtain ⟨m, h1, h2⟩ := h.tab
  exact kids_calls h1 n s
/-- Get by cases. -/
theorem tget_lk {w wr : World} {t : Nat} {L : List Sl} (h : TabIn w t L wr) {n s : Int} (hi : PIn (n, s)) :
    (lkS L n s = none ∧ Calls Try.prog 26 #[.pointer (some ⟨t, 0, none⟩), .agg #[.int .i64 n, .int .i64 s]] wr fun e w' => e = .returned (.tuple #[.agg #[.int .i64 0, .int .i64 0, .int .i64 0, .int .i64 0, .int .i64 0], .bool false]) ∧ Kp [] wr w') ∨
    ∃ y, lkS L n s = some y ∧ Calls Try.prog 26 #[.pointer (some ⟨t, 0, none⟩), .agg #[.int .i64 n, .int .i64 s]] wr fun e w' => e = .returned (.tuple #[.agg #[.int .i64 y.k, .int .i64 y.o, .int .i64 y.z, .int .i64 y.b, .int .i64 y.r], .bool true]) ∧ Kp [] wr w' := by
  have c := tget h hi
  have e : lookS L n s = lkS L n s := rfl
  rw [e] at c
  cases hl : lkS L n s with
  | none => rw [hl] at c; exact .inl ⟨rfl, c⟩
  | some y => rw [hl] at c; exact .inr ⟨y, rfl, c⟩
end Go.Proofs.Ythjhpcbhkcmghaa
