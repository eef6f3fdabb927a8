/- The program's table since a world: what a walk carries along (of its order below parents nothing is asked). -/
import Derived.Test.YthjhpcbhkcmghaaKSlots5
namespace Go.Proofs.Ythjhpcbhkcmghaa
open Go.RowKit
set_option linter.unusedVariables false
theorem PT.new (w : World) : PT (w.alloc (.cells #[.map none] 27)) w.heap.size none [] :=
  ⟨Bk.new w 27 [.map none], rfl, List.Pairwise.nil, by simp, by simp⟩
theorem PT.fresh {w : World} {t : Nat} (h : Bk w t 27 [.map none]) : PT w t none [] := ⟨h, rfl, List.Pairwise.nil, by simp, by simp⟩
theorem put_is {L : List Sl} {n s k o z b r u v : Int} (h1 : placeOk n s = true) (h2 : atL L n s = none) (h3 : chk k o z b r = true) (h4 : isN u v = true ∨ atL L u v ≠ none) : putP L n s k o z b r u v := ⟨h1, h2, h3, h4.imp (fun q => isN_iff.1 q) id⟩
theorem pin_zero : PIn (0, 0) := ⟨in64_of (by decide) (by decide), in64_of (by decide) (by decide)⟩
/-- Nothing but an object's own blocks was touched: its head at t, and the map that the head names; a map that it names later is that one, or new. -/
def Och (T : TypeId) (w : World) (t : Nat) (wr w' : World) : Prop := ∃ S, Kp S wr w' ∧ (∀ i ∈ S, w.heap.size ≤ i ∧ (i = t ∨ ∀ c T z, wr.heap[i]? ≠ some (.cells c T z))) ∧ (t < wr.heap.size → (∀ i ∈ S, i = t ∨ Bk wr t T [.map (some i)] ∨ wr.heap.size ≤ i) ∧ ∀ i, Bk w' t T [.map (some i)] → Bk wr t T [.map (some i)] ∨ wr.heap.size ≤ i)
theorem Och.bk {H : TypeId} {w wr w' : World} {t g : Nat} {T : TypeId} {vs : List Value} (h : Och H w t wr w') (b : Bk wr g T vs) (hg : g ≠ t) : Bk w' g T vs := by
  obtain ⟨S, k, hS, _⟩ := h
  refine b.kept k (fun m => ?_)
  rcases (hS g m).2 with e | e
  · exact hg e
  · exact e _ _ _ b
theorem Och.kp {H : TypeId} {w wr w' : World} {t : Nat} (h : Och H w t wr w') (k : Kp [] w wr) : Kp [] w w' := by
  obtain ⟨S, k', hS, _⟩ := h
  exact k.trans k' (by simp) (fun i m => .inr (hS i m).1)
theorem Och.of {H : TypeId} {w wr w' : World} {t : Nat} (k : Kp [] wr w') : Och H w t wr w' := ⟨[], k, by simp, fun ht => ⟨by simp, fun i b => .inl ((k.block t ht (by simp)).symm.trans b)⟩⟩
theorem Och.size {H : TypeId} {w wr w' : World} {t : Nat} (h : Och H w t wr w') : wr.heap.size ≤ w'.heap.size := by
  obtain ⟨S, k', hS, _⟩ := h
  exact k'.size
theorem Och.trans {H : TypeId} {w a b c : World} {t : Nat} (h : Och H w t a b) (k : Och H w t b c) : Och H w t a c := by
  obtain ⟨S, k1, h1, x1⟩ := h
  obtain ⟨S', k2, h2, x2⟩ := k
  refine ⟨S ++ S', k1.trans k2 (fun i m => List.mem_append_left _ m) (fun i m => .inl (List.mem_append_right _ m)), fun i m => ?_, fun ht => ?_⟩
  · by_cases hi : i ∈ S
    · exact h1 i hi
    · have m' := (List.mem_append.1 m).resolve_left hi
      refine ⟨(h2 i m').1, (h2 i m').2.imp id (fun q c T z e => ?_)⟩
      exact q c T z ((k1.block i (Array.getElem?_eq_some_iff.1 e).1 hi).trans e)
  · obtain ⟨y1, z1⟩ := x1 ht
    obtain ⟨y2, z2⟩ := x2 (Nat.lt_of_lt_of_le ht k1.size)
    refine ⟨fun i m => ?_, fun i b => ?_⟩
    · rcases List.mem_append.1 m with m | m
      · exact y1 i m
      · rcases y2 i m with e | e | e
        · exact .inl e
        · exact .inr (z1 i e)
        · exact .inr (.inr (Nat.le_trans k1.size e))
    · rcases z2 i b with e | e
      · exact z1 i e
      · exact .inr (Nat.le_trans k1.size e)
/-- Blocks that are new since were written. -/
theorem Och.more {H : TypeId} {w a b c : World} {t : Nat} {S : List Nat} (h : Och H w t a b) (k : Kp S b c) (hS : ∀ i ∈ S, a.heap.size ≤ i) : Och H w t a c := by
  obtain ⟨S1, k1, h1, x1⟩ := h
  refine ⟨S1, k1.trans k (fun i m => m) (fun i m => .inr (hS i m)), h1, fun ht => ⟨(x1 ht).1, fun i q => ?_⟩⟩
  refine (x1 ht).2 i ((k.block t (Nat.lt_of_lt_of_le ht k1.size) (fun m => ?_)).symm.trans q)
  have := hS t m
  omega
theorem Och.pre {H : TypeId} {w wr W w' : World} {t : Nat} (k : Kp [] wr W) (T : Och H w t W w') : Och H w t wr w' := (Och.of k).trans T
theorem Och.pl {H : TypeId} {w wr w' : World} {t base : Nat} {v : Value} {ps : List (Int × Int)} (h : Och H w t wr w') (p : Pl base wr v ps) (hb : t < base) : Pl base w' v ps := by
  obtain ⟨S, k, hS, _⟩ := h
  refine p.kept k (fun g hg m => ?_)
  rcases p.2 with ⟨e, _⟩ | ⟨g', c, cur, e, hb', hgg, _⟩
  · rw [e] at hg; cases hg
  · rw [e] at hg
    cases hg
    rcases (hS _ m).2 with e | e
    · have e2 : g' = t := e
      omega
    · exact e _ _ _ hgg
/-- Nothing but the table's own blocks was touched. -/
def Tch (w : World) (t : Nat) (wr w' : World) : Prop := Och 27 w t wr w'
theorem Tch.bk {w wr w' : World} {t g : Nat} {T : TypeId} {vs : List Value} (h : Tch w t wr w') (b : Bk wr g T vs) (hg : g ≠ t) : Bk w' g T vs := Och.bk h b hg
theorem Tch.kp {w wr w' : World} {t : Nat} (h : Tch w t wr w') (k : Kp [] w wr) : Kp [] w w' := Och.kp h k
theorem Tch.of {w wr w' : World} {t : Nat} (k : Kp [] wr w') : Tch w t wr w' := Och.of k
theorem Tch.size {w wr w' : World} {t : Nat} (h : Tch w t wr w') : wr.heap.size ≤ w'.heap.size := Och.size h
theorem Tch.pl {w wr w' : World} {t base : Nat} {v : Value} {ps : List (Int × Int)} (h : Tch w t wr w') (p : Pl base wr v ps) (hb : t < base) : Pl base w' v ps := Och.pl h p hb
theorem Tch.trans {w a b c : World} {t : Nat} (h : Tch w t a b) (k : Tch w t b c) : Tch w t a c := Och.trans h k
theorem Tch.more {w a b c : World} {t : Nat} {S : List Nat} (h : Tch w t a b) (k : Kp S b c) (hS : ∀ i ∈ S, a.heap.size ≤ i) (hw : w.heap.size ≤ a.heap.size) : Tch w t a c := Och.more h k hS
theorem Tch.pre {w wr W w' : World} {t : Nat} (k : Kp [] wr W) (T : Tch w t W w') : Tch w t wr w' := Och.pre k T
theorem PT.noc {w : World} {t b : Nat} {L : List Sl} (h : PT w t (some b) L) : ∀ c T z, w.heap[b]? ≠ some (.cells c T z) := by
  intro c T z q
  obtain ⟨es, clock, hb, _⟩ := h.mo
  rw [hb] at q
  cases q
theorem kp_two {w : World} {q : Nat} (c d : Value) : Kp [q] w ((w.setCell ⟨q, 0, none⟩ c).setCell ⟨q, 1, none⟩ d) := ((Kp.refl [q] w).setCell (.inl (by simp)) _).setCell (.inl (by simp)) _
theorem bk2 {w : World} {q : Nat} {T : TypeId} {a b c d : Value} (h : Bk w q T [a, b]) : Bk ((w.setCell ⟨q, 0, none⟩ c).setCell ⟨q, 1, none⟩ d) q T [c, d] := (h.set 0 c).set 1 d
theorem tch_of {w wr w' : World} {t : Nat} {m m' : Option Nat} {L L' : List Sl} (hp : PT wr t m L) (hm : ∀ b, m = some b → w.heap.size ≤ b) (ht : w.heap.size ≤ t) (k : Kp (t :: m.toList) wr w') (hp' : PT w' t m' L') (hm' : ∀ b, m' = some b → m = some b ∨ wr.heap.size ≤ b) : Tch w t wr w' := by
  refine ⟨_, k, fun i mi => ?_, fun _ => ⟨fun i mi => ?_, fun i b => ?_⟩⟩
  · rcases List.mem_cons.1 mi with e | e
    · exact ⟨by omega, .inl e⟩
    · have e' : m = some i := Option.mem_toList.1 e
      subst e'
      exact ⟨hm i rfl, .inr hp.noc⟩
  · rcases List.mem_cons.1 mi with e | e
    · exact .inl e
    · have e' : m = some i := Option.mem_toList.1 e
      subst e'
      exact .inr (.inl hp.head)
  · have h1 := hp'.head
    unfold Bk at b h1
    rw [h1] at b
    have e : m' = some i := by simpa using b
    rcases hm' i e with q | q
    · subst q
      exact .inl hp.head
    · exact .inr q
/-- Since w: at t there is a table of the slots L, in memory that is new since w. -/
structure Tb (w : World) (t : Nat) (L : List Sl) (wr : World) : Prop where
  kp : Kp [] w wr
  tab : ∃ m, PT wr t m L ∧ ∀ b, m = some b → w.heap.size ≤ b
  new : w.heap.size ≤ t
theorem Tb.grew {w wr w' : World} {t : Nat} {L : List Sl} (h : Tb w t L wr) (k : Kp [] wr w') : Tb w t L w' := by
  obtain ⟨m, hp, hm⟩ := h.tab
  exact ⟨h.kp.then k, ⟨m, hp.grew k, hm⟩, h.new⟩
theorem Tb.lt {w wr : World} {t : Nat} {L : List Sl} (h : Tb w t L wr) : t < wr.heap.size := by
  obtain ⟨m, hp, hm⟩ := h.tab
  exact hp.head.lt
/-- A block beside the table was written. -/
theorem Tb.beside {w wr w' : World} {t g : Nat} {L : List Sl} {T : TypeId} {vs : List Value} (h : Tb w t L wr) (k : Kp [g] wr w') (b : Bk wr g T vs) (hg : g ≠ t) (hn : w.heap.size ≤ g) : Tb w t L w' := by
  obtain ⟨m, hp, hm⟩ := h.tab
  refine ⟨h.kp.trans k (by simp) (by simpa using hn), ⟨m, hp.kept k (by simpa using (Ne.symm hg)) (fun b' e q => ?_), hm⟩, h.new⟩
  subst e
  have q' : b' = g := by simpa using q
  subst q'
  exact hp.noc _ _ _ b
theorem Tb.of {w : World} {t : Nat} {W : World} {wr : World} (k : Kp [] w W) (ht : t = W.heap.size) (k' : Kp [] (W.alloc (.cells #[.map none] 27)) wr) : Tb w t [] wr := by
  subst ht
  exact ⟨(k.alloc _).then k', ⟨none, (PT.new W).grew k', by simp⟩, k.size⟩
/-- What a change of the table leaves. -/
def TbP (w : World) (t : Nat) (L : List Sl) (wr : World) (v : Value) (e : Ending) (w' : World) : Prop := e = .returned v ∧ Tb w t L w' ∧ Tch w t wr w'
theorem bput_yes {w wr : World} {t : Nat} {L L' : List Sl} (h : Tb w t L wr) {n s k o z b r u v : Int} (hi : PIn (n, s)) (hu : PIn (u, v)) (hp : putP L n s k o z b r u v) (hL : L.length < 65536) (e : insL L ⟨n, s, u, v, k, o, z, b, r⟩ = L') :
    Calls Try.prog 10 #[.pointer (some ⟨t, 0, none⟩), .agg #[.int .i64 n, .int .i64 s], .agg #[.int .i64 k, .int .i64 o, .int .i64 z, .int .i64 b, .int .i64 r], .agg #[.int .i64 u, .int .i64 v]] wr (TbP w t L' wr (.bool true)) := by
  obtain ⟨m, h1, h2⟩ := h.tab
  subst e
  refine (put_yes h1 hi hu hp hL).mono ?_
  rintro e' w' ⟨rfl, m', hT, hK, hm⟩
  have T := tch_of h1 h2 h.new hK hT hm
  refine ⟨rfl, ⟨T.kp h.kp, ⟨m', hT, fun b hb => ?_⟩, h.new⟩, T⟩
  rcases hm b hb with q | q
  · exact h2 b q
  · exact Nat.le_trans h.kp.size q
theorem bput_no {w wr : World} {t : Nat} {L : List Sl} (h : Tb w t L wr) {n s k o z b r u v : Int} (hi : PIn (n, s)) (hu : PIn (u, v)) (hp : ¬ putP L n s k o z b r u v) :
    Calls Try.prog 10 #[.pointer (some ⟨t, 0, none⟩), .agg #[.int .i64 n, .int .i64 s], .agg #[.int .i64 k, .int .i64 o, .int .i64 z, .int .i64 b, .int .i64 r], .agg #[.int .i64 u, .int .i64 v]] wr (TbP w t L wr (.bool false)) := by
  obtain ⟨m, h1, h2⟩ := h.tab
  refine (put_no h1 hi hu hp).mono ?_
  rintro e' w' ⟨rfl, hK⟩
  exact ⟨rfl, h.grew hK, .of hK⟩
end Go.Proofs.Ythjhpcbhkcmghaa
