/- The program's maps since a world: what a walk carries along; the chapter's examples. -/
import Derived.Test.YtlallciikcmjmaaKAllPg
import Derived.Test.YtlallciikcmjmaaKDelPg
namespace Go.Proofs.Ytlallciikcmjmaa
open Go.RowKit
set_option linter.unusedVariables false
/-- Since w: at y there are the program's maps of these pages, in memory that is new since w. -/
structure SpIn (w : World) (y : Nat) (L : List Pg) (wr : World) : Prop where
  kp : Kp [] w wr
  sp : ∃ m, SP wr y m L ∧ ∀ b, m = some b → w.heap.size ≤ b
  new : w.heap.size ≤ y
/-- What a change of the maps at y leaves alone. -/
structure Sch (w : World) (y : Nat) (wr w' : World) : Prop where
  size : wr.heap.size ≤ w'.heap.size
  cells : ∀ k c U z, wr.heap[k]? = some (.cells c U z) → k ≠ y → w'.heap[k]? = some (.cells c U z)
  kp : Kp [] w wr → Kp [] w w'
theorem Sch.of {w wr w' : World} {y : Nat} (k : Kp [] wr w') : Sch w y wr w' := ⟨k.size, fun i c U z h _ => (k.block i (Array.getElem?_eq_some_iff.1 h).1 (by simp)).trans h, fun h => h.then k⟩
theorem Sch.trans {w a b c : World} {y : Nat} (h : Sch w y a b) (k : Sch w y b c) : Sch w y a c := ⟨Nat.le_trans h.size k.size, fun i d U z q n => k.cells i d U z (h.cells i d U z q n) n, fun q => k.kp (h.kp q)⟩
theorem Sch.bk {w wr w' : World} {y g : Nat} {T : TypeId} {vs : List Value} (h : Sch w y wr w') (b : Bk wr g T vs) (hg : g ≠ y) : Bk w' g T vs := h.cells g _ _ _ b hg
theorem Sch.rw {w wr w' : World} {y : Nat} {α : Type} {T : TypeId} {sz : Nat} {E : Gr.Enc α T sz} {base : Nat} {v : Value} {L : List α} (h : Sch w y wr w') (r : Gr.Rw E base wr v L) (hg : ∀ g, v.ownBlock = some g → g ≠ y) : Gr.Rw E base w' v L := by
  refine ⟨r.1, ?_⟩
  rcases r.2 with hz | ⟨g, c, cur, e, hb, hh, rest⟩
  · exact .inl hz
  · exact .inr ⟨g, c, cur, e, hb, h.cells g _ _ _ hh (hg g (by rw [e]; rfl)), rest⟩
theorem SpIn.lt {w wr : World} {y : Nat} {L : List Pg} (h : SpIn w y L wr) : y < wr.heap.size := by
  obtain ⟨m, hs, _⟩ := h.sp
  exact hs.head.lt
theorem SpIn.grew {w wr w' : World} {y : Nat} {L : List Pg} (h : SpIn w y L wr) (k : Kp [] wr w') : SpIn w y L w' := by
  obtain ⟨m, hs, hm⟩ := h.sp
  exact ⟨h.kp.then k, ⟨m, hs.grew k, hm⟩, h.new⟩
theorem SpIn.small {w wr : World} {y : Nat} {L : List Pg} (h : SpIn w y L wr) : L.length ≤ 65536 := by
  obtain ⟨m, hs, _⟩ := h.sp
  exact hs.small
theorem SpIn.ok {w wr : World} {y : Nat} {L : List Pg} (h : SpIn w y L wr) : ∀ x ∈ L, pageOk x.s x.p = true := by
  obtain ⟨m, hs, _⟩ := h.sp
  exact hs.ok
theorem SpIn.rises {w wr : World} {y : Nat} {L : List Pg} (h : SpIn w y L wr) : PgRises L := by
  obtain ⟨m, hs, _⟩ := h.sp
  exact hs.rises
/-- A block of cells beside the maps was written. -/
theorem SpIn.beside {w wr w' : World} {y g : Nat} {L : List Pg} {T : TypeId} {vs : List Value} (h : SpIn w y L wr) (k : Kp [g] wr w') (b : Bk wr g T vs) (hg : g ≠ y) (hn : w.heap.size ≤ g) : SpIn w y L w' := by
  obtain ⟨m, hs, hm⟩ := h.sp
  refine ⟨h.kp.trans k (by simp) (by simpa using hn), ⟨m, hs.kept k (by simpa using (Ne.symm hg)) (fun b' e q => ?_), hm⟩, h.new⟩
  subst e
  have q' : b' = g := by simpa using q
  subst q'
  exact hs.mo.noc _ _ _ b
theorem SpIn.of {w W wr : World} {y : Nat} (k : Kp [] w W) (hy : y = W.heap.size) (k' : Kp [] (W.alloc (.cells #[.map none] 26)) wr) : SpIn w y [] wr := by
  subst hy
  exact ⟨(k.alloc _).then k', ⟨none, (SP.new W).grew k', by simp⟩, k.size⟩
/-- What a change of the maps leaves. -/
def SpC (w : World) (y : Nat) (L : List Pg) (wr : World) (v : Value) (e : Ending) (w' : World) : Prop := e = .returned v ∧ SpIn w y L w' ∧ Sch w y wr w'
theorem spc_of {w wr : World} {y : Nat} {m : Option Nat} {L L' : List Pg} {v : Value} {e : Ending} {w' : World} (k : Kp [] w wr) (hs : SP wr y m L) (hm : ∀ b, m = some b → w.heap.size ≤ b) (hn : w.heap.size ≤ y) (h : SPP wr y m L' v e w') : SpC w y L' wr v e w' := by
  obtain ⟨rfl, m', hT, hK, hm'⟩ := h
  have hS : ∀ i ∈ y :: m.toList, w.heap.size ≤ i := by
    intro i hi
    rcases List.mem_cons.1 hi with q | q
    · rw [q]; exact hn
    · exact hm i (Option.mem_toList.1 q)
  have hKw : Kp [] w wr → Kp [] w w' := fun q => q.trans hK (by simp) (fun i hi => .inr (hS i hi))
  refine ⟨rfl, ⟨hKw k, ⟨m', hT, fun b hb => ?_⟩, hn⟩, hK.size, fun i c U z hi hne => ?_, hKw⟩
  · rcases hm' b hb with q | q
    · exact hm b q
    · exact Nat.le_trans k.size q
  · refine (hK.block i (Array.getElem?_eq_some_iff.1 hi).1 (fun q => ?_)).trans hi
    rcases List.mem_cons.1 q with q | q
    · exact hne q
    · have e : m = some i := Option.mem_toList.1 q
      subst e
      exact hs.mo.noc _ _ _ hi
theorem spset_yes {w wr : World} {y : Nat} {L L' : List Pg} (h : SpIn w y L wr) {s p f r : Int} (hp : setP L s p f r) (hL : L.length < 65536) (e : pgIns L ⟨s, p, f, r⟩ = L') :
    Calls Try.prog 11 #[.pointer (some ⟨y, 0, none⟩), .agg #[.int .i64 s, .int .i64 p], .agg #[.int .i64 f, .int .i64 r]] wr (SpC w y L' wr (.bool true)) := by
  subst e
  obtain ⟨m, hs, hm⟩ := h.sp
  exact (sset_yes hs (pageOk_in (setP_iff.1 hp).1) hp hL).mono fun e' w' q => spc_of h.kp hs hm h.new q
theorem spset_no {w wr : World} {y : Nat} {L : List Pg} (h : SpIn w y L wr) {s p f r : Int} (hi : PgIn (s, p)) (hp : ¬ setP L s p f r) :
    Calls Try.prog 11 #[.pointer (some ⟨y, 0, none⟩), .agg #[.int .i64 s, .int .i64 p], .agg #[.int .i64 f, .int .i64 r]] wr fun e w' => e = .returned (.bool false) ∧ Kp [] wr w' := by
  obtain ⟨m, hs, hm⟩ := h.sp
  exact sset_no hs hi hp
theorem spget {w wr : World} {y : Nat} {L : List Pg} (h : SpIn w y L wr) {s p a b : Int} {is : Bool} (hi : PgIn (s, p)) (hV : mapV (pgGet L s p) = .agg #[.int .i64 a, .int .i64 b]) (hIs : (pgGet L s p).isSome = is) :
    Calls Try.prog 20 #[.pointer (some ⟨y, 0, none⟩), .agg #[.int .i64 s, .int .i64 p]] wr fun e w' => e = .returned (.tuple #[.agg #[.int .i64 a, .int .i64 b], .bool is]) ∧ Kp [] wr w' := by
  obtain ⟨m, hs, hm⟩ := h.sp
  rw [← hV, ← hIs]
  exact sget_calls hs hi
theorem spclear {w wr : World} {y : Nat} {L L' : List Pg} (h : SpIn w y L wr) {s p : Int} {is : Bool} (hi : PgIn (s, p)) (hIs : (pgGet L s p).isSome = is) (e : pgDel L s p = L') :
    Calls Try.prog 13 #[.pointer (some ⟨y, 0, none⟩), .agg #[.int .i64 s, .int .i64 p]] wr (SpC w y L' wr (.bool is)) := by
  subst e
  obtain ⟨m, hs, hm⟩ := h.sp
  rw [← hIs]
  exact (sclear_calls hs hi).mono fun e' w' q => spc_of h.kp hs hm h.new q
theorem spdrop {w wr : World} {y : Nat} {L L' : List Pg} (h : SpIn w y L wr) {fr n : Int} (e : (L.filter fun x => x.f != fr) = L') (hn : (L.length : Int) - (L'.length : Int) = n) :
    Calls Try.prog 15 #[.pointer (some ⟨y, 0, none⟩), .int .i64 fr] wr (SpC w y L' wr (.int .i64 n)) := by
  subst e hn
  obtain ⟨m, hs, hm⟩ := h.sp
  exact (sdrop_calls hs fr).mono fun e' w' q => spc_of h.kp hs hm h.new q
theorem spempty {w wr : World} {y : Nat} {L L' : List Pg} (h : SpIn w y L wr) {sp n : Int} (e : (L.filter fun x => x.s != sp) = L') (hn : (L.length : Int) - (L'.length : Int) = n) :
    Calls Try.prog 17 #[.pointer (some ⟨y, 0, none⟩), .int .i64 sp] wr (SpC w y L' wr (.int .i64 n)) := by
  subst e hn
  obtain ⟨m, hs, hm⟩ := h.sp
  exact (sempty_calls hs sp).mono fun e' w' q => spc_of h.kp hs hm h.new q
theorem spall {w wr : World} {y : Nat} {L : List Pg} (h : SpIn w y L wr) {ps : List (Int × Int)} (e : pgs L = ps) :
    Calls Try.prog 12 #[.pointer (some ⟨y, 0, none⟩)] wr (ListG wr ps) := by
  subst e
  obtain ⟨m, hs, hm⟩ := h.sp
  exact sall_calls hs
theorem splook {w wr : World} {y : Nat} {L : List Pg} (h : SpIn w y L wr) {s a n r : Int} {o : Option (Int × Int)} (hs : -9223372036854775808 ≤ s ∧ s ≤ 9223372036854775807) (h0 : 0 ≤ a) (h1 : a < 4294967296) (hr : -9223372036854775808 ≤ r ∧ r ≤ 9223372036854775807) (ho : pgLook L s a n r = o) :
    Calls Try.prog 24 #[.pointer (some ⟨y, 0, none⟩), .int .i64 s, .int .u32 a, .int .i64 n, .int .i64 r] wr fun e w' => e = .returned (lookV o) ∧ Kp [] wr w' := by
  subst ho
  obtain ⟨m, hS, hm⟩ := h.sp
  exact slook_calls hS hs h0 h1 hr
theorem lookV_none : lookV none = .tuple #[.int .i64 0, .int .i64 0, .bool false] := rfl
theorem lookV_some (a b : Int) : lookV (some (a, b)) = .tuple #[.int .i64 a, .int .i64 b, .bool true] := rfl
set_option maxRecDepth 4000 in
set_option maxHeartbeats 1000000 in
theorem first_calls (w : World) : Calls Try.prog 8 #[] w fun e w' => e = .returned (.bool true) ∧ Kp [] w w' := by
  have X0 := hide (SpIn.of (w := w) (Kp.refl [] w) rfl (Kp.refl [] _))
  have hset : Hid (setP [] 1 2 3 1) := by unfold Hid; rw [setP_iff]; exact ⟨by decide, by decide, rfl⟩
  have hins : Hid (pgIns [] ⟨1, 2, 3, 1⟩ = [⟨1, 2, 3, 1⟩]) := rfl
  go_enter Try.func8, Try.ntmps8
  go_wp2_with fail
  generalize w.alloc (.cells #[.map none] 26) = W1 at *
  refine (splook (o := none) (unhide X0) (by decide) (by decide) (by decide) (by decide) rfl).mono ?_
  rintro e W2 ⟨rfl, K2⟩
  rw [lookV_none]
  have X2 := hide ((unhide X0).grew K2)
  clear X0 K2
  go_wp2_with fail
  refine (spset_yes (unhide X2) (unhide hset) (by decide) (unhide hins)).mono ?_
  rintro e W3 ⟨rfl, X3, S3⟩
  replace X3 := hide X3
  clear X2 S3
  go_wp2_with fail
  refine (spall (unhide X3) rfl).mono ?_
  rintro e W4 ⟨v, rfl, hR, K4⟩
  obtain ⟨a, c, rfl⟩ := hR.form
  have X4 := hide ((unhide X3).grew K4)
  clear hR K4 X3
  simp only [pgs, List.map_cons, List.map_nil, List.length_cons, List.length_nil]
  go_wp2
  go_ret
  exact ⟨rfl, (unhide X4).kp⟩
end Go.Proofs.Ytlallciikcmjmaa
