/- The program's queue since a world: what a walk carries along; the chapter's examples. -/
import Derived.Test.YtennmoaaieedpaaKRq5
import Derived.Test.YtennmoaaieedpaaKSameJ
namespace Go.Proofs.Ytennmoaaieedpaa
open Go.RowKit
set_option linter.unusedVariables false
/-- Since w: at q there is the program's queue of these, in memory that is new since w and none of N. -/
structure QIn (N : List Nat) (w : World) (q : Nat) (L : List (Int × Int)) (wr : World) : Prop where
  kp : Kp [] w wr
  ok : QOk L
  small : L.length ≤ 65536
  st : ∃ vs, QR w.heap.size wr q vs (rowsOf L) ∧ ∀ g ∈ blks vs, g ∉ N
  old : ∀ n ∈ N, n < wr.heap.size
/-- What a change of the queue at q leaves alone. -/
structure Qch (N : List Nat) (w : World) (q : Nat) (wr w' : World) : Prop where
  size : wr.heap.size ≤ w'.heap.size
  cells : ∀ (k : Nat) (c : Array Value) (U : TypeId) (z : Nat × Nat), wr.heap[k]? = some (.cells c U z) → k ≠ q → (U ≠ 3 ∨ k ∈ N) → w'.heap[k]? = some (.cells c U z)
  kp : Kp [] w wr → Kp [] w w'
theorem Qch.of {N : List Nat} {w wr w' : World} {q : Nat} (k : Kp [] wr w') : Qch N w q wr w' := ⟨k.size, fun i c U z h _ _ => (k.block i (Array.getElem?_eq_some_iff.1 h).1 (by simp)).trans h, fun h => h.then k⟩
theorem Qch.trans {N : List Nat} {w a b c : World} {q : Nat} (h : Qch N w q a b) (k : Qch N w q b c) : Qch N w q a c := ⟨Nat.le_trans h.size k.size, fun i d U z e n m => k.cells i d U z (h.cells i d U z e n m) n m, fun e => k.kp (h.kp e)⟩
theorem Qch.bk {N : List Nat} {w wr w' : World} {q g : Nat} {T : TypeId} {vs : List Value} (h : Qch N w q wr w') (b : Bk wr g T vs) (hg : g ≠ q) (hT : T ≠ 3 ∨ g ∈ N) : Bk w' g T vs := h.cells g _ _ _ b hg hT
theorem Qch.rw {N : List Nat} {w wr w' : World} {q : Nat} {α : Type} {T : TypeId} {sz : Nat} {E : Gr.Enc α T sz} {base : Nat} {v : Value} {L : List α} (h : Qch N w q wr w') (r : Gr.Rw E base wr v L) (hg : ∀ g, v.ownBlock = some g → g ≠ q ∧ (T ≠ 3 ∨ g ∈ N)) : Gr.Rw E base w' v L := by
  refine ⟨r.1, ?_⟩
  rcases r.2 with hz | ⟨g, c, cur, e, hb, hh, rest⟩
  · exact .inl hz
  · have := hg g (by rw [e]; rfl)
    exact .inr ⟨g, c, cur, e, hb, h.cells g _ _ _ hh this.1 this.2, rest⟩
theorem QIn.lt {N : List Nat} {w wr : World} {q : Nat} {L : List (Int × Int)} (h : QIn N w q L wr) : q < wr.heap.size := by
  obtain ⟨vs, hs, _⟩ := h.st
  exact hs.head.lt
theorem QIn.new {N : List Nat} {w wr : World} {q : Nat} {L : List (Int × Int)} (h : QIn N w q L wr) : w.heap.size ≤ q := by
  obtain ⟨vs, hs, _⟩ := h.st
  exact hs.new
theorem QIn.grew {N : List Nat} {w wr w' : World} {q : Nat} {L : List (Int × Int)} (h : QIn N w q L wr) (k : Kp [] wr w') : QIn N w q L w' := by
  obtain ⟨vs, hs, hn⟩ := h.st
  exact ⟨h.kp.then k, h.ok, h.small, ⟨vs, hs.grew k, hn⟩, fun n m => Nat.lt_of_lt_of_le (h.old n m) k.size⟩
/-- A block beside the queue was written. -/
theorem QIn.beside {N : List Nat} {w wr w' : World} {q g : Nat} {L : List (Int × Int)} {T : TypeId} {vs : List Value} (h : QIn N w q L wr) (k : Kp [g] wr w') (b : Bk wr g T vs) (hg : g ≠ q) (hT : T ≠ 3 ∨ g ∈ N) (hn : w.heap.size ≤ g) : QIn N w q L w' := by
  obtain ⟨us, hs, hm⟩ := h.st
  refine ⟨h.kp.trans k (by simp) (by simpa using hn), h.ok, h.small, ⟨us, ⟨hs.head.kept k (by simpa using (Ne.symm hg)), hs.len, fun i v hv => (hs.own i v hv).kept k (fun g' e m => ?_), hs.apart, hs.new, hs.small⟩, hm⟩, fun n m => Nat.lt_of_lt_of_le (h.old n m) k.size⟩
  have hmem : g' ∈ blks us := blks_mem.2 ⟨v, List.mem_of_getElem? hv, e⟩
  have e' : g' = g := by simpa using m
  subst e'
  rcases hT with hT | hT
  · obtain ⟨_, _, _, c, hc⟩ := hs.row_ne hmem
    unfold Bk at b
    rw [b] at hc
    simp at hc
    exact hT hc.2
  · exact hm g' hmem hT
/-- A new block is to be let alone from now on. -/
theorem QIn.mark {N : List Nat} {w wr : World} {q g : Nat} {L : List (Int × Int)} (h : QIn N w q L wr) (hg : g < wr.heap.size) (hf : ∀ vs, QR w.heap.size wr q vs (rowsOf L) → g ∉ blks vs) : QIn (g :: N) w q L wr := by
  obtain ⟨vs, hs, hn⟩ := h.st
  refine ⟨h.kp, h.ok, h.small, ⟨vs, hs, fun g' m m' => ?_⟩, fun n m => ?_⟩
  · rcases List.mem_cons.1 m' with e | e
    · subst e; exact hf vs hs m
    · exact hn g' m e
  · rcases List.mem_cons.1 m with e | e
    · subst e; exact hg
    · exact h.old n e
def nilQ : Array Value := #[.slice none 0 0, .slice none 0 0, .slice none 0 0, .slice none 0 0, .slice none 0 0, .slice none 0 0, .slice none 0 0, .slice none 0 0]
theorem QIn.of {w W wr : World} {q : Nat} (k : Kp [] w W) (hq : q = W.heap.size) (k' : Kp [] (W.alloc (.cells #[.slice none 0 0, .slice none 0 0, .slice none 0 0, .slice none 0 0, .slice none 0 0, .slice none 0 0, .slice none 0 0, .slice none 0 0] 27)) wr) : QIn [] w q [] wr := by
  subst hq
  exact ⟨(k.alloc _).then k', .nil, by simp, ⟨_, ((QR.start w.heap.size W k.size).rows (fun i _ => rfl)).grew k', by simp⟩, by simp⟩
/-- What a change of the queue leaves. -/
def QInC (N : List Nat) (w : World) (q : Nat) (L' : List (Int × Int)) (wr : World) (v : Value) (e : Ending) (w' : World) : Prop := e = .returned v ∧ QIn N w q L' w' ∧ Qch N w q wr w'
theorem qinc_of {N : List Nat} {w wr : World} {q : Nat} {vs : List Value} {L L' : List (Int × Int)} {v : Value} {e : Ending} {w' : World} (h : QIn N w q L wr) (hs : QR w.heap.size wr q vs (rowsOf L)) (hn : ∀ g ∈ blks vs, g ∉ N) (ok : QOk L') (hl : L'.length ≤ 65536) (hc : QC w.heap.size q vs L' wr v e w') : QInC N w q L' wr v e w' := by
  obtain ⟨rfl, vs', hs', hT⟩ := hc
  have hS : ∀ i ∈ q :: blks vs, w.heap.size ≤ i := by
    intro i hi
    rcases List.mem_cons.1 hi with e | e
    · rw [e]; exact hs.new
    · exact (hs.row_ne e).2.1
  have hKw : Kp [] w wr → Kp [] w w' := fun k => k.trans hT.kp (by simp) (fun i hi => .inr (hS i hi))
  refine ⟨rfl, ⟨hKw h.kp, ok, hl, ⟨vs', hs', fun g m => ?_⟩, fun n m => Nat.lt_of_lt_of_le (h.old n m) hT.kp.size⟩, ⟨hT.kp.size, fun i c U z hi hne hU => ?_, hKw⟩⟩
  · rcases hT.bl g m with e | e
    · exact hn g e
    · intro m'
      have := h.old g m'
      omega
  · refine (hT.kp.block i (Array.getElem?_eq_some_iff.1 hi).1 (fun m => ?_)).trans hi
    rcases List.mem_cons.1 m with e | e
    · exact hne e
    · rcases hU with hU | hU
      · obtain ⟨_, _, _, c', hc'⟩ := hs.row_ne e
        rw [hi] at hc'
        simp at hc'
        exact hU hc'.2.1
      · exact hn i e hU
theorem qadd_in {N : List Nat} {w wr : World} {q : Nat} {L L' : List (Int × Int)} (h : QIn N w q L wr) {t p : Int} {is : Bool} (hL : L.length < 65536) (h1 : (qAdd L t p).getD L = L') (h2 : (qAdd L t p).isSome = is) :
    Calls Try.prog 8 #[.pointer (some ⟨q, 0, none⟩), .int .i64 t, .int .i64 p] wr (QInC N w q L' wr (.bool is)) := by
  obtain ⟨vs, hs, hn⟩ := h.st
  have hok : QOk L' ∧ L'.length ≤ 65536 := by
    rw [← h1]
    cases e : qAdd L t p with
    | none => exact ⟨h.ok, h.small⟩
    | some M => have := qAdd_ok h.ok e; exact ⟨this.1, by have := this.2; simp only [Option.getD_some]; omega⟩
  exact (padd hs h.ok hL h1 h2).mono fun e w' hc => qinc_of h hs hn hok.1 hok.2 hc
theorem qrem_in {N : List Nat} {w wr : World} {q : Nat} {L L' : List (Int × Int)} (h : QIn N w q L wr) {t : Int} {is : Bool} (h1 : qDel L t = L') (h2 : (qAt L t).isSome = is) :
    Calls Try.prog 10 #[.pointer (some ⟨q, 0, none⟩), .int .i64 t] wr (QInC N w q L' wr (.bool is)) := by
  obtain ⟨vs, hs, hn⟩ := h.st
  subst h1
  exact (prem hs h.ok rfl h2).mono fun e w' hc => qinc_of h hs hn (h.ok.del t) (Nat.le_trans (qDel_len L t) h.small) hc
theorem qset_in {N : List Nat} {w wr : World} {q : Nat} {L L' : List (Int × Int)} (h : QIn N w q L wr) {t p : Int} {is : Bool} (h1 : (qSet L t p).getD L = L') (h2 : (qSet L t p).isSome = is) :
    Calls Try.prog 12 #[.pointer (some ⟨q, 0, none⟩), .int .i64 t, .int .i64 p] wr (QInC N w q L' wr (.bool is)) := by
  obtain ⟨vs, hs, hn⟩ := h.st
  have hok : QOk L' ∧ L'.length ≤ L.length := by
    rw [← h1]
    cases e : qSet L t p with
    | none => exact ⟨h.ok, Nat.le_refl _⟩
    | some M => exact qSet_ok h.ok e
  exact (pset hs h.ok h1 h2 h.small).mono fun e w' hc => qinc_of h hs hn hok.1 (Nat.le_trans hok.2 h.small) hc
theorem qpick_in {N : List Nat} {w wr : World} {q : Nat} {L L' : List (Int × Int)} (h : QIn N w q L wr) {i t : Int} {is : Bool} (h1 : qPicked L (qPick L i) = L') (h2 : (qPick L i).getD 0 = t) (h3 : (qPick L i).isSome = is) :
    Calls Try.prog 14 #[.pointer (some ⟨q, 0, none⟩), .int .i64 i] wr (QInC N w q L' wr (.tuple #[.int .i64 t, .bool is])) := by
  obtain ⟨vs, hs, hn⟩ := h.st
  have hok := qPicked_ok h.ok h1
  exact (ppick hs h.ok h1 h2 h3).mono fun e w' hc => qinc_of h hs hn hok.1 (Nat.le_trans hok.2 h.small) hc
theorem qprio_in {N : List Nat} {w wr : World} {q : Nat} {L : List (Int × Int)} (h : QIn N w q L wr) {t p : Int} {is : Bool} (h1 : (qPr L t).getD 0 = p) (h2 : (qPr L t).isSome = is) :
    Calls Try.prog 16 #[.pointer (some ⟨q, 0, none⟩), .int .i64 t] wr fun e w' => e = .returned (.tuple #[.int .i64 p, .bool is]) ∧ Kp [] wr w' := by
  obtain ⟨vs, hs, hn⟩ := h.st
  exact pprio_to hs h.ok h1 h2
theorem qready_in {N : List Nat} {w wr : World} {q : Nat} {L : List (Int × Int)} {zs : List Int} (h : QIn N w q L wr) (hz : qReady L = zs) :
    Calls Try.prog 19 #[.pointer (some ⟨q, 0, none⟩)] wr (ListI wr zs) := by
  obtain ⟨vs, hs, hn⟩ := h.st
  exact pready hs h.ok hz
set_option maxRecDepth 4000 in
set_option maxHeartbeats 2000000 in
theorem first_calls (w : World) : Calls Try.prog 6 #[] w fun e w' => e = .returned (.bool true) ∧ Kp [] w w' := by
  have X0 := hide (QIn.of (w := w) (Kp.refl [] w) rfl (Kp.refl [] _))
  go_enter Try.func6, Try.ntmps6
  go_wp2_with fail
  generalize w.alloc (.cells #[.slice none 0 0, .slice none 0 0, .slice none 0 0, .slice none 0 0, .slice none 0 0, .slice none 0 0, .slice none 0 0, .slice none 0 0] 27) = W1 at *
  refine (qpick_in (L' := []) (t := 0) (is := false) (unhide X0) rfl rfl rfl).mono ?_
  rintro e W2 ⟨rfl, X2, _⟩
  replace X2 := hide X2
  clear X0
  go_wp2_with fail
  refine (qadd_in (L' := [(5, 3)]) (is := true) (unhide X2) (by decide) rfl rfl).mono ?_
  rintro e W3 ⟨rfl, X3, _⟩
  replace X3 := hide X3
  clear X2
  go_wp2_with fail
  refine (qadd_in (L' := [(5, 3)]) (is := false) (unhide X3) (by decide) rfl rfl).mono ?_
  rintro e W4 ⟨rfl, X4, _⟩
  replace X4 := hide X4
  clear X3
  go_wp2_with fail
  refine (qready_in (zs := [5]) (unhide X4) rfl).mono ?_
  rintro e W5 ⟨v, rfl, hR, K5⟩
  obtain ⟨a, c, rfl⟩ := hR.form
  have K6 := hide ((unhide X4).kp.then K5)
  clear hR K5 X4
  simp only [List.length_cons, List.length_nil]
  go_wp2
  go_ret
  exact ⟨rfl, unhide K6⟩
end Go.Proofs.Ytennmoaaieedpaa
