/- The program's endpoint and the document's, beside one another. -/
import Derived.Test.YthnpkojfkhndoaaKTe
import Derived.Test.YthnpkojfkhndoaaKArgs
namespace Go.Proofs.Ythnpkojfkhndoaa
open Go.RowKit
set_option linter.unusedVariables false
set_option linter.unusedSimpArgs false
/-- Both answer the same, and have the same. -/
structure BoE (S : List Ms) (R : List Rc) (args : List Value) (fp fd : Nat) (v : Value) (S' : List Ms) (R' : List Rc) : Prop where
  prog : ∀ {w wr : World} {t : Nat} {F : List Nat}, EIn w t S R F wr → Calls Try.prog fp (.pointer (some ⟨t, 0, none⟩) :: args).toArray wr (EC w t S' R' F wr v)
  doc : ∀ {base : Nat} {wr : World} {y : Nat} {a : Option Addr} {ca : Nat} {b : Option Addr} {cb : Nat}, RE base wr y a ca S b cb R → Calls Try.prog fd (.pointer (some ⟨y, 0, none⟩) :: args).toArray wr (REP base y wr a b v S' R')
  len : S'.length + R'.length ≤ S.length + R.length + 1
theorem bothe_send {S : List Ms} {R : List Rc} (h1 : S = [] ∨ R = []) (hL : S.length + R.length < 65536) {q1 q2 : Int} (hi : IdW q1 q2) (wd bd : Int) (cl : Bool) :
    ∃ f1 f2 fr is S' R', BoE S R [.agg #[.int .i64 q1, .int .i64 q2, .int .u32 wd, .int .i64 bd, .bool cl]] 8 9 (.tuple #[.agg #[.int .i64 f1, .int .i64 f2, .int .i64 fr], .bool is]) S' R' := by
  cases R with
  | nil =>
    have hS : S.length < 65536 := by have : S.length + ([] : List Rc).length = S.length := rfl; omega
    exact ⟨0, 0, 0, false, _, [], ⟨fun h => esend_no h hS hi wd bd cl, fun h => resend_no h hS q1 q2 wd bd cl, by simp⟩⟩
  | cons r R =>
    obtain ⟨f1, f2, fr⟩ := r
    exact ⟨f1, f2, fr, true, S, R, ⟨fun h => esend_yes h hi wd bd cl, fun h => resend_yes h q1 q2 wd bd cl, by simp; omega⟩⟩
theorem bothe_recv {S : List Ms} {R : List Rc} (h1 : S = [] ∨ R = []) (hL : S.length + R.length < 65536) {q1 q2 : Int} (hi : IdW q1 q2) (rp : Int) :
    ∃ f1 f2 fw fb fc is S' R', BoE S R [.agg #[.int .i64 q1, .int .i64 q2, .int .i64 rp]] 12 13 (.tuple #[.agg #[.int .i64 f1, .int .i64 f2, .int .u32 fw, .int .i64 fb, .bool fc], .bool is]) S' R' := by
  cases S with
  | nil =>
    have hR : R.length < 65536 := by have : ([] : List Ms).length + R.length = R.length := Nat.zero_add _; omega
    exact ⟨0, 0, 0, 0, false, false, [], _, ⟨fun h => erecv_no h hR hi rp, fun h => rerecv_no h hR q1 q2 rp, by simp⟩⟩
  | cons m S =>
    obtain ⟨f1, f2, fw, fb, fc⟩ := m
    exact ⟨f1, f2, fw, fb, fc, true, S, R, ⟨fun h => erecv_yes h hi rp, fun h => rerecv_yes h q1 q2 rp, by simp; omega⟩⟩
theorem bothe_drop (S : List Ms) (R : List Rc) {q1 q2 : Int} (hi : IdW q1 q2) :
    ∃ is S' R', BoE S R [.agg #[.int .i64 q1, .int .i64 q2]] 10 11 (.bool is) S' R' :=
  ⟨_, _, _, ⟨fun h => edrop h hi rfl rfl rfl, fun h => redrop h rfl rfl rfl, by have := List.length_filter_le (msN (q1, q2)) S; have := List.length_filter_le (rcN (q1, q2)) R; omega⟩⟩
theorem Te.start {w W : World} {t : Nat} (k : Kp [] w W) (ht : W.heap.size = t) : Te w t [] [] [] [] [] ((W.alloc (.cells #[.slice none 0 0, .int .i64 0, .slice none 0 0, .int .i64 0] 31)).alloc (.cells #[.slice none 0 0, .slice none 0 0] 35)) := by
  refine ⟨[], EIn.of k ht.symm ((Kp.refl [] _).alloc _), (show BoxOk _ _ [] from fun b m => by cases m), List.not_mem_nil, none, 0, none, 0, ?_, (show Off _ _ _ from fun g e => by cases e), (show Off _ _ _ from fun g e => by cases e)⟩
  have := RE.start (t + 1) (W.alloc (.cells #[.slice none 0 0, .int .i64 0, .slice none 0 0, .int .i64 0] 31)) (by simp [ht])
  simp only [World.size_alloc, ht] at this
  exact this
theorem Tp.start {w W : World} {t : Nat} (k : Kp [] w W) (ht : W.heap.size = t) : Tp w t [] [] [] (W.alloc (.cells #[.slice none 0 0, .int .i64 0, .slice none 0 0, .int .i64 0] 31)) :=
  ⟨[], EIn.of k ht.symm (Kp.refl [] _), (show BoxOk _ _ [] from fun b m => by cases m)⟩
theorem Tp.one {w wx : World} {t : Nat} {S : List Ms} {R : List Rc} {B : List Box} (h : Tp w t S R B wx) : S = [] ∨ R = [] := by
  obtain ⟨F, h1, _⟩ := h
  exact h1.one
theorem Tp.lt {w wx : World} {t : Nat} {S : List Ms} {R : List Rc} {B : List Box} (h : Tp w t S R B wx) : t < wx.heap.size := by
  obtain ⟨F, h1, _⟩ := h
  exact h1.lt
theorem do4_e {w w' : World} {a : Option Addr} {len : Nat} {V : Nat → Nat → Value} (h : Recs w a len 4 V) (k : Kp [] w w') {j : Nat} (hj : j < len) : ∃ b off, a = some ⟨b, off, none⟩ ∧ ∀ i, i < 4 → w'.cell? ⟨b, off + (j * 4 + i), none⟩ = some (V j i) := by
  obtain ⟨_, hz | ⟨b, off, rfl, hc⟩⟩ := h
  · omega
  · exact ⟨b, off, rfl, fun i hi => k.cell (hc j i hj hi)⟩
/-- Three integers and a bool a thing. -/
def FourE (V : Nat → Nat → Value) (len : Nat) : Prop := ∀ i, i < len → (∃ n, V i 0 = .int .i64 n ∧ (Lit.int .i64 n).wf = true) ∧ (∃ n, V i 1 = .int .i64 n ∧ (Lit.int .i64 n).wf = true) ∧ (∃ n, V i 2 = .int .i64 n ∧ (Lit.int .i64 n).wf = true) ∧ (∃ b, V i 3 = .bool b)
set_option maxRecDepth 4000 in
set_option maxHeartbeats 1000000 in
theorem first_calls (w : World) : Calls Try.prog 6 #[] w fun e w' => e = .returned (.bool true) ∧ Kp [] w w' := by
  have X0 := hide (Tp.start (Kp.refl [] w) (t := w.heap.size) rfl)
  have hi1 : Hid (IdW 1 1) := idW_of (by decide) (by decide)
  have hi2 : Hid (IdW 2 1) := idW_of (by decide) (by decide)
  go_enter Try.func6, Try.ntmps6
  go_wp2_with fail
  generalize w.alloc (.cells #[.slice none 0 0, .int .i64 0, .slice none 0 0, .int .i64 0] 31) = W1 at *
  refine (Tp.prog (unhide X0) (fun F h => esend_no h (by simp) (unhide hi1) 5 0 false)).mono ?_
  rintro e W2 ⟨rfl, X2⟩
  replace X2 := hide (X2.grew ((Kp.refl [] W2).alloc (.cells #[.int .i64 0, .int .i64 0, .int .i64 0] 42)))
  clear X0
  go_wp2_with fail
  generalize W2.alloc (.cells #[.int .i64 0, .int .i64 0, .int .i64 0] 42) = W3 at *
  refine (Tp.prog (unhide X2) (fun F h => erecv_yes (S := []) h (unhide hi2) 0)).mono ?_
  rintro e W4 ⟨rfl, X4⟩
  have Y4 := hide (X4.box 47 [.int .i64 1, .int .i64 1, .int .u32 5, .int .i64 0, .bool false])
  have y2 := ((unhide Y4).bk (List.mem_cons_self ..)).cell (i := 2) rfl
  clear X2 X4
  go_wp2
  go_ret
  exact ⟨rfl, (unhide Y4).kp⟩
end Go.Proofs.Ythnpkojfkhndoaa
