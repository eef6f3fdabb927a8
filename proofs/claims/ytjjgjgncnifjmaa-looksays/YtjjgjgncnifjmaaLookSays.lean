/- For all its arguments LookSays answers true, and its arguments read as before; no condition. -/
import Derived.Test.YtjjgjgncnifjmaaRows
import Derived.Test.YtjjgjgncnifjmaaKArgs
import Derived.Test.YtjjgjgncnifjmaaKSaysL
import Derived.Test.YtjjgjgncnifjmaaKArgs2
import Derived.WalkKit
import Derived.ProofKit
import Derived.OpenShut
import Derived.ShutString
import Derived.ChangeOld
import Derived.Below
namespace Go.Proofs.Ytjjgjgncnifjmaa.lookSays
open Go.ChangeShapes Go.WideShapes Go.ChangeAt Go.RowKit
set_option linter.unusedVariables false
theorem own : ownKnob Try.prog.godebug = none := by kernel_rfl
theorem laidOut : laidOutB Try.prog = true := by kernel_rfl
theorem arr5 (cs : Array Value) (h : cs.size = 5) : ∃ q0 q1 q2 q3 q4, cs = #[q0, q1, q2, q3, q4] := by
  obtain ⟨l⟩ := cs
  match l, h with
  | [q0, q1, q2, q3, q4], _ => exact ⟨q0, q1, q2, q3, q4, rfl⟩
set_option maxHeartbeats 2000000 in
set_option maxRecDepth 100000 in
theorem lifted (os : Os) (started : os.Started) (H : Type) (enc : TypeId × Value → H) :
    ReturnsInHanded {} Try.checked os 3 .any (Rows.lookSaysSpec.pre6 enc Try.prog Try.f3 Rows.lookSaysRow.domain false) (Rows.lookSaysSpec.post enc Try.prog Try.f3 false true false false) := by
  refine returnsInHanded_of_change (C := Try.checked) own started (by kernel_rfl) Try.func3
    (ChangeSpec.witness6 (enc := enc) (C := Try.checked) false ⟨#[], #[.slice none 0 0, .agg #[.int .i64 0, .int .i64 0, .int .i64 0, .int .i64 0, .int .i64 0], .int .u32 0, .int .i64 0], []⟩ 8 (by kernel_rfl) (by kernel_rfl) (by kernel_rfl) (by kernel_rfl)) ?_
  intro W base args ds gs before hval0 hW hcnd _
  have hval : ∀ (j : Nat) t v, Try.f3.params[j]? = some t → args[j]? = some v → Value.okWide Try.prog W .any base t v := hval0
  have hW' := hW
  obtain ⟨p, q, hA0, hV, rfl, hfz, hnd⟩ := hW
  have hA : DataW.TrodAll enc Try.prog W 0 (fun _ => true) true Try.f3.params.toList args.toList ds p := hA0
  rw [Try.params3] at hA hval
  obtain ⟨v0, vs0, d0, ds0, p0, q0, hargs, rfl, rfl, h0, r0⟩ := trodAll_cons hA
  obtain ⟨v1, vs1, d1, ds1, p1, q1, rfl, rfl, rfl, h1, r1⟩ := trodAll_cons r0
  obtain ⟨v2, vs2, d2, ds2, p2, q2, rfl, rfl, rfl, h2, r2⟩ := trodAll_cons r1
  obtain ⟨v3, vs3, d3, ds3, p3, q3, rfl, rfl, rfl, h3, r3⟩ := trodAll_cons r2
  obtain ⟨rfl, rfl, rfl⟩ := trodAll_nil r3
  obtain rfl : args = #[v0, v1, v2, v3] := by cases args; simp_all
  obtain ⟨rfl, rfl⟩ := trodVars_none hV
  obtain ⟨a0, len0, cap0, rfl⟩ := okWide_slice Try.underlying22 (hval 0 22 v0 rfl rfl)
  have k0 := h0
  have lt0 : ∀ x ∈ p0, x.block < W.heap.size := by obtain ⟨m, hm⟩ := k0; exact DataW.trod_lt m _ _ _ hm
  obtain ⟨z0, l0, w0⟩ := ints_of Try.underlying22 Try.underlying3 (by kernel_rfl) h0
  obtain ⟨cs1, rfl, sz1⟩ := okWide_struct Try.underlying24 (hval 1 24 v1 rfl rfl)
  have k1 := h1
  have lt1 : ∀ x ∈ p1, x.block < W.heap.size := by obtain ⟨m, hm⟩ := k1; exact DataW.trod_lt m _ _ _ hm
  obtain ⟨sy1, x1⟩ := struct_of Try.underlying24 (by kernel_rfl) (fun j f hj => by
    have hj5 : j < 5 := (Array.getElem?_eq_some_iff.1 hj).1
    have hcases : j = 0 ∨ j = 1 ∨ j = 2 ∨ j = 3 ∨ j = 4 := by omega
    rcases hcases with rfl | rfl | rfl | rfl | rfl <;> (cases hj; exact ⟨rfl, by kernel_rfl⟩)) sz1 h1
  obtain ⟨y1_0, y1_1, y1_2, y1_3, y1_4, rfl⟩ := arr5 cs1 (sy1.trans rfl)
  obtain ⟨a1_0, rfl, f1_0⟩ : ∃ n, y1_0 = .int .i64 n ∧ (Lit.int .i64 n).wf = true := by obtain ⟨n, y, hy⟩ := x1 0 _ rfl; obtain ⟨m, e, _, hw⟩ := DataW.trod_int Try.underlying3 hy; exact ⟨m, by simpa using e, hw⟩
  obtain ⟨a1_1, rfl, f1_1⟩ : ∃ n, y1_1 = .int .i64 n ∧ (Lit.int .i64 n).wf = true := by obtain ⟨n, y, hy⟩ := x1 1 _ rfl; obtain ⟨m, e, _, hw⟩ := DataW.trod_int Try.underlying3 hy; exact ⟨m, by simpa using e, hw⟩
  obtain ⟨a1_2, rfl, f1_2⟩ : ∃ n, y1_2 = .int .i64 n ∧ (Lit.int .i64 n).wf = true := by obtain ⟨n, y, hy⟩ := x1 2 _ rfl; obtain ⟨m, e, _, hw⟩ := DataW.trod_int Try.underlying3 hy; exact ⟨m, by simpa using e, hw⟩
  obtain ⟨a1_3, rfl, f1_3⟩ : ∃ n, y1_3 = .int .i64 n ∧ (Lit.int .i64 n).wf = true := by obtain ⟨n, y, hy⟩ := x1 3 _ rfl; obtain ⟨m, e, _, hw⟩ := DataW.trod_int Try.underlying3 hy; exact ⟨m, by simpa using e, hw⟩
  obtain ⟨a1_4, rfl, f1_4⟩ : ∃ n, y1_4 = .int .i64 n ∧ (Lit.int .i64 n).wf = true := by obtain ⟨n, y, hy⟩ := x1 4 _ rfl; obtain ⟨m, e, _, hw⟩ := DataW.trod_int Try.underlying3 hy; exact ⟨m, by simpa using e, hw⟩
  obtain ⟨a2, rfl, rfl, rfl, w2⟩ := open_int Try.underlying25 (hval 2 25 v2 rfl rfl) h2
  obtain ⟨a3, rfl, rfl, rfl, w3⟩ := open_int Try.underlying3 (hval 3 3 v3 rfl rfl) h3
  clear hA0 hval0
  refine (says_walk a0 len0 cap0 z0 a1_0 a1_1 a1_2 a1_3 a1_4 a2 a3 W l0 w0 f1_0 f1_1 f1_2 f1_3 f1_4 w2 w3).mono fun e W' ⟨he, bel⟩ => ?_
  subst he
  exact ⟨_, rfl, _, _, _, [], _, [], hW', trodAll_mk1 (shut_bool Try.underlying4 _), (trodAll_cons_mk (Below.trod laidOut (by kernel_rfl) (of_decide_eq_true (by kernel_rfl)) k0 bel lt0) (trodAll_cons_mk (Below.trod laidOut (by kernel_rfl) (of_decide_eq_true (by kernel_rfl)) k1 bel lt1) (trodAll_cons_mk (shut_int Try.underlying25 w2) (trodAll_cons_mk (shut_int Try.underlying3 w3) trodAll_mk0)))), rfl, bel.frame _, fun h => by cases h⟩
theorem over : Rows.lookSaysRow.holds Try.pinned (OpenSpec.ofChange Rows.lookSaysSpec) :=
  OpenClaim.holds_of_wide 3 Try.f3 rfl rfl rfl rfl rfl rfl rfl ⟨rfl, rfl, rfl, rfl, rfl⟩ rfl rfl rfl rfl rfl (by kernel_rfl) Try.func3 (by kernel_rfl)
    (of_decide_eq_true (by kernel_rfl)) (by unfold Func.isWrapper; first | (rw [if_pos (by decide +kernel)]; kernel_rfl) | (rw [if_neg (by decide +kernel)]; exact ⟨rfl, rfl⟩))
    (fun os started H enc _ => lifted os started H enc)
theorem proved : Rows.LookSaysSaid := over
#print axioms proved
end Go.Proofs.Ytjjgjgncnifjmaa.lookSays
