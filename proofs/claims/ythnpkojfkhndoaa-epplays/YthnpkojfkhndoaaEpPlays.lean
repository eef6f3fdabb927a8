/- For all its arguments EpPlays answers true, and its arguments read as before; no condition. -/
import Derived.Test.YthnpkojfkhndoaaRows
import Derived.Test.YthnpkojfkhndoaaKArgs
import Derived.Test.YthnpkojfkhndoaaKPlay14
import Derived.WalkKit
import Derived.ProofKit
import Derived.OpenShut
import Derived.ShutString
import Derived.ChangeOld
import Derived.Below
namespace Go.Proofs.Ythnpkojfkhndoaa.epPlays
open Go.ChangeShapes Go.WideShapes Go.ChangeAt Go.RowKit
set_option linter.unusedVariables false
theorem own : ownKnob Try.prog.godebug = none := by kernel_rfl
theorem laidOut : laidOutB Try.prog = true := by kernel_rfl
set_option maxHeartbeats 2000000 in
set_option maxRecDepth 100000 in
theorem lifted (os : Os) (started : os.Started) (H : Type) (enc : TypeId × Value → H) :
    ReturnsInHanded {} Try.checked os 3 .any (Rows.epPlaysSpec.pre6 enc Try.prog Try.f3 Rows.epPlaysRow.domain false) (Rows.epPlaysSpec.post enc Try.prog Try.f3 false true false false) := by
  refine returnsInHanded_of_change (C := Try.checked) own started (by kernel_rfl) Try.func3
    (ChangeSpec.witness6 (enc := enc) (C := Try.checked) false ⟨#[], #[.slice none 0 0], []⟩ 8 (by kernel_rfl) (by kernel_rfl) (by kernel_rfl) (by kernel_rfl)) ?_
  intro W base args ds gs before hval0 hW hcnd _
  have hval : ∀ (j : Nat) t v, Try.f3.params[j]? = some t → args[j]? = some v → Value.okWide Try.prog W .any base t v := hval0
  have hW' := hW
  obtain ⟨p, q, hA0, hV, rfl, hfz, hnd⟩ := hW
  have hA : DataW.TrodAll enc Try.prog W 0 (fun _ => true) true Try.f3.params.toList args.toList ds p := hA0
  rw [Try.params3] at hA hval
  obtain ⟨v0, vs0, d0, ds0, p0, q0, hargs, rfl, rfl, h0, r0⟩ := trodAll_cons hA
  obtain ⟨rfl, rfl, rfl⟩ := trodAll_nil r0
  obtain rfl : args = #[v0] := by cases args; simp_all
  obtain ⟨rfl, rfl⟩ := trodVars_none hV
  obtain ⟨a0, len0, cap0, rfl⟩ := okWide_slice Try.underlying22 (hval 0 22 v0 rfl rfl)
  have k0 := h0
  have lt0 : ∀ x ∈ p0, x.block < W.heap.size := by obtain ⟨m, hm⟩ := k0; exact DataW.trod_lt m _ _ _ hm
  obtain ⟨z0, w0, x0⟩ := recs_of Try.underlying22 Try.underlying37 (by kernel_rfl) (by decide) (fun j f hj => by
    have hj5 : j < 4 := (Array.getElem?_eq_some_iff.1 hj).1
    have hcases : j = 0 ∨ j = 1 ∨ j = 2 ∨ j = 3 := by omega
    rcases hcases with rfl | rfl | rfl | rfl <;> (cases hj; exact ⟨rfl, by kernel_rfl⟩)) h0
  have y0 : ∀ i, i < len0 → (∃ n, z0 i 0 = .int .i64 n ∧ (Lit.int .i64 n).wf = true) ∧ (∃ n, z0 i 1 = .int .i64 n ∧ (Lit.int .i64 n).wf = true) ∧ (∃ n, z0 i 2 = .int .i64 n ∧ (Lit.int .i64 n).wf = true) ∧ (∃ b, z0 i 3 = .bool b) := fun i hi => ⟨by obtain ⟨n, y, hy⟩ := x0 i hi 0 _ rfl; obtain ⟨m, e, _, hw⟩ := DataW.trod_int Try.underlying3 hy; exact ⟨m, by simpa using e, hw⟩, by obtain ⟨n, y, hy⟩ := x0 i hi 1 _ rfl; obtain ⟨m, e, _, hw⟩ := DataW.trod_int Try.underlying3 hy; exact ⟨m, by simpa using e, hw⟩, by obtain ⟨n, y, hy⟩ := x0 i hi 2 _ rfl; obtain ⟨m, e, _, hw⟩ := DataW.trod_int Try.underlying3 hy; exact ⟨m, by simpa using e, hw⟩, by obtain ⟨n, y, hy⟩ := x0 i hi 3 _ rfl; obtain ⟨m, e, _⟩ := DataW.trod_bool Try.underlying4 hy; exact ⟨m, by simpa using e⟩⟩
  clear hA0 hval0
  refine (eplay_walk a0 len0 cap0 z0 W w0 y0).mono fun e W' ⟨he, bel⟩ => ?_
  subst he
  exact ⟨_, rfl, _, _, _, [], _, [], hW', trodAll_mk1 (shut_bool Try.underlying4 _), (trodAll_cons_mk (Below.trod laidOut (by kernel_rfl) (of_decide_eq_true (by kernel_rfl)) k0 bel lt0) trodAll_mk0), rfl, bel.frame _, fun h => by cases h⟩
theorem over : Rows.epPlaysRow.holds Try.pinned (OpenSpec.ofChange Rows.epPlaysSpec) :=
  OpenClaim.holds_of_wide 3 Try.f3 rfl rfl rfl rfl rfl rfl rfl ⟨rfl, rfl, rfl, rfl, rfl⟩ rfl rfl rfl rfl rfl (by kernel_rfl) Try.func3 (by kernel_rfl)
    (of_decide_eq_true (by kernel_rfl)) (by unfold Func.isWrapper; first | (rw [if_pos (by decide +kernel)]; kernel_rfl) | (rw [if_neg (by decide +kernel)]; exact ⟨rfl, rfl⟩))
    (fun os started H enc _ => lifted os started H enc)
theorem proved : Rows.EpPlaysSaid := over
#print axioms proved
end Go.Proofs.Ythnpkojfkhndoaa.epPlays
