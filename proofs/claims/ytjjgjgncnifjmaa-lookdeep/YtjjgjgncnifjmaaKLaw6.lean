/- The chapter's examples (ringkernlaw6.first). -/
import Derived.Test.YtjjgjgncnifjmaaKLook2
import Derived.Test.YtjjgjgncnifjmaaKLkM
import Derived.Test.YtjjgjgncnifjmaaKLookM
import Derived.Test.YtjjgjgncnifjmaaKRef
namespace Go.Proofs.Ytjjgjgncnifjmaa
open Go.RowKit
set_option linter.unusedVariables false
theorem findL_a : findL [] 0 0 0 0 0 1284 = none := by decide
theorem findL_b : findL [] 2 2 0 0 0 1284 = some (2, 5) := by decide
/-- Find, and Cap, with what comes of them given by name, since a world. -/
theorem bfind {w wr : World} {t : Nat} {L : List Sl} (h : Tb w t L wr) {k o z b r a : Int} (ha : 0 ≤ a ∧ a < 4294967296) {q : Option (Int × Int)} (hq : findL L k o z b r a = q) :
    Calls Try.prog 12 #[.pointer (some ⟨t, 0, none⟩), .agg #[.int .i64 k, .int .i64 o, .int .i64 z, .int .i64 b, .int .i64 r], .int .u32 a] wr fun e w' => e = .returned (findV q) ∧ Kp [] wr w' := by
  obtain ⟨m, h1, _⟩ := h.tab
  exact find_to h1 k o z b r a ha hq
theorem bcap {w wr : World} {t : Nat} {L : List Sl} (h : Tb w t L wr) {k o z b r a kind : Int} (ha : 0 ≤ a ∧ a < 4294967296) {q : Option (Int × Int)} (hq : findL L k o z b r a = q) {v : Value} (hv : lookAt L q kind = v) :
    Calls Try.prog 14 #[.pointer (some ⟨t, 0, none⟩), .agg #[.int .i64 k, .int .i64 o, .int .i64 z, .int .i64 b, .int .i64 r], .int .u32 a, .int .i64 kind] wr fun e w' => e = .returned v ∧ Kp [] wr w' := by
  obtain ⟨m, h1, _⟩ := h.tab
  subst hv hq
  exact cap_calls h1 k o z b r a kind ha
set_option maxRecDepth 4000 in
set_option maxHeartbeats 1000000 in
theorem first_calls (w : World) : Calls Try.prog 7 #[] w fun e w' => e = .returned (.bool true) ∧ Kp [] w w' := by
  have X0 := hide (Tb.of (w := w) (W := w) (Kp.refl [] w) rfl (Kp.refl [] _))
  obtain ⟨t, et⟩ : ∃ t, w.heap.size = t := ⟨_, rfl⟩
  rw [et] at X0
  go_enter Try.func7, Try.ntmps7
  go_wp2_with fail
  refine (bfind (unhide X0) (by decide) findL_a).mono ?_
  rintro e W1 ⟨rfl, K1⟩
  have X1 := hide ((unhide X0).grew (K1.alloc (.cells #[.int .i64 0, .int .i64 0] 40)))
  clear X0 K1 et
  unfold findV
  go_wp2_with fail
  refine (bfind (unhide X1) (by decide) findL_b).mono ?_
  rintro e W2 ⟨rfl, K2⟩
  have X2 := hide ((unhide X1).grew (K2.alloc (.cells #[.int .i64 2, .int .i64 5] 40)))
  clear X1 K2
  unfold findV
  go_wp2
  go_ret
  exact ⟨rfl, (unhide X2).kp⟩
end Go.Proofs.Ytjjgjgncnifjmaa
