/- The statements' places by number. -/
import Derived.Test.YtnkpjefbmmhjjaaKRefuse
namespace Go.Proofs.Ytnkpjefbmmhjjaa
open Go.RowKit
set_option linter.unusedVariables false
def plN (n : Int) : Int × Int := if n < 0 ∨ 200 < n then (n, n) else (1 + n % 40 / 16, n % 16)
theorem plN_in {n : Int} (h : (Lit.int .i64 n).wf = true) : PIn (plN n) := by
  have := bounds_i64 h
  unfold plN
  split
  · exact pin_2 (by omega) (by omega) (by omega) (by omega)
  · exact pin_2 (by omega) (by omega) (by omega) (by omega)
theorem place_to {n p q : Int} (w : World) (h : plN n = (p, q)) :
    Calls Try.prog 9 #[.int .i64 n] w fun e w' => e = .returned (.agg #[.int .i64 p, .int .i64 q]) ∧ Kp [] w w' := by
  unfold plN at h
  by_cases h1 : n < 0
  · rw [if_pos (.inl h1)] at h
    cases h
    go_enter Try.func9, Try.ntmps9
    go_wp2
    refine bodyPost_ret (v := .agg #[.int .i64 n, .int .i64 n]) (by simp [results, Try.results9, go_sem, *]) rfl ⟨rfl, ?_⟩
    exact (Kp.refl [] w).alloc _
  · by_cases h2 : 200 < n
    · rw [if_pos (.inr h2)] at h
      cases h
      have b1 : decide (n < 0) = false := decide_eq_false h1
      go_enter Try.func9, Try.ntmps9
      go_wp2
      refine bodyPost_ret (v := .agg #[.int .i64 n, .int .i64 n]) (by simp [results, Try.results9, go_sem, *]) rfl ⟨rfl, ?_⟩
      exact (Kp.refl [] w).alloc _
    · rw [if_neg (by omega)] at h
      cases h
      have b1 : decide (n < 0) = false := decide_eq_false h1
      have b2 : decide (200 < n) = false := decide_eq_false h2
      have b3 : 0 ≤ n := by omega
      have b4 : n ≤ 200 := by omega
      go_enter Try.func9, Try.ntmps9
      go_wp2
      refine bodyPost_ret (v := .agg #[.int .i64 (1 + n % 40 / 16), .int .i64 (n % 16)]) (by simp [results, Try.results9, go_sem, *]) rfl ⟨rfl, ?_⟩
      exact (Kp.refl [] w).alloc _
end Go.Proofs.Ytnkpjefbmmhjjaa
