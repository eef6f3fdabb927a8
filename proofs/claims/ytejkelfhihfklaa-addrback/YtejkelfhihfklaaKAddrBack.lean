/- The walk of AddrBack. -/
import Derived.Test.YtejkelfhihfklaaKLaw4
namespace Go.Proofs.Ytejkelfhihfklaa
open Go.RowKit
set_option linter.unusedVariables false
set_option maxHeartbeats 1000000 in
theorem back_walk (value depth over : Int) (w : World) (_ : (Lit.int .i64 value).wf = true) (_ : (Lit.int .i64 depth).wf = true) (_ : (Lit.int .i64 over).wf = true) :
    Calls Try.prog 4 #[.int .i64 value, .int .i64 depth, .int .i64 over] w fun e w' => e = .returned (.bool true) ∧ Below w.heap.size w w' := by
  obtain ⟨E, hE⟩ : ∃ x, depth % 21 = x := ⟨_, rfl⟩
  have E1 : 0 ≤ E ∧ E < 21 := by omega
  obtain ⟨D, hD⟩ : ∃ x, 4 + E = x := ⟨_, rfl⟩
  have D1 : 4 ≤ D ∧ D ≤ 24 := by omega
  have hW := wrap_pow D (by omega) (by omega)
  have hP1 := pow24 D (by omega) (by omega)
  have hP24 : D = 24 ∨ ((2 ^ D.toNat : Nat) : Int) < 16777216 := by
    rcases (show D < 24 ∨ 24 ≤ D by omega) with h | h
    · right
      have := pow24 (D + 1) (by omega) (by omega)
      have e : (D + 1).toNat = D.toNat + 1 := by omega
      rw [e, Nat.pow_succ] at this
      omega
    · left; omega
  obtain ⟨P, hP⟩ : ∃ P : Int, ((2 ^ D.toNat : Nat) : Int) = P := ⟨_, rfl⟩
  rw [hP] at hW hP1 hP24
  obtain ⟨V, hV⟩ : ∃ x, value % P = x := ⟨_, rfl⟩
  have V1 : 0 ≤ V ∧ V < P := by rw [← hV]; exact ⟨Int.emod_nonneg _ (by omega), Int.emod_lt_of_pos _ (by omega)⟩
  obtain ⟨j1, j2, j3, j4⟩ := split_yes V D D1.1 D1.2 V1.1 (by rw [hP]; exact V1.2)
  obtain ⟨l, hl⟩ : ∃ x, over % 4 = x := ⟨_, rfl⟩
  obtain ⟨h, hh⟩ : ∃ x, over % 231 = x := ⟨_, rfl⟩
  have l1 : 0 ≤ l ∧ l < 4 := by omega
  have h1 : 0 ≤ h ∧ h < 231 := by omega
  have jl : joinN 0 l = l := by unfold joinN; omega
  have jh : joinN 0 (25 + h) = 25 + h := by unfold joinN; omega
  have sl := split_no l (by omega)
  have sh := split_no (25 + h) (by omega)
  obtain ⟨F, hF⟩ : ∃ x, joinN P D = x := ⟨_, rfl⟩
  have F1 : 0 ≤ F ∧ F < 4294967296 := by rw [← hF]; unfold joinN; omega
  obtain ⟨x, hx⟩ : ∃ x, splitV F = x := ⟨_, rfl⟩
  obtain ⟨y, hy⟩ : ∃ x, splitD F = x := ⟨_, rfl⟩
  obtain ⟨q, hq⟩ : ∃ x, splitOk F = x := ⟨_, rfl⟩
  have HQ : q = false ∨ D = 24 := by
    rcases hP24 with h | h
    · exact .inr h
    · left
      have e1 : F % 256 = D := by rw [← hF]; unfold joinN; omega
      have e2 : F / 256 = P := by rw [← hF]; unfold joinN; omega
      rw [← hq]; unfold splitOk; rw [e1, e2, hP]
      exact decide_eq_false (by omega)
  have J0 : 0 ≤ V * 256 + D ∧ V * 256 + D < 4294967296 := by omega
  obtain ⟨J, hJ⟩ : ∃ x, V * 256 + D = x := ⟨_, rfl⟩
  rw [hJ] at j1 j2 j3 j4 J0
  have l2 : 0 ≤ l ∧ l < 4294967296 := by omega
  have h2 : 0 ≤ 25 + h ∧ 25 + h < 4294967296 := by omega
  replace hE := hide hE
  replace hV := hide hV
  replace hl := hide hl
  replace hh := hide hh
  replace j1 := hide j1
  replace j2 := hide j2
  replace j3 := hide j3
  replace j4 := hide j4
  replace jl := hide jl
  replace jh := hide jh
  replace sl := hide sl
  replace sh := hide sh
  replace hF := hide hF
  replace hx := hide hx
  replace hy := hide hy
  replace hq := hide hq
  replace hP := hide hP
  replace hJ := hide hJ
  replace hP24 := hide hP24
  replace HQ := hide HQ
  go_enter Try.func4, Try.ntmps4
  go_wp2_with fail
  refine (first_calls _).mono ?_
  rintro e W0 ⟨rfl, k0, rfl⟩
  go_wp2_with fail
  refine (number_to _ _ _ _ (by omega) (by omega) (unhide hE)).mono ?_
  rintro e w' ⟨rfl, rfl⟩
  go_wp2_with fail
  refine (number_to _ _ _ _ (by omega) (by omega) (unhide hV)).mono ?_
  rintro e w' ⟨rfl, rfl⟩
  go_wp2_with fail
  refine (join_to V D J _ (unhide j1)).mono ?_
  rintro e W1 ⟨rfl, k1, rfl⟩
  go_wp2_with fail
  refine (split_to J V D true _ J0 (unhide j3) (unhide j4) (unhide j2)).mono ?_
  rintro e W2 ⟨rfl, k2, rfl⟩
  go_wp2_with fail
  refine (number_to _ _ _ _ (by omega) (by omega) (unhide hl)).mono ?_
  rintro e w' ⟨rfl, rfl⟩
  go_wp2_with fail
  refine (join_to 0 l l _ (unhide jl)).mono ?_
  rintro e W3 ⟨rfl, k3, rfl⟩
  go_wp2_with fail
  refine (split_to l 0 0 false _ l2 (unhide sl).2.1 (unhide sl).2.2 (unhide sl).1).mono ?_
  rintro e W4 ⟨rfl, k4, rfl⟩
  go_wp2_with fail
  refine (number_to _ _ _ _ (by omega) (by omega) (unhide hh)).mono ?_
  rintro e w' ⟨rfl, rfl⟩
  go_wp2_with fail
  refine (join_to 0 (25 + h) (25 + h) _ (unhide jh)).mono ?_
  rintro e W5 ⟨rfl, k5, rfl⟩
  go_wp2_with fail
  refine (split_to (25 + h) 0 0 false _ h2 (unhide sh).2.1 (unhide sh).2.2 (unhide sh).1).mono ?_
  rintro e W6 ⟨rfl, k6, rfl⟩
  go_wp2_with fail
  refine (join_to P D F _ (unhide hF)).mono ?_
  rintro e W7 ⟨rfl, k7, rfl⟩
  go_wp2_with fail
  refine (split_to F x y q _ F1 (unhide hx) (unhide hy) (unhide hq)).mono ?_
  rintro e W8 ⟨rfl, k8, rfl⟩
  rcases unhide HQ with rfl | rfl
  · go_wp2
    go_ret
    exact ⟨rfl, drewN_below _ _⟩
  · cases q
    · go_wp2
      go_ret
      exact ⟨rfl, drewN_below _ _⟩
    · go_wp2
      go_ret
      exact ⟨rfl, drewN_below _ _⟩
end Go.Proofs.Ytejkelfhihfklaa
