/- The walk of PhysEdges. -/
import Derived.Test.YtidbnbdijjhmgaaKLaw2
namespace Go.Proofs.Ytidbnbdijjhmgaa
open Go.RowKit
set_option linter.unusedVariables false
set_option maxHeartbeats 2000000 in
theorem edges_walk (a0 a1 : Int) (w : World) (w0 : (Lit.int .i64 a0).wf = true) (w1 : (Lit.int .i64 a1).wf = true) :
    Calls Try.prog 5 #[.int .i64 a0, .int .i64 a1] w fun e w' => e = .returned (.bool true) ∧ Below w.heap.size w w' := by
  obtain ⟨n, hn⟩ : ∃ n : Nat, a0 % 513 = (n : Int) := ⟨(a0 % 513).toNat, by omega⟩
  obtain ⟨v, hv⟩ : ∃ v : Nat, a1 % 1000 = (v : Int) := ⟨(a1 % 1000).toNat, by omega⟩
  have n1 : (n : Int) ≤ 512 := by omega
  have v1 : (v : Int) < 1000 := by omega
  replace hn := hide hn
  replace hv := hide hv
  go_enter Try.func5, Try.ntmps5
  go_wp2_with fail
  refine (first_calls _).mono ?_
  rintro e W0 ⟨rfl, K0⟩
  go_wp2_with fail
  refine (number_to _ _ _ _ (by omega) (by omega) (unhide hn)).mono ?_
  rintro e w' ⟨rfl, rfl⟩
  go_wp2_with fail
  refine (number_to _ _ _ _ (by omega) (by omega) (unhide hv)).mono ?_
  rintro e w' ⟨rfl, rfl⟩
  go_wp2_with fail
  refine (new_to _ 2 2 (by decide)).mono ?_
  rintro e W1 ⟨p, g, rfl, hm, hp, hg, hk⟩
  have K1 : Kp [] w W1 := K0.then hk
  have hp : w.heap.size ≤ p := Nat.le_trans K0.size hp
  have hg : w.heap.size ≤ g := Nat.le_trans K0.size hg
  replace hm := hide hm
  clear hk K0
  go_wp2_with fail
  refine (some_int _ 1 n _ rfl (by omega) (by omega) (by omega)).mono ?_
  rintro e W2 ⟨a2, c2, rfl, hl2, hr2, hk, _⟩
  have K2 : Kp [] w W2 := K1.then hk
  have hm2 := hide ((unhide hm).kept hk (by simp) (by simp))
  replace hl2 := hide hl2
  replace hr2 := hide hr2
  clear hk hm K1
  go_wp2_with fail
  refine (write_yes (unhide hm2) 1 _ _ n c2 _ (unhide hl2) (unhide hr2) (by omega) (by rw [inside_iff]; omega)).mono ?_
  rintro e W3 ⟨rfl, hm3, hk⟩
  have K3 : Kp [] w W3 := K2.trans hk (by simp) (by simpa using hg)
  replace hm3 := hide hm3
  have hat : at_ 1 (512 - (n : Int)) = 512 - n := by unfold at_; omega
  have hsg : seg (splice (List.replicate (2 * 512) 0) (at_ 1 (512 - (n : Int))) (someB n 1)) (at_ 1 (512 - (n : Int))) n = someB n 1 := by
    have := seg_splice_in (List.replicate (2 * 512) 0) (someB n 1) (at_ 1 (512 - (n : Int))) (by rw [List.length_replicate, someB_len, hat]; omega)
    rwa [someB_len] at this
  obtain ⟨bs, hbs⟩ : ∃ bs, splice (List.replicate (2 * 512) 0) (at_ 1 (512 - (n : Int))) (someB n 1) = bs := ⟨_, rfl⟩
  rw [hbs] at hm3 hsg
  replace hsg := hide hsg
  clear hk hm2 K2 hl2 hr2 hat hbs
  go_wp2_with fail
  refine (some_int _ 9 (n + (v + 1)) _ (by omega) (by omega) (by omega) (by omega)).mono ?_
  rintro e W4 ⟨a4, c4, rfl, _, _, hk, _⟩
  have K4 : Kp [] w W4 := K3.then hk
  have hm4 := hide ((unhide hm3).kept hk (by simp) (by simp))
  clear hk hm3 K3
  go_wp2_with fail
  refine (write_no (unhide hm4) 1 _ _ _ _ (by omega) (by rw [inside_not]; omega)).mono ?_
  rintro e w' ⟨rfl, rfl⟩
  go_wp2_with fail
  refine (some_int _ 9 1 _ (by omega) (by omega) (by omega) (by omega)).mono ?_
  rintro e W5 ⟨a5, c5, rfl, _, _, hk, _⟩
  have K5 : Kp [] w W5 := K4.then hk
  have hm5 := hide ((unhide hm4).kept hk (by simp) (by simp))
  clear hk hm4 K4
  go_wp2_with fail
  refine (write_no (unhide hm5) 1 _ _ _ _ (by omega) (by rw [inside_not]; omega)).mono ?_
  rintro e w' ⟨rfl, rfl⟩
  go_wp2_with fail
  refine (write_no (unhide hm5) 3 0 _ _ _ (by omega) (by rw [inside_not]; omega)).mono ?_
  rintro e w' ⟨rfl, rfl⟩
  go_wp2_with fail
  refine (write_no (unhide hm5) 0 0 _ _ _ (by omega) (by rw [inside_not]; omega)).mono ?_
  rintro e w' ⟨rfl, rfl⟩
  go_wp2_with fail
  refine (read_yes (unhide hm5) 1 _ _ (by omega) (by rw [inside_iff]; omega)).mono ?_
  rintro e W6 ⟨h6, rfl, hl6, hb6, hh6, hk⟩
  rw [Int.toNat_natCast, unhide hsg] at hb6 hl6
  rw [Int.toNat_natCast]
  have K6 : Kp [] w W6 := K5.then hk
  have hm6 := hide ((unhide hm5).kept hk (by simp) (by simp))
  replace hb6 := hide hb6
  clear hk hm5 K5 hsg hl6
  go_wp2_with fail
  refine (read_no (unhide hm6) 1 _ _ (by omega) (by rw [inside_not]; omega)).mono ?_
  rintro e w' ⟨rfl, rfl⟩
  go_wp2_with fail
  refine (read_no (unhide hm6) 1 _ 0 (by omega) (by rw [inside_not]; omega)).mono ?_
  rintro e w' ⟨rfl, rfl⟩
  go_wp2_with fail
  refine (read_no (unhide hm6) 1 0 _ (by omega) (by rw [inside_not]; omega)).mono ?_
  rintro e w' ⟨rfl, rfl⟩
  go_wp2_with fail
  refine (read_yes (unhide hm6) 1 512 0 (by omega) (by rw [inside_iff]; omega)).mono ?_
  rintro e W7 ⟨h7, rfl, _, _, _, hk⟩
  have K7 : Kp [] w W7 := K6.then hk
  have hb7 := hide ((unhide hb6).kept hk (by simp))
  clear hk hm6 K6 hb6
  go_wp2_with fail
  refine (some_int _ 1 n _ rfl (by omega) (by omega) (by omega)).mono ?_
  rintro e W8 ⟨a8, c8, rfl, hl8, hr8, hk, _⟩
  have K8 : Kp [] w W8 := K7.then hk
  have hb8 := hide ((unhide hb7).kept hk (by simp))
  replace hr8 := hide hr8
  clear hk K7 hb7
  go_wp2_with fail
  refine (same_len _ _ _ _ (someB n 1) n (someB_len _ _) _ ((unhide hb8).rowAll (someB_small _ _) (by rw [someB_len]; omega)) (unhide hr8)).mono ?_
  rintro e w' ⟨rfl, k9, rfl⟩
  have K9 : Kp [] w (W8.drewN k9) := K8.drewN k9
  clear hb8 hr8 hl8 K8
  go_wp2_with fail
  refine (units_to _ 1 _ (by unfold unitsOf; omega)).mono ?_
  rintro e W10 ⟨rfl, hk⟩
  have K10 : Kp [] w W10 := K9.then hk
  clear hk K9
  go_wp2_with fail
  refine (units_to _ 64 _ (by decide)).mono ?_
  rintro e W11 ⟨rfl, hk⟩
  have K11 : Kp [] w W11 := K10.then hk
  clear hk K10
  go_wp2
  go_ret
  exact ⟨rfl, K11.below (Nat.le_refl _) (by simp)⟩
end Go.Proofs.Ytidbnbdijjhmgaa
