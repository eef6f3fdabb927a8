/- The walk of RunqRound. -/
import Derived.Test.YtennmoaaieedpaaKRndM
import Derived.Test.YtennmoaaieedpaaKQIn
import Derived.Test.YtennmoaaieedpaaKRef
import Derived.Test.YtennmoaaieedpaaKArgs
namespace Go.Proofs.Ytennmoaaieedpaa
open Go.RowKit
set_option linter.unusedVariables false
set_option linter.unusedSimpArgs false
set_option maxRecDepth 10000 in
set_option maxHeartbeats 20000000 in
theorem qround_walk (n0 l0 p0 r0 : Int) (w : World) (_ : (Lit.int .i64 n0).wf = true) (_ : (Lit.int .i64 l0).wf = true) (_ : (Lit.int .i64 p0).wf = true) (_ : (Lit.int .i64 r0).wf = true) :
    Calls Try.prog 4 #[.int .i64 n0, .int .i64 l0, .int .i64 p0, .int .i64 r0] w fun e w' => e = .returned (.bool true) ∧ Below w.heap.size w w' := by
  obtain ⟨a, ha, ha8⟩ : ∃ a : Nat, n0 % 8 = (a : Int) ∧ a < 8 := ⟨(n0 % 8).toNat, by omega, by omega⟩
  obtain ⟨l, hl, hl5⟩ : ∃ a : Nat, l0 % 5 = (a : Int) ∧ a < 5 := ⟨(l0 % 5).toNat, by omega, by omega⟩
  obtain ⟨b, hb⟩ : ∃ b, p0 % 7 = b := ⟨_, rfl⟩
  obtain ⟨r, hr, hr40⟩ : ∃ a : Nat, r0 % 40 = (a : Int) ∧ a < 40 := ⟨(r0 % 40).toNat, by omega, by omega⟩
  obtain ⟨n, hn⟩ : ∃ n : Nat, n = a + 1 := ⟨_, rfl⟩
  obtain ⟨p, hp⟩ : ∃ p : Int, 1 + b = p := ⟨_, rfl⟩
  have hpb : Hid (1 ≤ p ∧ p < 8) := by unfold Hid; omega
  have e1 : (a : Int) + 1 = (n : Int) := by omega
  have e2 : 1 + b = p := hp
  have hnb : 0 < n ∧ n ≤ 8 := by omega
  have hwp : wrap64 p = p := by have := unhide hpb; unfold wrap64; omega
  have hwq : wrap64 (p - 1) = p - 1 := by have := unhide hpb; unfold wrap64; omega
  replace ha := hide ha
  replace hl := hide hl
  replace hb := hide hb
  replace hr := hide hr
  clear hp hn
  go_enter Try.func4, Try.ntmps4
  go_wp2_with fail
  refine (first_calls _).mono ?_
  rintro e W0 ⟨rfl, K0⟩
  replace K0 := hide K0
  go_wp2_with fail
  refine (number_to _ _ _ _ (by decide) (by decide) (unhide ha)).mono ?_
  rintro e W1 ⟨rfl, hW⟩
  subst hW
  go_wp2_with fail
  refine (number_to _ _ _ _ (by decide) (by decide) (unhide hl)).mono ?_
  rintro e W1 ⟨rfl, hW⟩
  subst hW
  go_wp2_with fail
  refine (number_to _ _ _ _ (by decide) (by decide) (unhide hb)).mono ?_
  rintro e W1 ⟨rfl, hW⟩
  subst hW
  go_wp2_with fail
  refine (number_to _ _ _ _ (by decide) (by decide) (unhide hr)).mono ?_
  rintro e W1 ⟨rfl, hW⟩
  subst hW
  go_wp2_with fail
  have X0 := hide (QIn.of (unhide K0) rfl (Kp.refl [] _))
  generalize W1.alloc (.cells #[.slice none 0 0, .slice none 0 0, .slice none 0 0, .slice none 0 0, .slice none 0 0, .slice none 0 0, .slice none 0 0, .slice none 0 0] 27) = V1 at *
  generalize W1.heap.size = t at *
  clear K0 ha hl hb hr
  go_loopg [11] l (fun m i wr => ∃ j : Nat, j ≤ l ∧ m = l - j ∧ i = .int .i64 j ∧ QIn [] w t (lowQ p j) wr)
  case atStart => exact ⟨0, Nat.zero_le _, rfl, rfl, unhide X0⟩
  case round =>
    obtain ⟨j, hj, rfl, rfl, hX⟩ := hrel
    clear X0
    by_cases hlt : j < l
    · have b1 : (j : Int) < (l : Int) := by omega
      have hadd := hide (qAdd_low (unhide hpb) j)
      have hlen : Hid ((lowQ p j).length < 65536) := by unfold Hid lowQ; simp; omega
      replace hX := hide hX
      go_wp2_with fail
      refine (qadd_in (L' := lowQ p (j + 1)) (is := true) (unhide hX) (unhide hlen) (by rw [unhide hadd]; exact Option.getD_some) (by rw [unhide hadd]; exact Option.isSome_some)).mono ?_
      rintro e W3 ⟨rfl, X3, _⟩
      replace X3 := hide X3
      go_wp2
      go_roundg (l - (j + 1))
      case measure => omega
      case rel => exact ⟨j + 1, by omega, rfl, by go_num, unhide X3⟩
    · have b1 : decide ((j : Int) < (l : Int)) = false := decide_eq_false (by omega)
      have ej : j = l := by omega
      rw [ej] at hX
      have X1 := hide hX
      clear hX ej
      go_wp2_with fail
      go_loopg [12] n (fun m i wr => ∃ j : Nat, j ≤ n ∧ m = n - j ∧ i = .int .i64 j ∧ QIn [] w t (lowQ p l ++ risQ p j) wr)
      case atStart => exact ⟨0, Nat.zero_le _, rfl, rfl, by rw [show risQ p 0 = [] from rfl, List.append_nil]; exact unhide X1⟩
      case round =>
        obtain ⟨j1, hj1, rfl, rfl, hX⟩ := hrel
        clear X1
        by_cases hlt1 : j1 < n
        · have b2 : (j1 : Int) < (n : Int) := by omega
          have hadd := hide (qAdd_ris (unhide hpb) l j1 (by omega))
          have hlen : Hid ((lowQ p l ++ risQ p j1).length < 65536) := by unfold Hid lowQ risQ; simp; omega
          replace hX := hide hX
          go_wp2_with fail
          refine (qadd_in (L' := lowQ p l ++ risQ p (j1 + 1)) (is := true) (unhide hX) (unhide hlen) (by rw [unhide hadd]; exact Option.getD_some) (by rw [unhide hadd]; exact Option.isSome_some)).mono ?_
          rintro e W3 ⟨rfl, X3, _⟩
          replace X3 := hide X3
          go_wp2
          go_roundg (n - (j1 + 1))
          case measure => omega
          case rel => exact ⟨j1 + 1, by omega, rfl, by go_num, unhide X3⟩
        · have b2 : decide ((j1 : Int) < (n : Int)) = false := decide_eq_false (by omega)
          have ej : j1 = n := by omega
          rw [ej, ← highQ_zero] at hX
          have X1 : Hid (QIn [] w t (rndQ p l n 0) wr) := hX
          clear hX ej
          go_wp2_with fail
          go_loopg [13] r (fun m i wr => ∃ j : Nat, j ≤ r ∧ m = r - j ∧ i = .int .i64 j ∧ QIn [] w t (rndQ p l n j) wr)
          case atStart => exact ⟨0, Nat.zero_le _, rfl, rfl, unhide X1⟩
          case round =>
            obtain ⟨j2, hj2, rfl, rfl, hX⟩ := hrel
            clear X1
            by_cases hlt2 : j2 < r
            · have b3 : (j2 : Int) < (r : Int) := by omega
              obtain ⟨q1, q2⟩ := rndQ_pick (unhide hpb) l hnb.1 hnb.2 j2
              obtain ⟨y, hy⟩ : ∃ y : Nat, j2 % n = y := ⟨_, rfl⟩
              have b4 : (j2 : Int) % (n : Int) = (y : Int) := by omega
              rw [hy] at q1 q2
              obtain ⟨z, hz⟩ : ∃ z : Int, 1 + (y : Int) = z := ⟨_, rfl⟩
              rw [hz] at q1 q2
              have b5 : ¬ ((n : Int) = 0) := by omega
              have b6 : decide ((n : Int) = 0) = false := decide_eq_false b5
              have b7 : ((n : Int) == 0) = false := beq_eq_false_iff_ne.2 b5
              replace q1 := hide q1
              replace q2 := hide q2
              replace hX := hide hX
              have hyl : y < n := by rw [← hy]; exact Nat.mod_lt _ hnb.1
              have hwz : wrap64 z = z := by unfold wrap64; omega
              clear hy hyl
              go_wp2_with fail
              refine (qpick_in (L' := rndQ p l n (j2 + 1)) (t := z) (is := true) (unhide hX) (by rw [unhide q1]; exact unhide q2) (by rw [unhide q1]; exact Option.getD_some) (by rw [unhide q1]; exact Option.isSome_some)).mono ?_
              rintro e W3 ⟨rfl, X3, _⟩
              replace X3 := hide X3
              go_wp2
              go_roundg (r - (j2 + 1))
              case measure => omega
              case rel => exact ⟨j2 + 1, by omega, rfl, by go_num, unhide X3⟩
            · have b3 : decide ((j2 : Int) < (r : Int)) = false := decide_eq_false (by omega)
              have X1 := hide hX
              clear hX
              go_wp2_with fail
              go_loopg [16] n (fun m i wr => ∃ j : Nat, j ≤ n ∧ m = n - j ∧ i = .int .i64 j ∧ QIn [] w t (cutQ p l n j2 j) wr)
              case atStart => exact ⟨0, Nat.zero_le _, rfl, rfl, by rw [cutQ_zero]; exact unhide X1⟩
              case round =>
                obtain ⟨j3, hj3, rfl, rfl, hX⟩ := hrel
                clear X1
                by_cases hlt3 : j3 < n
                · have b4 : (j3 : Int) < (n : Int) := by omega
                  obtain ⟨q1, q2⟩ := cutQ_del p l hnb.2 hlt3 j2
                  replace q1 := hide q1
                  replace q2 := hide q2
                  replace hX := hide hX
                  go_wp2_with fail
                  refine (qrem_in (L' := cutQ p l n j2 (j3 + 1)) (is := true) (unhide hX) (unhide q1) (unhide q2)).mono ?_
                  rintro e W3 ⟨rfl, X3, _⟩
                  replace X3 := hide X3
                  go_wp2
                  go_roundg (n - (j3 + 1))
                  case measure => omega
                  case rel => exact ⟨j3 + 1, by omega, rfl, by go_num, unhide X3⟩
                · have b4 : decide ((j3 : Int) < (n : Int)) = false := decide_eq_false (by omega)
                  have ej : j3 = n := by omega
                  rw [ej, cutQ_all] at hX
                  have X1 := hide hX
                  clear hX ej
                  have hn7 := hide (lowQ_seven p l)
                  have hll := hide (lowQ_ready (unhide hpb) l)
                  obtain ⟨L, hL⟩ : ∃ L, lowQ p l = L := ⟨_, rfl⟩
                  rw [hL] at hn7 hll X1
                  have hlen : Hid (L.length < 65536) := by rw [← hL]; unfold Hid lowQ; simp; omega
                  obtain ⟨zs, hzs⟩ : ∃ zs, qReady L = zs := ⟨_, rfl⟩
                  rw [hzs] at hll
                  replace hzs := hide hzs
                  have hno : Hid (∀ p', ¬ (0 ≤ p' ∧ p' < 8) → qAdd L 7 p' = none) := fun p' h => if_neg (fun H => h ((prioOk_iff p').1 H.2))
                  have hset : Hid (qSet L 7 1 = none) := by unfold Hid qSet; rw [qPr_at (unhide hn7)]
                  clear hL
                  go_wp2_with fail
                  refine (qready_in (unhide X1) (unhide hzs)).mono ?_
                  rintro e W3 ⟨v, rfl, hR, K3⟩
                  obtain ⟨av, cv, rfl⟩ := hR.form
                  rw [unhide hll]
                  have X3 := hide ((unhide X1).grew K3)
                  clear X1 hR K3
                  go_wp2_with fail
                  refine (qadd_in (L' := L) (is := false) (unhide X3) (unhide hlen) (by rw [unhide hno 8 (by decide)]; exact Option.getD_none) (by rw [unhide hno 8 (by decide)]; exact Option.isSome_none)).mono ?_
                  rintro e W4 ⟨rfl, X4, _⟩
                  replace X4 := hide X4
                  clear X3
                  go_wp2_with fail
                  refine (qadd_in (L' := L) (is := false) (unhide X4) (unhide hlen) (by rw [unhide hno (-1) (by decide)]; exact Option.getD_none) (by rw [unhide hno (-1) (by decide)]; exact Option.isSome_none)).mono ?_
                  rintro e W5 ⟨rfl, X5, _⟩
                  replace X5 := hide X5
                  clear X4
                  go_wp2_with fail
                  refine (qset_in (L' := L) (is := false) (unhide X5) (by rw [unhide hset]; exact Option.getD_none) (by rw [unhide hset]; exact Option.isSome_none)).mono ?_
                  rintro e W6 ⟨rfl, X6, _⟩
                  replace X6 := hide X6
                  clear X5
                  go_wp2
                  go_ret
                  exact ⟨rfl, (unhide X6).kp.below (Nat.le_refl _) (by simp)⟩
end Go.Proofs.Ytennmoaaieedpaa
