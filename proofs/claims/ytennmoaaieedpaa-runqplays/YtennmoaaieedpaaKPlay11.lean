/- The walk of RunqPlays. -/
import Derived.Test.YtennmoaaieedpaaKTw11
import Derived.Test.YtennmoaaieedpaaKRef
import Derived.Deep.DeepCutAuto
import Derived.Deep.CutBlock
import Derived.Deep.RegionHeld3
namespace Go.Proofs.Ytennmoaaieedpaa
open Go.RowKit
set_option linter.unusedVariables false
set_option linter.unusedSimpArgs false
set_option maxHeartbeats 400000 in
theorem qplay_long (a0 : Option Addr) (len cap : Nat) (w : World) (hl : 60 < len) :
    Calls Try.prog 3 #[.slice a0 len cap] w fun e w' => e = .returned (.bool true) ∧ Below w.heap.size w w' := by
  have h2 : (60 : Int) < (len : Int) := by omega
  clear hl
  go_enter Try.func3, Try.ntmps3
  go_wp2_with fail
  refine (first_calls _).mono ?_
  rintro e W0 ⟨rfl, K0⟩
  go_wp2
  go_ret
  exact ⟨rfl, K0.below (Nat.le_refl _) (by simp)⟩
set_option maxRecDepth 10000 in
set_option maxHeartbeats 20000000 in
theorem qplay_in (a0 : Option Addr) (len cap : Nat) (V : Nat → Nat → Value) (w : World) (hl : len ≤ 60) (hR : Recs w a0 len 3 V) (y1 : ThreeQ V len) :
    Calls Try.prog 3 #[.slice a0 len cap] w fun e w' => e = .returned (.bool true) ∧ Below w.heap.size w w' := by
  have h2 : decide ((60 : Int) < (len : Int)) = false := decide_eq_false (by omega)
  have HR := hide hR
  replace y1 := hide y1
  clear hR
  go_enter Try.func3, Try.ntmps3
  go_wp2_with fail
  refine (first_calls _).mono ?_
  rintro e W0 ⟨rfl, K0⟩
  obtain ⟨t, et⟩ : ∃ t, W0.heap.size = t := ⟨_, rfl⟩
  have X0 := hide (Tq.start K0 et)
  clear K0
  go_wp2_with fail
  generalize (W0.alloc (.cells #[.slice none 0 0, .slice none 0 0, .slice none 0 0, .slice none 0 0, .slice none 0 0, .slice none 0 0, .slice none 0 0, .slice none 0 0] 27)).alloc (.cells #[.slice none 0 0] 30) = W1 at *
  go_loopg [6] len (fun m i wr => ∃ (j : Nat) (L : List (Int × Int)), j ≤ len ∧ m = len - j ∧ i = .int .i64 j ∧ Tq w t L wr ∧ L.length ≤ j)
  case atStart => exact ⟨0, [], Nat.zero_le _, by omega, rfl, unhide X0, Nat.le_refl _⟩
  case round =>
    obtain ⟨j, L, hj, rfl, rfl, hT, hSl⟩ := hrel
    clear X0
    by_cases hlt : j < len
    · have b1 : (j : Int) < (len : Int) := by omega
      have b2 : ((j : Int)).toNat = j := Int.toNat_natCast j
      obtain ⟨⟨k, hk, kw⟩, ⟨s, hs, sw⟩, ⟨n, hn, nw⟩⟩ := unhide y1 j hlt
      obtain ⟨b, off, ea, hc⟩ := do3_q (unhide HR) hT.p.kp hlt
      subst ea
      have d0 := hc 0 (by decide)
      have d1 := hc 1 (by decide)
      have d2 := hc 2 (by decide)
      rw [hk] at d0
      rw [hs] at d1
      rw [hn] at d2
      simp only [← Nat.add_assoc, Nat.add_zero] at d0 d1 d2
      obtain ⟨kk, hkk⟩ : ∃ m, k % 7 = m := ⟨_, rfl⟩
      have hN7 := hide hkk
      have hkb : 0 ≤ kk ∧ kk < 7 := by omega
      have Z0 := hide (hT.box k s n)
      have hLs : Hid (L.length < 65536) := by unfold Hid; omega
      have hrs := hide hT.p.ok
      replace hSl := hide hSl
      clear hc hk hs hn kw sw nw hkk hT
      go_wp2_with fail
      generalize wr.alloc (.cells #[.int .i64 k, .int .i64 s, .int .i64 n] 32) = W2 at *
      clear d0 d1 d2
      generalize wr.heap.size = A at *
      refine (number_to _ _ _ _ (by decide) (by decide) (unhide hN7)).mono ?_
      rintro e W2' ⟨rfl, rfl⟩
      go_upto_block 2 with fail
      go_cut [] (fun wy => ∃ L', L'.length ≤ j + 1 ∧ Tz w t L' A k s n wy)
      case first =>
        have hcase : kk = 0 ∨ kk = 1 ∨ kk = 2 ∨ kk = 3 ∨ ((kk == 0) = false ∧ (kk == 1) = false ∧ (kk == 2) = false ∧ (kk == 3) = false) := by
          by_cases h0 : kk = 0
          · exact .inl h0
          · by_cases h1 : kk = 1
            · exact .inr (.inl h1)
            · by_cases h2 : kk = 2
              · exact .inr (.inr (.inl h2))
              · by_cases h3 : kk = 3
                · exact .inr (.inr (.inr (.inl h3)))
                · exact .inr (.inr (.inr (.inr ⟨beq_eq_false_iff_ne.2 h0, beq_eq_false_iff_ne.2 h1, beq_eq_false_iff_ne.2 h2, beq_eq_false_iff_ne.2 h3⟩)))
        clear hN7 hkb
        rcases hcase with rfl | rfl | rfl | rfl | ⟨f0, f1, f2, f3⟩
        · obtain ⟨v, L', hB⟩ := bothq_add (L := L) (unhide hrs) (unhide hLs) s n
          have hlen := hB.len
          replace hB := hide hB
          have Z5 := hide ((unhide Z0).grew ((Kp.refl [] W2').drew))
          go_wp2_with fail
          go_region_held3 (fun w' => w'.cell? ⟨A, 1, none⟩ = some (.int .i64 s) ∧ w'.cell? ⟨A, 2, none⟩ = some (.int .i64 n)) (first | with_reducible exact (unhide Z7).cells.2 | with_reducible exact (unhide Z6).cells.2 | with_reducible exact (unhide Z5).cells.2) (first
            | (go_at_call 9; obtain ⟨ra, rc, rr⟩ := (unhide Z6).tq.d; refine ((unhide hB).doc rr).mono ?_; rintro e W7 ⟨rfl, X7, K7⟩; have Z7 := hide ((unhide Z6).turnD X7 K7); clear X7 K7 rr)
            | (go_at_call 8; refine ((unhide hB).prog (unhide Z5).tq.p).mono ?_; rintro e W6 ⟨rfl, X6, S6⟩; have Z6 := hide ((unhide Z5).turnP X6 S6); clear X6 S6))
          all_goals
            go_wp2
            go_meet
            case rel => exact ⟨L', by have := unhide hSl; omega, unhide Z7⟩
        · obtain ⟨v, L', hB⟩ := bothq_add (L := L) (unhide hrs) (unhide hLs) s n
          have hlen := hB.len
          replace hB := hide hB
          have Z5 := hide ((unhide Z0).grew ((Kp.refl [] W2').drew))
          go_wp2_with fail
          go_region_held3 (fun w' => w'.cell? ⟨A, 1, none⟩ = some (.int .i64 s) ∧ w'.cell? ⟨A, 2, none⟩ = some (.int .i64 n)) (first | with_reducible exact (unhide Z7).cells.2 | with_reducible exact (unhide Z6).cells.2 | with_reducible exact (unhide Z5).cells.2) (first
            | (go_at_call 9; obtain ⟨ra, rc, rr⟩ := (unhide Z6).tq.d; refine ((unhide hB).doc rr).mono ?_; rintro e W7 ⟨rfl, X7, K7⟩; have Z7 := hide ((unhide Z6).turnD X7 K7); clear X7 K7 rr)
            | (go_at_call 8; refine ((unhide hB).prog (unhide Z5).tq.p).mono ?_; rintro e W6 ⟨rfl, X6, S6⟩; have Z6 := hide ((unhide Z5).turnP X6 S6); clear X6 S6))
          all_goals
            go_wp2
            go_meet
            case rel => exact ⟨L', by have := unhide hSl; omega, unhide Z7⟩
        · obtain ⟨v, L', hB⟩ := bothq_rem (L := L) (unhide hrs) s
          have hlen := hB.len
          replace hB := hide hB
          have Z5 := hide ((unhide Z0).grew ((Kp.refl [] W2').drew))
          go_wp2_with fail
          go_region_held3 (fun w' => w'.cell? ⟨A, 1, none⟩ = some (.int .i64 s)) (first | with_reducible exact (unhide Z7).cells.2.1 | with_reducible exact (unhide Z6).cells.2.1 | with_reducible exact (unhide Z5).cells.2.1) (first
            | (go_at_call 11; obtain ⟨ra, rc, rr⟩ := (unhide Z6).tq.d; refine ((unhide hB).doc rr).mono ?_; rintro e W7 ⟨rfl, X7, K7⟩; have Z7 := hide ((unhide Z6).turnD X7 K7); clear X7 K7 rr)
            | (go_at_call 10; refine ((unhide hB).prog (unhide Z5).tq.p).mono ?_; rintro e W6 ⟨rfl, X6, S6⟩; have Z6 := hide ((unhide Z5).turnP X6 S6); clear X6 S6))
          all_goals
            go_wp2
            go_meet
            case rel => exact ⟨L', by have := unhide hSl; omega, unhide Z7⟩
        · obtain ⟨v, L', hB⟩ := bothq_set (L := L) (unhide hrs) s n
          have hlen := hB.len
          replace hB := hide hB
          have Z5 := hide ((unhide Z0).grew ((Kp.refl [] W2').drew))
          go_wp2_with fail
          go_region_held3 (fun w' => w'.cell? ⟨A, 1, none⟩ = some (.int .i64 s) ∧ w'.cell? ⟨A, 2, none⟩ = some (.int .i64 n)) (first | with_reducible exact (unhide Z7).cells.2 | with_reducible exact (unhide Z6).cells.2 | with_reducible exact (unhide Z5).cells.2) (first
            | (go_at_call 13; obtain ⟨ra, rc, rr⟩ := (unhide Z6).tq.d; refine ((unhide hB).doc rr).mono ?_; rintro e W7 ⟨rfl, X7, K7⟩; have Z7 := hide ((unhide Z6).turnD X7 K7); clear X7 K7 rr)
            | (go_at_call 12; refine ((unhide hB).prog (unhide Z5).tq.p).mono ?_; rintro e W6 ⟨rfl, X6, S6⟩; have Z6 := hide ((unhide Z5).turnP X6 S6); clear X6 S6))
          all_goals
            go_wp2
            go_meet
            case rel => exact ⟨L', by have := unhide hSl; omega, unhide Z7⟩
        · obtain ⟨v, is, L', hB⟩ := bothq_pick (L := L) (unhide hrs) n
          have hlen := hB.len
          replace hB := hide hB
          obtain ⟨c0, c1, c2⟩ := (unhide Z0).cells
          go_wp2_with fail
          refine ((unhide hB).prog (unhide Z0).tq.p).mono ?_
          rintro e W6 ⟨rfl, X6, S6⟩
          have Z6 := hide ((unhide Z0).turnP X6 S6)
          clear X6 S6 c0 c1 c2
          obtain ⟨c0, c1, c2⟩ := (unhide Z6).cells
          go_wp2_with fail
          obtain ⟨ra, rc, rr⟩ := (unhide Z6).tq.d
          refine ((unhide hB).doc rr).mono ?_
          rintro e W7 ⟨rfl, X7, K7⟩
          have Z7 := hide ((unhide Z6).turnD X7 K7)
          clear X7 K7 rr c0 c1 c2
          go_wp2
          go_meet
          case rel => exact ⟨L', by have := unhide hSl; omega, unhide Z7⟩
      case rest =>
        obtain ⟨L', hL', hZ'⟩ := hcut
        have Z1 := hide hZ'
        clear Z0 hZ' hN7 hLs hrs hSl
        obtain ⟨is, his⟩ : ∃ v, (qPr L' s).isSome = v := ⟨_, rfl⟩
        obtain ⟨pr, hpr⟩ : ∃ v, (qPr L' s).getD 0 = v := ⟨_, rfl⟩
        obtain ⟨zs, hzs⟩ : ∃ v, qReady L' = v := ⟨_, rfl⟩
        have hzl : Hid (zs.length ≤ 65536) := by rw [← hzs]; have := qRow_len L' (qMost L'); unfold Hid qReady; omega
        replace his := hide his
        replace hpr := hide hpr
        replace hzs := hide hzs
        obtain ⟨c0, c1, c2⟩ := (unhide Z1).cells
        go_wp2_with fail
        refine (qprio_in (unhide Z1).tq.p (unhide hpr) (unhide his)).mono ?_
        rintro e W3 ⟨rfl, K3⟩
        have Z3 := hide ((unhide Z1).grew K3)
        clear K3 Z1 c0 c1 c2
        obtain ⟨c0, c1, c2⟩ := (unhide Z3).cells
        go_wp2_with fail
        obtain ⟨ra, rc, rr⟩ := (unhide Z3).tq.d
        refine (rqprio_to rr (unhide hpr) (unhide his)).mono ?_
        rintro e W5 ⟨rfl, K5⟩
        have Z5 := hide ((unhide Z3).grew K5)
        clear K5 Z3 rr c0 c1 c2
        go_wp2_with fail
        refine (qready_in (unhide Z5).tq.p (unhide hzs)).mono ?_
        rintro e W7 ⟨v7, rfl, R7, K7⟩
        have Z7 := hide ((unhide Z5).grew K7)
        have V7 := hide (IV.of R7 (unhide hzl))
        clear K7 R7 Z5
        go_wp2_with fail
        obtain ⟨ra, rc, rr⟩ := (unhide Z7).tq.d
        refine (rqready rr (unhide hzs)).mono ?_
        rintro e W8 ⟨v8, rfl, R8, K8⟩
        have Z8 := hide ((unhide Z7).grew K8)
        have V8 := hide (IV.of R8 (unhide hzl))
        have V9 := hide ((unhide V7).kept K8)
        clear K8 R8 Z7 V7 rr
        go_wp2_with fail
        refine (sameint_calls (unhide V9) (unhide V8)).mono ?_
        rintro e W9 ⟨rfl, K9⟩
        have Z9 := hide ((unhide Z8).grew K9)
        clear V8 V9 Z8 K9
        go_wp2
        go_roundg (len - (j + 1))
        case measure => omega
        case rel => exact ⟨j + 1, L', by omega, rfl, by go_num, (unhide Z9).tq, by omega⟩
    · have b1 : decide ((j : Int) < (len : Int)) = false := decide_eq_false (by omega)
      replace hT := hide hT
      go_wp2
      go_ret
      exact ⟨rfl, (unhide hT).p.kp.below (Nat.le_refl _) (by simp)⟩
theorem qplay_walk (a0 : Option Addr) (len cap : Nat) (V : Nat → Nat → Value) (w : World) (hR : Recs w a0 len 3 V) (y1 : ThreeQ V len) :
    Calls Try.prog 3 #[.slice a0 len cap] w fun e w' => e = .returned (.bool true) ∧ Below w.heap.size w w' := by
  by_cases h : len ≤ 60
  · exact qplay_in a0 len cap V w h hR y1
  · exact qplay_long a0 len cap w (by omega)
end Go.Proofs.Ytennmoaaieedpaa
