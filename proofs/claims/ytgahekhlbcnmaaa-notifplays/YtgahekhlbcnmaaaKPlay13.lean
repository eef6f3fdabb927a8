/- The walk of NotifPlays. -/
import Derived.Test.YtgahekhlbcnmaaaKTw13
import Derived.Test.YtgahekhlbcnmaaaKRef
import Derived.Deep.DeepCutAuto
import Derived.Deep.CutBlock
import Derived.Deep.RegionHeld3
namespace Go.Proofs.Ytgahekhlbcnmaaa
open Go.RowKit
set_option linter.unusedVariables false
set_option linter.unusedSimpArgs false
set_option maxHeartbeats 400000 in
theorem nplay_long (a0 : Option Addr) (len cap : Nat) (w : World) (hl : 60 < len) :
    Calls Try.prog 4 #[.slice a0 len cap] w fun e w' => e = .returned (.bool true) ∧ Below w.heap.size w w' := by
  have h2 : (60 : Int) < (len : Int) := by omega
  clear hl
  go_enter Try.func4, Try.ntmps4
  go_wp2_with fail
  refine (first_calls _).mono ?_
  rintro e W0 ⟨rfl, K0⟩
  go_wp2
  go_ret
  exact ⟨rfl, K0.below (Nat.le_refl _) (by simp)⟩
set_option maxRecDepth 10000 in
set_option maxHeartbeats 20000000 in
theorem nplay_in (a0 : Option Addr) (len cap : Nat) (V : Nat → Nat → Value) (w : World) (hl : len ≤ 60) (hR : Recs w a0 len 3 V) (y1 : ThreeN V len) :
    Calls Try.prog 4 #[.slice a0 len cap] w fun e w' => e = .returned (.bool true) ∧ Below w.heap.size w w' := by
  have h2 : decide ((60 : Int) < (len : Int)) = false := decide_eq_false (by omega)
  have HR := hide hR
  replace y1 := hide y1
  clear hR
  go_enter Try.func4, Try.ntmps4
  go_wp2_with fail
  refine (first_calls _).mono ?_
  rintro e W0 ⟨rfl, K0⟩
  obtain ⟨t, et⟩ : ∃ t, W0.heap.size = t := ⟨_, rfl⟩
  have X0 := hide (Tn.start K0 et)
  clear K0
  go_wp2_with fail
  generalize (W0.alloc (.cells #[.int .u32 0, .map none, .int .i64 0, .int .i64 0] 31)).alloc (.cells #[.int .u32 0, .slice none 0 0] 44) = W1 at *
  go_loopg [6] len (fun m i wr => ∃ (j : Nat) (wd : Int) (L : List (Int × Int)), j ≤ len ∧ m = len - j ∧ i = .int .i64 j ∧ Tn w t wd L wd L wr ∧ L.length ≤ j)
  case atStart => exact ⟨0, 0, [], Nat.zero_le _, by omega, rfl, unhide X0, Nat.le_refl _⟩
  case round =>
    obtain ⟨j, wd, L, hj, rfl, rfl, hT, hSl⟩ := hrel
    clear X0
    by_cases hlt : j < len
    · have b1 : (j : Int) < (len : Int) := by omega
      have b2 : ((j : Int)).toNat = j := Int.toNat_natCast j
      obtain ⟨⟨k, hk, kw⟩, ⟨s, hs, sw⟩, ⟨x, hn, nw⟩⟩ := unhide y1 j hlt
      obtain ⟨b, off, ea, hc⟩ := do3_n (unhide HR) hT.p.kp hlt
      subst ea
      have d0 := hc 0 (by decide)
      have d1 := hc 1 (by decide)
      have d2 := hc 2 (by decide)
      rw [hk] at d0
      rw [hs] at d1
      rw [hn] at d2
      simp only [← Nat.add_assoc, Nat.add_zero] at d0 d1 d2
      have C2 : Hid (∀ w', Kp [] w w' → w'.cell? ⟨b, off + j * 3 + 2, none⟩ = some (.int .u32 x)) := fun w' kk => by
        obtain ⟨b', off', ea, hc'⟩ := do3_n (unhide HR) kk hlt
        cases ea
        have := hc' 2 (by decide)
        rw [hn] at this
        simp only [← Nat.add_assoc] at this
        exact this
      obtain ⟨q2, hq2⟩ : ∃ m, s % 9 = m := ⟨_, rfl⟩
      have hi : Hid (IdIn (1, q2)) := idIn_of (by decide) (by omega)
      obtain ⟨kk, hkk⟩ : ∃ m, k % 6 = m := ⟨_, rfl⟩
      have hN6 := hide hkk
      have hN9 := hide hq2
      have Z0 := hide (hT.box 1 q2)
      have hLs : Hid (L.length < 65536) := by unfold Hid; omega
      have hnd := hide hT.p.nd
      replace hSl := hide hSl
      have K0 := (Kp.refl [] wr).alloc (.cells #[.int .i64 1, .int .i64 q2] 27)
      have D0 := hide (K0.cell d0)
      clear hc hk hs hn kw sw nw hkk hq2 hT d0 d2 K0
      go_wp2_with fail
      refine (number_to _ _ _ _ (by decide) (by decide) (unhide hN9)).mono ?_
      rintro e W2' ⟨rfl, rfl⟩
      clear d1
      have d0 := unhide D0
      go_wp2_with fail
      generalize hW2 : W2'.alloc (.cells #[.int .i64 1, .int .i64 q2] 27) = W2 at *
      clear hW2
      generalize W2'.heap.size = A at *
      refine (number_to _ _ _ _ (by decide) (by decide) (unhide hN6)).mono ?_
      rintro e W2'' ⟨rfl, rfl⟩
      clear d0 D0 hN9
      go_upto_block 2 with fail
      go_cut [] (fun wy => ∃ wd' L', L'.length ≤ j + 1 ∧ Tb13 w t wd' L' wd' L' A 1 q2 wy)
      case first =>
        have hcase : kk = 3 ∨ kk = 4 ∨ kk = 5 ∨ ((kk == 3) = false ∧ (kk == 4) = false ∧ (kk == 5) = false) := by
          by_cases h3 : kk = 3
          · exact .inl h3
          · by_cases h4 : kk = 4
            · exact .inr (.inl h4)
            · by_cases h5 : kk = 5
              · exact .inr (.inr (.inl h5))
              · exact .inr (.inr (.inr ⟨beq_eq_false_iff_ne.2 h3, beq_eq_false_iff_ne.2 h4, beq_eq_false_iff_ne.2 h5⟩))
        clear hN6
        rcases hcase with rfl | rfl | rfl | ⟨f3, f4, f5⟩
        · obtain ⟨v1, is, wd', L', hB⟩ := bothn_wait (word := wd) (L := L) (unhide hi) (unhide hLs)
          have hlen := hB.len
          replace hB := hide hB
          obtain ⟨c0, c1⟩ := (unhide Z0).cells
          go_wp2_with fail
          refine ((unhide hB).prog (unhide Z0).tn.p).mono ?_
          rintro e W6 ⟨rfl, X6, S6⟩
          have Z6 := hide ((unhide Z0).turnP X6 S6)
          clear X6 S6 c0 c1
          obtain ⟨c0, c1⟩ := (unhide Z6).cells
          go_wp2_with fail
          obtain ⟨ra, rc, rr⟩ := (unhide Z6).tn.d
          refine ((unhide hB).doc rr).mono ?_
          rintro e W7 ⟨rfl, X7, K7⟩
          have Z7 := hide ((unhide Z6).turnD X7 K7)
          clear X7 K7 rr c0 c1
          go_wp2
          go_meet
          case rel => exact ⟨wd', L', by have := unhide hSl; omega, unhide Z7⟩
        · obtain ⟨v1, is, wd', L', hB⟩ := bothn_wait (word := wd) (L := L) (unhide hi) (unhide hLs)
          have hlen := hB.len
          replace hB := hide hB
          obtain ⟨c0, c1⟩ := (unhide Z0).cells
          go_wp2_with fail
          refine ((unhide hB).prog (unhide Z0).tn.p).mono ?_
          rintro e W6 ⟨rfl, X6, S6⟩
          have Z6 := hide ((unhide Z0).turnP X6 S6)
          clear X6 S6 c0 c1
          obtain ⟨c0, c1⟩ := (unhide Z6).cells
          go_wp2_with fail
          obtain ⟨ra, rc, rr⟩ := (unhide Z6).tn.d
          refine ((unhide hB).doc rr).mono ?_
          rintro e W7 ⟨rfl, X7, K7⟩
          have Z7 := hide ((unhide Z6).turnD X7 K7)
          clear X7 K7 rr c0 c1
          go_wp2
          go_meet
          case rel => exact ⟨wd', L', by have := unhide hSl; omega, unhide Z7⟩
        · obtain ⟨is, hIs⟩ : ∃ v, lHas L (1, q2) = v := ⟨_, rfl⟩
          have hl' := lDel_len L (1, q2)
          replace hIs := hide hIs
          have Z5 := hide ((unhide Z0).grew ((Kp.refl [] W2'').drew))
          go_wp2_with fail
          go_region_held3 (fun w' => w'.cell? ⟨A, 0, none⟩ = some (.int .i64 1) ∧ w'.cell? ⟨A, 1, none⟩ = some (.int .i64 q2)) (first | with_reducible exact (unhide Z7).cells | with_reducible exact (unhide Z6).cells | with_reducible exact (unhide Z5).cells) (first
            | (go_at_call 15; obtain ⟨ra, rc, rr⟩ := (unhide Z6).tn.d; refine (rldrop rr (unhide hnd) (unhide hIs) rfl).mono ?_; rintro e W7 ⟨rfl, X7, K7⟩; have Z7 := hide ((unhide Z6).turnD X7 K7); clear X7 K7 rr)
            | (go_at_call 14; refine (ndrop (unhide Z5).tn.p (unhide hi) (unhide hIs) rfl).mono ?_; rintro e W6 ⟨rfl, X6, S6⟩; have Z6 := hide ((unhide Z5).turnP X6 S6); clear X6 S6))
          all_goals
            go_wp2
            go_meet
            case rel => exact ⟨wd, lDel L (1, q2), by have := unhide hSl; omega, unhide Z7⟩
        · obtain ⟨r1, r2, v1, is, wd', L', hB⟩ := bothn_sig wd x L
          have hlen := hB.len
          replace hB := hide hB
          have d2 := unhide C2 _ (unhide Z0).tn.p.kp
          go_wp2_with fail
          refine ((unhide hB).prog (unhide Z0).tn.p).mono ?_
          rintro e W6 ⟨rfl, X6, S6⟩
          have Z6 := hide ((unhide Z0).turnP X6 S6)
          clear X6 S6 d2
          have hD := hide (unhide Z6).tn.lt
          have F6 := hide (Bk.new W6 27 [.int .i64 r1, .int .i64 r2])
          have K6 := (Kp.refl [] W6).alloc (.cells #[.int .i64 r1, .int .i64 r2] 27)
          replace Z6 := hide ((unhide Z6).grew K6)
          clear K6
          have d2 := unhide C2 _ (unhide Z6).tn.p.kp
          go_wp2_with fail
          generalize W6.alloc (.cells #[.int .i64 r1, .int .i64 r2] 27) = W6' at *
          generalize W6.heap.size = D1 at *
          obtain ⟨ra, rc, rr⟩ := (unhide Z6).tn.d
          refine ((unhide hB).doc rr).mono ?_
          rintro e W7 ⟨rfl, X7, K7⟩
          have F7 := hide ((unhide F6).kept K7 (by have := unhide hD; simp; omega))
          have Z7 := hide ((unhide Z6).turnD X7 K7)
          have K8 := (Kp.refl [] W7).alloc (.cells #[.int .i64 r1, .int .i64 r2] 27)
          have Z8 := hide ((unhide Z7).grew K8)
          have F8 := (unhide F7).kept K8 (by simp)
          have G8 := Bk.new W7 27 [.int .i64 r1, .int .i64 r2]
          have f0 := F8.cell (i := 0) rfl
          have f1 := F8.cell (i := 1) rfl
          have g0 := G8.cell (i := 0) rfl
          have g1 := G8.cell (i := 1) rfl
          clear X7 K7 rr F6 F7 F8 G8 K8 Z6 Z7 Z0 d2
          go_wp2
          go_meet
          case rel => exact ⟨wd', L', by have := unhide hSl; omega, unhide Z8⟩
      case rest =>
        obtain ⟨wd', L', hL', hZ'⟩ := hcut
        have Z1 := hide hZ'
        clear Z0 hZ' hN6 hLs hnd hSl C2
        obtain ⟨ra, rc, rr⟩ := (unhide Z1).tn.d
        obtain ⟨n, hn⟩ : ∃ v : Nat, L'.length = v := ⟨_, rfl⟩
        have hsm := hide (unhide Z1).tn.p.small
        have hhd := rr.bk
        rw [hn] at hhd
        have hS : Hid (∀ w', Kp [] wc w' → w'.cell? ⟨t + 1, 0, none⟩ = some (.int .u32 wd') ∧ w'.cell? ⟨t + 1, 1, none⟩ = some (.slice ra n rc)) := fun w' kk => ⟨(hhd.kept kk (by simp)).cell rfl, (hhd.kept kk (by simp)).cell rfl⟩
        have K0 := hide (Kp.refl [] wc).drew
        replace rr := hide rr
        replace hn := hide hn
        clear hhd
        go_wp2_with fail
        go_region_held3 (fun w' => w'.cell? ⟨t + 1, 0, none⟩ = some (.int .u32 wd') ∧ w'.cell? ⟨t + 1, 1, none⟩ = some (.slice ra n rc)) (first | with_reducible exact unhide hS _ (unhide K5) | with_reducible exact unhide hS _ (unhide K4) | with_reducible exact unhide hS _ (unhide K1) | with_reducible exact unhide hS _ (unhide K0)) (first
          | (go_at_call 17; refine (sameid_kp (unhide V4) (unhide V5)).mono ?_; rintro e W5 ⟨rfl, k5⟩; have K5 := hide ((unhide K4).then k5); clear k5)
          | (go_at_call 10; refine (nwaits ((unhide Z1).grew (unhide K1)).tn.p).mono ?_; rintro e W4 ⟨v4, rfl, R4, k4⟩; have K4 := hide ((unhide K1).then k4); have V4 := hide (LV.of R4.ro (unhide hsm)); have V5 : Hid (LV W4 (.slice ra n rc) L') := (by have := LV.of (RL.rd ((unhide rr).grew (unhide K4))) (unhide hsm); rw [unhide hn] at this; exact this); obtain ⟨a4, c4, e4⟩ := R4.form; subst e4; clear R4 k4)
          | (go_at_call 12; refine (nword ((unhide Z1).grew (unhide K0)).tn.p).mono ?_; rintro e W1 ⟨rfl, k1⟩; have K1 := hide ((unhide K0).then k1); clear k1))
        all_goals
          have Z9 := hide ((unhide Z1).grew (unhide K5)).tn
          go_wp2
          go_roundg (len - (j + 1))
          case measure => omega
          case rel => exact ⟨j + 1, wd', L', by omega, rfl, by go_num, unhide Z9, by omega⟩
    · have b1 : decide ((j : Int) < (len : Int)) = false := decide_eq_false (by omega)
      replace hT := hide hT
      go_wp2
      go_ret
      exact ⟨rfl, (unhide hT).p.kp.below (Nat.le_refl _) (by simp)⟩
theorem nplay_walk (a0 : Option Addr) (len cap : Nat) (V : Nat → Nat → Value) (w : World) (hR : Recs w a0 len 3 V) (y1 : ThreeN V len) :
    Calls Try.prog 4 #[.slice a0 len cap] w fun e w' => e = .returned (.bool true) ∧ Below w.heap.size w w' := by
  by_cases h : len ≤ 60
  · exact nplay_in a0 len cap V w h hR y1
  · exact nplay_long a0 len cap w (by omega)
end Go.Proofs.Ytgahekhlbcnmaaa
