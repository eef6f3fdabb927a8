/- The walk of ListPlays. -/
import Derived.Test.YtldeonlonoiliaaKTw12
import Derived.Test.YtldeonlonoiliaaKRef
import Derived.Deep.DeepCutAuto
import Derived.Deep.CutBlock
import Derived.Deep.RegionHeld3
namespace Go.Proofs.Ytldeonlonoiliaa
open Go.RowKit
set_option linter.unusedVariables false
set_option linter.unusedSimpArgs false
set_option maxHeartbeats 400000 in
theorem lplay_long (a0 : Option Addr) (len cap : Nat) (w : World) (hl : 60 < len) :
    Calls Try.prog 3 #[.slice a0 len cap] w fun e w' => e = .returned (.bool true) ∧ Below w.heap.size w w' := by
  have h2 : (60 : Int) < (len : Int) := by omega
  clear hl
  go_enter Try.func3, Try.ntmps3
  go_wp2_with fail
  refine (first_calls _).mono ?_
  rintro e W0 ⟨rfl, K0⟩
  go_wp2
  go_ret
  exact ⟨rfl, K0.below (Nat.le_refl _) (by simp)⟩
set_option maxRecDepth 10000 in
set_option maxHeartbeats 20000000 in
theorem lplay_in (a0 : Option Addr) (len cap : Nat) (V : Nat → Nat → Value) (w : World) (hl : len ≤ 60) (hR : Recs w a0 len 3 V) (y1 : ThreeL V len) :
    Calls Try.prog 3 #[.slice a0 len cap] w fun e w' => e = .returned (.bool true) ∧ Below w.heap.size w w' := by
  have h2 : decide ((60 : Int) < (len : Int)) = false := decide_eq_false (by omega)
  have HR := hide hR
  replace y1 := hide y1
  clear hR
  go_enter Try.func3, Try.ntmps3
  go_wp2_with fail
  refine (first_calls _).mono ?_
  rintro e W0 ⟨rfl, K0⟩
  obtain ⟨t, et⟩ : ∃ t, W0.heap.size = t := ⟨_, rfl⟩
  have X0 := hide (Tl.start K0 et)
  clear K0
  go_wp2_with fail
  generalize (W0.alloc (.cells #[.map none, .int .i64 0, .int .i64 0] 28)).alloc (.cells #[.slice none 0 0] 31) = W1 at *
  go_loopg [6] len (fun m i wr => ∃ (j : Nat) (L : List (Int × Int)), j ≤ len ∧ m = len - j ∧ i = .int .i64 j ∧ Tl w t L L wr ∧ L.length ≤ j)
  case atStart => exact ⟨0, [], Nat.zero_le _, by omega, rfl, unhide X0, Nat.le_refl _⟩
  case round =>
    obtain ⟨j, L, hj, rfl, rfl, hT, hSl⟩ := hrel
    clear X0
    by_cases hlt : j < len
    · have b1 : (j : Int) < (len : Int) := by omega
      have b2 : ((j : Int)).toNat = j := Int.toNat_natCast j
      obtain ⟨⟨k, hk, kw⟩, ⟨q1, hs, sw⟩, ⟨q2, hn, nw⟩⟩ := unhide y1 j hlt
      obtain ⟨b, off, ea, hc⟩ := do3_l (unhide HR) hT.p.kp hlt
      subst ea
      have d0 := hc 0 (by decide)
      have d1 := hc 1 (by decide)
      have d2 := hc 2 (by decide)
      rw [hk] at d0
      rw [hs] at d1
      rw [hn] at d2
      simp only [← Nat.add_assoc, Nat.add_zero] at d0 d1 d2
      have hi : Hid (IdIn (q1, q2)) := ⟨sw, nw⟩
      obtain ⟨kk, hkk⟩ : ∃ m, k % 5 = m := ⟨_, rfl⟩
      have hN7 := hide hkk
      have Z0 := hide ((hT.box q1 q2).grew ((Kp.refl [] _).drew))
      have hLs : Hid (L.length < 65536) := by unfold Hid; omega
      have hnd := hide hT.p.nd
      replace hSl := hide hSl
      have hS : Hid (∀ w', Kp [] wr w' → w'.cell? ⟨b, off + j * 3, none⟩ = some (.int .i64 k) ∧ w'.cell? ⟨b, off + j * 3 + 1, none⟩ = some (.int .i64 q1) ∧ w'.cell? ⟨b, off + j * 3 + 2, none⟩ = some (.int .i64 q2)) := fun w' kk => ⟨kk.cell d0, kk.cell d1, kk.cell d2⟩
      have K0 := hide (Kp.refl [] wr)
      clear hc hk hs hn kw sw nw hkk hT d0 d1 d2
      go_wp2_with fail
      go_region_held3 (fun w' => w'.cell? ⟨b, off + j * 3, none⟩ = some (.int .i64 k) ∧ w'.cell? ⟨b, off + j * 3 + 1, none⟩ = some (.int .i64 q1) ∧ w'.cell? ⟨b, off + j * 3 + 2, none⟩ = some (.int .i64 q2)) (first | exact unhide hS _ ((unhide K0).drew) | exact unhide hS _ (((unhide K0).alloc _).drew)) (fail)
      all_goals
        have d0 := (unhide hS _ (((unhide K0).alloc (.cells #[.int .i64 q1, .int .i64 q2] 26)).drew)).1
        clear hS K0
        generalize (wr.alloc (.cells #[.int .i64 q1, .int .i64 q2] 26)).drew = W2 at *
        generalize wr.heap.size = A at *
        go_wp2_with fail
        refine (number_to _ _ _ _ (by decide) (by decide) (unhide hN7)).mono ?_
        rintro e W2' ⟨rfl, rfl⟩
        clear d0
        go_upto_block 2 with fail
        go_cut [] (fun wy => ∃ L', L'.length ≤ j + 1 ∧ Tb12 w t L' L' A q1 q2 wy)
        case first =>
          have hcase : kk = 3 ∨ kk = 4 ∨ ((kk == 3) = false ∧ (kk == 4) = false) := by
            by_cases h4 : kk = 3
            · exact .inl h4
            · by_cases h5 : kk = 4
              · exact .inr (.inl h5)
              · exact .inr (.inr ⟨beq_eq_false_iff_ne.2 h4, beq_eq_false_iff_ne.2 h5⟩)
          clear hN7
          rcases hcase with rfl | rfl | ⟨f4, f5⟩
          · obtain ⟨r1, r2, v, L', hB⟩ := bothl_pop L
            have hlen := hB.len
            replace hB := hide hB
            go_wp2_with fail
            refine ((unhide hB).prog (unhide Z0).tl.p).mono ?_
            rintro e W6 ⟨rfl, X6, S6⟩
            have Z6 := hide ((unhide Z0).turnP X6 S6)
            clear X6 S6
            have hD := hide (unhide Z6).tl.lt
            have F6 := hide (Bk.new W6 26 [.int .i64 r1, .int .i64 r2])
            have K6 := (Kp.refl [] W6).alloc (.cells #[.int .i64 r1, .int .i64 r2] 26)
            replace Z6 := hide ((unhide Z6).grew K6)
            clear K6
            go_wp2_with fail
            generalize W6.alloc (.cells #[.int .i64 r1, .int .i64 r2] 26) = W6' at *
            generalize W6.heap.size = D1 at *
            obtain ⟨ra, rc, rr⟩ := (unhide Z6).tl.d
            refine ((unhide hB).doc rr).mono ?_
            rintro e W7 ⟨rfl, X7, K7⟩
            have F7 := hide ((unhide F6).kept K7 (by have := unhide hD; simp; omega))
            have Z7 := hide ((unhide Z6).turnD X7 K7)
            have K8 := (Kp.refl [] W7).alloc (.cells #[.int .i64 r1, .int .i64 r2] 26)
            have Z8 := hide ((unhide Z7).grew K8)
            have F8 := (unhide F7).kept K8 (by simp)
            have G8 := Bk.new W7 26 [.int .i64 r1, .int .i64 r2]
            have f0 := F8.cell (i := 0) rfl
            have f1 := F8.cell (i := 1) rfl
            have g0 := G8.cell (i := 0) rfl
            have g1 := G8.cell (i := 1) rfl
            clear X7 K7 rr F6 F7 F8 G8 K8 Z6 Z7 Z0
            go_wp2
            go_meet
            case rel => exact ⟨L', by have := unhide hSl; omega, unhide Z8⟩
          · obtain ⟨v, L', hB⟩ := bothl_drop (L := L) (unhide hi) (unhide hnd)
            have hlen := hB.len
            replace hB := hide hB
            have Z5 := hide ((unhide Z0).grew ((Kp.refl [] W2').drew))
            go_wp2_with fail
            go_region_held3 (fun w' => w'.cell? ⟨A, 0, none⟩ = some (.int .i64 q1) ∧ w'.cell? ⟨A, 1, none⟩ = some (.int .i64 q2)) (first | with_reducible exact (unhide Z7).cells | with_reducible exact (unhide Z6).cells | with_reducible exact (unhide Z5).cells) (first
              | (go_at_call 11; obtain ⟨ra, rc, rr⟩ := (unhide Z6).tl.d; refine ((unhide hB).doc rr).mono ?_; rintro e W7 ⟨rfl, X7, K7⟩; have Z7 := hide ((unhide Z6).turnD X7 K7); clear X7 K7 rr)
              | (go_at_call 10; refine ((unhide hB).prog (unhide Z5).tl.p).mono ?_; rintro e W6 ⟨rfl, X6, S6⟩; have Z6 := hide ((unhide Z5).turnP X6 S6); clear X6 S6))
            all_goals
              go_wp2
              go_meet
              case rel => exact ⟨L', by have := unhide hSl; omega, unhide Z7⟩
          · obtain ⟨v, L', hB⟩ := bothl_push (L := L) (unhide hi) (unhide hLs)
            have hlen := hB.len
            replace hB := hide hB
            have Z5 := hide ((unhide Z0).grew ((Kp.refl [] W2').drew))
            go_wp2_with fail
            go_region_held3 (fun w' => w'.cell? ⟨A, 0, none⟩ = some (.int .i64 q1) ∧ w'.cell? ⟨A, 1, none⟩ = some (.int .i64 q2)) (first | with_reducible exact (unhide Z7).cells | with_reducible exact (unhide Z6).cells | with_reducible exact (unhide Z5).cells) (first
              | (go_at_call 13; obtain ⟨ra, rc, rr⟩ := (unhide Z6).tl.d; refine ((unhide hB).doc rr).mono ?_; rintro e W7 ⟨rfl, X7, K7⟩; have Z7 := hide ((unhide Z6).turnD X7 K7); clear X7 K7 rr)
              | (go_at_call 12; refine ((unhide hB).prog (unhide Z5).tl.p).mono ?_; rintro e W6 ⟨rfl, X6, S6⟩; have Z6 := hide ((unhide Z5).turnP X6 S6); clear X6 S6))
            all_goals
              go_wp2
              go_meet
              case rel => exact ⟨L', by have := unhide hSl; omega, unhide Z7⟩
        case rest =>
          obtain ⟨L', hL', hZ'⟩ := hcut
          have Z1 := hide hZ'
          clear Z0 hZ' hN7 hLs hnd hSl
          obtain ⟨ra, rc, rr⟩ := (unhide Z1).tl.d
          obtain ⟨is, his⟩ : ∃ v, lHas L' (q1, q2) = v := ⟨_, rfl⟩
          replace his := hide his
          obtain ⟨n, hn⟩ : ∃ v : Nat, L'.length = v := ⟨_, rfl⟩
          have hn' : Hid ((L'.length : Int) = (n : Int)) := by rw [hn]; rfl
          have hsm := hide (unhide Z1).tl.p.small
          have hhd := rr.head
          rw [hn] at hhd
          have hS : Hid (∀ w', Kp [] wc w' → w'.cell? ⟨A, 0, none⟩ = some (.int .i64 q1) ∧ w'.cell? ⟨A, 1, none⟩ = some (.int .i64 q2) ∧ w'.cell? ⟨t + 1, 0, none⟩ = some (.slice ra n rc)) := fun w' kk => by
            have z := (unhide Z1).grew kk
            exact ⟨z.b.cell rfl, z.b.cell rfl, (hhd.kept kk (by simp)).cell rfl⟩
          have K0 := hide (Kp.refl [] wc).drew
          replace rr := hide rr
          replace hn := hide hn
          clear hhd
          go_wp2_with fail
          go_region_held3 (fun w' => w'.cell? ⟨A, 0, none⟩ = some (.int .i64 q1) ∧ w'.cell? ⟨A, 1, none⟩ = some (.int .i64 q2) ∧ w'.cell? ⟨t + 1, 0, none⟩ = some (.slice ra n rc)) (first | with_reducible exact unhide hS _ (unhide K5) | with_reducible exact unhide hS _ (unhide K4) | with_reducible exact unhide hS _ (unhide K3) | with_reducible exact unhide hS _ (unhide K2) | with_reducible exact unhide hS _ (unhide K1) | with_reducible exact unhide hS _ (unhide K0)) (first
            | (go_at_call 17; refine (sameid_kp (unhide V4) (unhide V5)).mono ?_; rintro e W5 ⟨rfl, k5⟩; have K5 := hide ((unhide K4).then k5); clear k5)
            | (go_at_call 18; refine (lall ((unhide Z1).grew (unhide K3)).tl.p).mono ?_; rintro e W4 ⟨v4, rfl, R4, k4⟩; have K4 := hide ((unhide K3).then k4); have V4 := hide (LV.of R4.ro (unhide hsm)); have V5 : Hid (LV W4 (.slice ra n rc) L') := (by have := LV.of ((unhide rr).grew (unhide K4)).rd (unhide hsm); rw [unhide hn] at this; exact this); obtain ⟨a4, c4, e4⟩ := R4.form; subst e4; clear R4 k4)
            | (go_at_call 16; refine (rlhas ((unhide rr).grew (unhide K2)) (unhide his)).mono ?_; rintro e W3 ⟨rfl, k3⟩; have K3 := hide ((unhide K2).then k3); clear k3)
            | (go_at_call 15; refine (lhas ((unhide Z1).grew (unhide K1)).tl.p (unhide hi) (unhide his)).mono ?_; rintro e W2 ⟨rfl, k2⟩; have K2 := hide ((unhide K1).then k2); clear k2)
            | (go_at_call 14; refine (llen ((unhide Z1).grew (unhide K0)).tl.p (unhide hn')).mono ?_; rintro e W1 ⟨rfl, k1⟩; have K1 := hide ((unhide K0).then k1); clear k1))
          all_goals
            have Z9 := hide ((unhide Z1).grew (unhide K5)).tl
            go_wp2
            go_roundg (len - (j + 1))
            case measure => omega
            case rel => exact ⟨j + 1, L', by omega, rfl, by go_num, unhide Z9, by omega⟩
    · have b1 : decide ((j : Int) < (len : Int)) = false := decide_eq_false (by omega)
      replace hT := hide hT
      go_wp2
      go_ret
      exact ⟨rfl, (unhide hT).p.kp.below (Nat.le_refl _) (by simp)⟩
theorem lplay_walk (a0 : Option Addr) (len cap : Nat) (V : Nat → Nat → Value) (w : World) (hR : Recs w a0 len 3 V) (y1 : ThreeL V len) :
    Calls Try.prog 3 #[.slice a0 len cap] w fun e w' => e = .returned (.bool true) ∧ Below w.heap.size w w' := by
  by_cases h : len ≤ 60
  · exact lplay_in a0 len cap V w h hR y1
  · exact lplay_long a0 len cap w (by omega)
end Go.Proofs.Ytldeonlonoiliaa
