/- The walk of SpacePlays. -/
import Derived.Test.YtlallciikcmjmaaKTw10
import Derived.Test.YtlallciikcmjmaaKRef
import Derived.Deep.DeepCutAuto
import Derived.Deep.CutBlock
import Derived.Deep.RegionHeld3
namespace Go.Proofs.Ytlallciikcmjmaa
open Go.RowKit
set_option linter.unusedVariables false
set_option linter.unusedSimpArgs false
set_option maxHeartbeats 400000 in
theorem splay_long (a0 a1 : Option Addr) (len cap len1 cap1 : Nat) (n rights : Int) (w : World) (hl : 40 < len ∨ 10 < len1) :
    Calls Try.prog 4 #[.slice a0 len cap, .slice a1 len1 cap1, .int .i64 n, .int .i64 rights] w fun e w' => e = .returned (.bool true) ∧ Below w.heap.size w w' := by
  by_cases h : 40 < len
  · have h2 : (40 : Int) < (len : Int) := by omega
    clear hl
    go_enter Try.func4, Try.ntmps4
    go_wp2_with fail
    refine (first_calls _).mono ?_
    rintro e W0 ⟨rfl, K0⟩
    go_wp2
    go_ret
    exact ⟨rfl, K0.below (Nat.le_refl _) (by simp)⟩
  · have h2 : decide ((40 : Int) < (len : Int)) = false := decide_eq_false (by omega)
    have h3 : (10 : Int) < (len1 : Int) := by omega
    clear hl h
    go_enter Try.func4, Try.ntmps4
    go_wp2_with fail
    refine (first_calls _).mono ?_
    rintro e W0 ⟨rfl, K0⟩
    go_wp2
    go_ret
    exact ⟨rfl, K0.below (Nat.le_refl _) (by simp)⟩
set_option maxRecDepth 10000 in
set_option maxHeartbeats 20000000 in
theorem splay_in (a0 a1 : Option Addr) (len cap len1 cap1 : Nat) (V : Nat → Nat → Value) (zs : List Int) (n rights : Int) (w : World) (hl : len ≤ 40) (hl1 : len1 ≤ 10) (hR : Recs w a0 len 5 V) (y1 : FivePg V len) (hz : zs.length = len1) (hI : Ints .u32 w a1 zs) (hr : -9223372036854775808 ≤ rights ∧ rights ≤ 9223372036854775807) :
    Calls Try.prog 4 #[.slice a0 len cap, .slice a1 len1 cap1, .int .i64 n, .int .i64 rights] w fun e w' => e = .returned (.bool true) ∧ Below w.heap.size w w' := by
  have h2 : decide ((40 : Int) < (len : Int)) = false := decide_eq_false (by omega)
  have h3 : decide ((10 : Int) < (len1 : Int)) = false := decide_eq_false (by omega)
  have HR := hide hR
  have HI := hide hI
  have Hr := hide hr
  have Hz := hide hz
  replace y1 := hide y1
  clear hR hI hr hz
  go_enter Try.func4, Try.ntmps4
  go_wp2_with fail
  refine (first_calls _).mono ?_
  rintro e W0 ⟨rfl, K0⟩
  obtain ⟨t, et⟩ : ∃ t, W0.heap.size = t := ⟨_, rfl⟩
  have X0 := hide (Tw.start K0 et)
  clear K0
  go_wp2_with fail
  generalize (W0.alloc (.cells #[.map none] 26)).alloc (.cells #[.slice none 0 0] 41) = W1 at *
  go_loopg [12] len (fun m i wr => ∃ (j : Nat) (L : List Pg), j ≤ len ∧ m = len - j ∧ i = .int .i64 j ∧ Tw w t L L wr ∧ L.length ≤ j)
  case atStart => exact ⟨0, [], Nat.zero_le _, by omega, rfl, unhide X0, Nat.le_refl _⟩
  case round =>
    obtain ⟨j, L, hj, rfl, rfl, hT, hSl⟩ := hrel
    clear X0
    by_cases hlt : j < len
    · have b1 : (j : Int) < (len : Int) := by omega
      have b2 : ((j : Int)).toNat = j := Int.toNat_natCast j
      obtain ⟨⟨k, hk, kw⟩, ⟨s, hs, sw⟩, ⟨p, hp, pw⟩, ⟨f, hf, fw⟩, ⟨r, hr, rw'⟩⟩ := unhide y1 j hlt
      obtain ⟨b, off, ea, hc⟩ := do5_pg (unhide HR) hT.sp.kp hlt
      subst ea
      have d0 := hc 0 (by decide)
      have d1 := hc 1 (by decide)
      have d2 := hc 2 (by decide)
      have d3 := hc 3 (by decide)
      have d4 := hc 4 (by decide)
      rw [hk] at d0
      rw [hs] at d1
      rw [hp] at d2
      rw [hf] at d3
      rw [hr] at d4
      simp only [← Nat.add_assoc, Nat.add_zero] at d0 d1 d2 d3 d4
      have hi : Hid (PgIn (s, p)) := ⟨sw, pw⟩
      have hsb : Hid (-9223372036854775808 ≤ s ∧ s ≤ 9223372036854775807) := by have := bounds_i64 sw; unfold Hid; omega
      obtain ⟨kk, hkk⟩ : ∃ m, k % 7 = m := ⟨_, rfl⟩
      have hN7 := hide hkk
      have Z0 := hide (hT.boxes k s p f r)
      have hLs : Hid (L.length < 65536) := by unfold Hid; omega
      have hrs := hide hT.sp.rises
      replace hSl := hide hSl
      clear hc hk hs hp hf hr kw sw pw fw rw' hkk hT
      have hsz : ((wr.alloc (.cells #[.int .i64 k, .int .i64 s, .int .i64 p, .int .i64 f, .int .i64 r] 43)).alloc (.cells #[.int .i64 s, .int .i64 p] 30)).heap.size = wr.heap.size + 2 := by simp
      replace hsz := hide hsz
      go_wp2_with fail
      generalize (wr.alloc (.cells #[.int .i64 k, .int .i64 s, .int .i64 p, .int .i64 f, .int .i64 r] 43)).alloc (.cells #[.int .i64 s, .int .i64 p] 30) = W2 at *
      clear d0 d1 d2 d3 d4
      generalize wr.heap.size = A at *
      refine (number_to _ _ _ _ (by decide) (by decide) (unhide hN7)).mono ?_
      rintro e W2' ⟨rfl, rfl⟩
      go_upto_block 2 with fail
      go_cut [] (fun wy => ∃ L', L'.length ≤ j + 1 ∧ Ta w t L' L' A k s p f r wy)
      case first =>
        have hcase : kk = 4 ∨ kk = 5 ∨ kk = 6 ∨ ((kk == 4) = false ∧ (kk == 5) = false ∧ (kk == 6) = false) := by
          by_cases h4 : kk = 4
          · exact .inl h4
          · by_cases h5 : kk = 5
            · exact .inr (.inl h5)
            · by_cases h6 : kk = 6
              · exact .inr (.inr (.inl h6))
              · exact .inr (.inr (.inr ⟨beq_eq_false_iff_ne.2 h4, beq_eq_false_iff_ne.2 h5, beq_eq_false_iff_ne.2 h6⟩))
        clear hN7
        rcases hcase with rfl | rfl | rfl | ⟨f4, f5, f6⟩
        · obtain ⟨v, L', hB⟩ := both_clear (L := L) (unhide hi) (unhide hrs)
          have hlen := hB.len
          replace hB := hide hB
          have Z5 := hide ((unhide Z0).grew ((Kp.refl [] W2').drew))
          go_wp2_with fail
          go_region_held3 (fun w' => w'.cell? ⟨A + 1, 0, none⟩ = some (.int .i64 s) ∧ w'.cell? ⟨A + 1, 1, none⟩ = some (.int .i64 p)) (first | with_reducible exact (unhide Z7).pcells | with_reducible exact (unhide Z6).pcells | with_reducible exact (unhide Z5).pcells) (first
            | (go_at_call 14; obtain ⟨ra, rc, rr⟩ := (unhide Z6).tw.rp; refine ((unhide hB).doc rr).mono ?_; rintro e W7 ⟨rfl, X7, K7⟩; have Z7 := hide ((unhide Z6).turnD X7 K7); clear X7 K7 rr)
            | (go_at_call 13; refine ((unhide hB).prog (unhide Z5).tw.sp).mono ?_; rintro e W6 ⟨rfl, X6, S6⟩; have Z6 := hide ((unhide Z5).turnP X6 S6); clear X6 S6))
          all_goals
            go_wp2
            go_meet
            case rel => exact ⟨L', by have := unhide hSl; omega, unhide Z7⟩
        · obtain ⟨v, L', hB⟩ := both_drop (L := L) f (unhide hrs)
          have hlen := hB.len
          replace hB := hide hB
          have Z5 := hide ((unhide Z0).grew ((Kp.refl [] W2').drew))
          go_wp2_with fail
          go_region_held3 (fun w' => w'.cell? ⟨A, 3, none⟩ = some (.int .i64 f)) (first | with_reducible exact (unhide Z7).cells.2.2.2.1 | with_reducible exact (unhide Z6).cells.2.2.2.1 | with_reducible exact (unhide Z5).cells.2.2.2.1) (first
            | (go_at_call 16; obtain ⟨ra, rc, rr⟩ := (unhide Z6).tw.rp; refine ((unhide hB).doc rr).mono ?_; rintro e W7 ⟨rfl, X7, K7⟩; have Z7 := hide ((unhide Z6).turnD X7 K7); clear X7 K7 rr)
            | (go_at_call 15; refine ((unhide hB).prog (unhide Z5).tw.sp).mono ?_; rintro e W6 ⟨rfl, X6, S6⟩; have Z6 := hide ((unhide Z5).turnP X6 S6); clear X6 S6))
          all_goals
            go_wp2
            go_meet
            case rel => exact ⟨L', by have := unhide hSl; omega, unhide Z7⟩
        · obtain ⟨v, L', hB⟩ := both_empty (L := L) s (unhide hrs)
          have hlen := hB.len
          replace hB := hide hB
          have Z5 := hide ((unhide Z0).grew ((Kp.refl [] W2').drew))
          go_wp2_with fail
          go_region_held3 (fun w' => w'.cell? ⟨A, 1, none⟩ = some (.int .i64 s)) (first | with_reducible exact (unhide Z7).cells.2.1 | with_reducible exact (unhide Z6).cells.2.1 | with_reducible exact (unhide Z5).cells.2.1) (first
            | (go_at_call 18; obtain ⟨ra, rc, rr⟩ := (unhide Z6).tw.rp; refine ((unhide hB).doc rr).mono ?_; rintro e W7 ⟨rfl, X7, K7⟩; have Z7 := hide ((unhide Z6).turnD X7 K7); clear X7 K7 rr)
            | (go_at_call 17; refine ((unhide hB).prog (unhide Z5).tw.sp).mono ?_; rintro e W6 ⟨rfl, X6, S6⟩; have Z6 := hide ((unhide Z5).turnP X6 S6); clear X6 S6))
          all_goals
            go_wp2
            go_meet
            case rel => exact ⟨L', by have := unhide hSl; omega, unhide Z7⟩
        · obtain ⟨v, L', hB⟩ := both_set (L := L) (f := f) (r := r) (unhide hi) (unhide hLs) (unhide hrs)
          have hlen := hB.len
          replace hB := hide hB
          have hz2 := unhide hsz
          have Z5 := hide (((unhide Z0).fbox hz2).grew ((Kp.refl [] _).drew))
          obtain ⟨c0, c1, c2, c3, c4, c5, c6⟩ := (unhide Z0).cells
          go_wp2_with fail
          clear c0 c1 c2 c3 c4 c5 c6 hz2
          generalize W2'.alloc (.cells #[.int .i64 f, .int .i64 r] 34) = W5 at *
          go_region_held3 (fun w' => w'.cell? ⟨A + 1, 0, none⟩ = some (.int .i64 s) ∧ w'.cell? ⟨A + 1, 1, none⟩ = some (.int .i64 p) ∧ w'.cell? ⟨A + 2, 0, none⟩ = some (.int .i64 f) ∧ w'.cell? ⟨A + 2, 1, none⟩ = some (.int .i64 r)) (first | with_reducible exact (unhide Z7).cells | with_reducible exact (unhide Z6).cells | with_reducible exact (unhide Z5).cells) (first
            | (go_at_call 19; obtain ⟨ra, rc, rr⟩ := (unhide Z6).ta.tw.rp; refine ((unhide hB).doc rr).mono ?_; rintro e W7 ⟨rfl, X7, K7⟩; have Z7 := hide ((unhide Z6).turnD X7 K7); clear X7 K7 rr)
            | (go_at_call 11; refine ((unhide hB).prog (unhide Z5).ta.tw.sp).mono ?_; rintro e W6 ⟨rfl, X6, S6⟩; have Z6 := hide ((unhide Z5).turnP X6 S6); clear X6 S6))
          all_goals
            go_wp2
            go_meet
            case rel => exact ⟨L', by have := unhide hSl; omega, (unhide Z7).ta⟩
      case rest =>
        obtain ⟨L', hL', hZ'⟩ := hcut
        have Z1 := hide hZ'
        clear Z0 hsz hZ' hN7 hLs hrs hSl
        obtain ⟨is, his⟩ : ∃ v, (pgGet L' s p).isSome = v := ⟨_, rfl⟩
        obtain ⟨ga, gb, hV⟩ := mapV_form (pgGet L' s p)
        have his' := hide his
        have hV' := hide hV
        clear his hV
        obtain ⟨c0, c1⟩ := (unhide Z1).pcells
        go_wp2_with fail
        refine (spget (unhide Z1).tw.sp (unhide hi) (unhide hV') (unhide his')).mono ?_
        rintro e W3 ⟨rfl, K3⟩
        have K3' := K3.alloc (.cells #[.int .i64 ga, .int .i64 gb] 34)
        have Z3 := hide ((unhide Z1).grew K3')
        have F3 := hide (Bk.new W3 34 [.int .i64 ga, .int .i64 gb])
        clear K3 K3' Z1 c0 c1
        obtain ⟨c0, c1⟩ := (unhide Z3).pcells
        go_wp2_with fail
        generalize W3.alloc (.cells #[.int .i64 ga, .int .i64 gb] 34) = W4 at *
        generalize W3.heap.size = D1 at *
        obtain ⟨ra, rc, rr⟩ := (unhide Z3).tw.rp
        refine (rpget_any rr (unhide hV') (unhide his')).mono ?_
        rintro e W5 ⟨rfl, K5⟩
        have K5' := K5.alloc (.cells #[.int .i64 ga, .int .i64 gb] 34)
        have Z5 := hide ((unhide Z3).grew K5')
        have F5 := hide ((unhide F3).kept K5' (by simp))
        have G5 := hide (Bk.new W5 34 [.int .i64 ga, .int .i64 gb])
        clear K5 K5' Z3 F3 c0 c1 rr
        have f0 := (unhide F5).cell (i := 0) rfl
        have f1 := (unhide F5).cell (i := 1) rfl
        have g0 := (unhide G5).cell (i := 0) rfl
        have g1 := (unhide G5).cell (i := 1) rfl
        clear F5 G5
        go_wp2_with fail
        generalize W5.alloc (.cells #[.int .i64 ga, .int .i64 gb] 34) = W6 at *
        generalize W5.heap.size = D2 at *
        refine (spall (unhide Z5).tw.sp rfl).mono ?_
        rintro e W7 ⟨v7, rfl, R7, K7⟩
        have Z7 := hide ((unhide Z5).grew K7)
        have hpl : (pgs L').length ≤ 65536 := by rw [pgs_len]; exact (unhide Z5).tw.sp.small
        obtain ⟨a7, c7, e7⟩ := R7.form
        subst e7
        have V7 := hide (GV.of R7 hpl)
        clear K7 R7 Z5 f0 f1 g0 g1
        go_wp2_with fail
        obtain ⟨ra, rc, rr⟩ := (unhide Z7).tw.rp
        refine (rpall_calls rr).mono ?_
        rintro e W8 ⟨v8, rfl, R8, K8⟩
        have Z8 := hide ((unhide Z7).grew K8)
        obtain ⟨a8, c8, e8⟩ := R8.form
        subst e8
        have V8 := hide (GV.of R8 hpl)
        have V9 := hide ((unhide V7).kept K8)
        clear K8 R8 Z7 V7 rr hpl
        go_wp2_with fail
        refine (samepg_calls (unhide V9) (unhide V8)).mono ?_
        rintro e W9 ⟨rfl, kq, hW9⟩
        have Z9 : Hid (Ta w t L' L' A k s p f r W9) := by subst hW9; exact (unhide Z8).grew ((Kp.refl [] W8).drewN kq)
        clear V8 V9 Z8 hW9 his' hV'
        go_wp2_with fail
        go_loopg [20] len1 (fun m i wx => ∃ j1 : Nat, j1 ≤ len1 ∧ m = len1 - j1 ∧ i = .int .i64 j1 ∧ Ta w t L' L' A k s p f r wx)
        case atStart => exact ⟨0, Nat.zero_le _, by omega, rfl, unhide Z9⟩
        case round =>
          obtain ⟨j1, hj1, rfl, rfl, hZ⟩ := hrel
          clear Z9
          by_cases hlt1 : j1 < len1
          · have q1 : (j1 : Int) < (len1 : Int) := by omega
            have q2 : ((j1 : Int)).toNat = j1 := Int.toNat_natCast j1
            obtain ⟨b', off', z, ea, z0, z1, ce⟩ := u32_pg (unhide HI) hZ.tw.sp.kp (j := j1) (by have := unhide Hz; omega)
            subst ea
            obtain ⟨u, v, bb, hv⟩ := lookV_form (pgLook L' s z n rights)
            have hv' := hide hv
            have Z10 := hide hZ
            have K0 := hide ((Kp.refl [] wr).drew)
            have hS : Hid (∀ w', Kp [] wr w' → w'.cell? ⟨A, 1, none⟩ = some (.int .i64 s) ∧ w'.cell? ⟨b', off' + j1, none⟩ = some (.int .u32 z)) := fun w' kk => ⟨kk.cell hZ.cells.2.1, kk.cell ce⟩
            clear hv hZ ce
            go_wp2_with fail
            go_region_held3 (fun w' => w'.cell? ⟨A, 1, none⟩ = some (.int .i64 s) ∧ w'.cell? ⟨b', off' + j1, none⟩ = some (.int .u32 z)) (first | with_reducible exact unhide hS _ (unhide K1) | with_reducible exact unhide hS _ (unhide K0)) (first
              | (go_at_call 24; refine (splook_to ((unhide Z10).grew (unhide K0)).tw.sp (unhide hsb) z0 z1 (unhide Hr) (unhide hv')).mono ?_; rintro e V1 ⟨rfl, KV⟩; have K1 := hide ((unhide K0).then KV); clear KV))
            all_goals
              have Z11 := hide ((unhide Z10).grew (unhide K1))
              have hS1 : Hid (∀ w', Kp [] V1 w' → w'.cell? ⟨A, 1, none⟩ = some (.int .i64 s) ∧ w'.cell? ⟨b', off' + j1, none⟩ = some (.int .u32 z)) := fun w' kk => unhide hS _ ((unhide K1).then kk)
              have K2 := hide ((Kp.refl [] V1).drew)
              clear Z10 K0 K1 hS
              go_wp2_with fail
              go_region_held3 (fun w' => w'.cell? ⟨A, 1, none⟩ = some (.int .i64 s) ∧ w'.cell? ⟨b', off' + j1, none⟩ = some (.int .u32 z)) (first | with_reducible exact unhide hS1 _ (unhide K3) | with_reducible exact unhide hS1 _ (unhide K2)) (first
                | (go_at_call 25; obtain ⟨ra, rc, rr⟩ := ((unhide Z11).grew (unhide K2)).tw.rp; refine (rplook_to rr z0 z1 (unhide hv')).mono ?_; rintro e V2 ⟨rfl, KV⟩; have K3 := hide ((unhide K2).then KV); clear KV rr))
              all_goals
                have Z12 := hide ((unhide Z11).grew (unhide K3))
                clear Z11 K2 K3 hS1
                go_wp2
                go_roundg (len1 - (j1 + 1))
                case measure => omega
                case rel => exact ⟨j1 + 1, by omega, rfl, by go_num, unhide Z12⟩
          · have q1 : decide ((j1 : Int) < (len1 : Int)) = false := decide_eq_false (by omega)
            have Z10 := hide hZ.tw
            clear hZ
            go_wp2
            go_roundg (len - (j + 1))
            case measure => omega
            case rel => exact ⟨j + 1, L', by omega, rfl, by go_num, unhide Z10, by omega⟩
    · have b1 : decide ((j : Int) < (len : Int)) = false := decide_eq_false (by omega)
      replace hT := hide hT
      go_wp2
      go_ret
      exact ⟨rfl, (unhide hT).sp.kp.below (Nat.le_refl _) (by simp)⟩
theorem splay_walk (a0 : Option Addr) (len cap : Nat) (V : Nat → Nat → Value) (a1 : Option Addr) (len1 cap1 : Nat) (zs : List Int) (n rights : Int) (w : World) (hR : Recs w a0 len 5 V) (y1 : FivePg V len) (hz : zs.length = len1) (hI : Ints .u32 w a1 zs) (_ : (Lit.int .i64 n).wf = true) (hr : (Lit.int .i64 rights).wf = true) :
    Calls Try.prog 4 #[.slice a0 len cap, .slice a1 len1 cap1, .int .i64 n, .int .i64 rights] w fun e w' => e = .returned (.bool true) ∧ Below w.heap.size w w' := by
  by_cases h : len ≤ 40
  · by_cases h1 : len1 ≤ 10
    · exact splay_in a0 a1 len cap len1 cap1 V zs n rights w h h1 hR y1 hz hI (by have := bounds_i64 hr; omega)
    · exact splay_long a0 a1 len cap len1 cap1 n rights w (.inr (by omega))
  · exact splay_long a0 a1 len cap len1 cap1 n rights w (.inl (by omega))
end Go.Proofs.Ytlallciikcmjmaa
