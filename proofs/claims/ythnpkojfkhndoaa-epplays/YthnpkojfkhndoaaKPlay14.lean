/- The walk of EpPlays. -/
import Derived.Test.YthnpkojfkhndoaaKTw14
import Derived.Test.YthnpkojfkhndoaaKSame14
import Derived.Test.YthnpkojfkhndoaaKRef
namespace Go.Proofs.Ythnpkojfkhndoaa
open Go.RowKit
set_option linter.unusedVariables false
set_option linter.unusedSimpArgs false
set_option maxRecDepth 4000 in
set_option maxHeartbeats 400000 in
theorem eplay_long (a0 : Option Addr) (len cap : Nat) (w : World) (hl : 60 < len) :
    Calls Try.prog 3 #[.slice a0 len cap] w fun e w' => e = .returned (.bool true) ∧ Below w.heap.size w w' := by
  have h2 : (60 : Int) < (len : Int) := by omega
  clear hl
  go_enter Try.func3, Try.ntmps3
  go_wp2_with fail
  refine (first_calls _).mono ?_
  rintro e W0 ⟨rfl, K0⟩
  go_wp2
  go_ret
  exact ⟨rfl, K0.below (Nat.le_refl _) (by simp)⟩
set_option maxRecDepth 10000 in
set_option maxHeartbeats 20000000 in
theorem eplay_in (a0 : Option Addr) (len cap : Nat) (V : Nat → Nat → Value) (w : World) (hl : len ≤ 60) (hR : Recs w a0 len 4 V) (y1 : FourE V len) :
    Calls Try.prog 3 #[.slice a0 len cap] w fun e w' => e = .returned (.bool true) ∧ Below w.heap.size w w' := by
  have h2 : decide ((60 : Int) < (len : Int)) = false := decide_eq_false (by omega)
  have HR := hide hR
  replace y1 := hide y1
  clear hR
  go_enter Try.func3, Try.ntmps3
  go_wp2_with fail
  refine (first_calls _).mono ?_
  rintro e W0 ⟨rfl, K0⟩
  obtain ⟨t, et⟩ : ∃ t, W0.heap.size = t := ⟨_, rfl⟩
  have X0 := hide (Te.start K0 et)
  clear K0
  go_wp2_with fail
  generalize (W0.alloc (.cells #[.slice none 0 0, .int .i64 0, .slice none 0 0, .int .i64 0] 31)).alloc (.cells #[.slice none 0 0, .slice none 0 0] 35) = W1 at *
  go_loopg [6] len (fun m i wr => ∃ (j : Nat) (S : List Ms) (R : List Rc), j ≤ len ∧ m = len - j ∧ i = .int .i64 j ∧ Te w t S R S R [] wr ∧ S.length + R.length ≤ j)
  case atStart => exact ⟨0, [], [], Nat.zero_le _, by omega, rfl, unhide X0, Nat.le_refl _⟩
  case round =>
    obtain ⟨j, S, R, hj, rfl, rfl, hT, hSl⟩ := hrel
    clear X0
    by_cases hlt : j < len
    · have b1 : (j : Int) < (len : Int) := by omega
      have b2 : ((j : Int)).toNat = j := Int.toNat_natCast j
      obtain ⟨⟨k, hk, kw⟩, ⟨s, hs, sw⟩, ⟨n, hn, nw⟩, ⟨cl, hcl⟩⟩ := unhide y1 j hlt
      obtain ⟨b, off, ea, hc⟩ := do4_e (unhide HR) hT.kp hlt
      subst ea
      have d0 := hc 0 (by decide)
      have d1 := hc 1 (by decide)
      have C2 : Hid (∀ w', Kp [] w w' → w'.cell? ⟨b, off + j * 4 + 2, none⟩ = some (.int .i64 n) ∧ w'.cell? ⟨b, off + j * 4 + 3, none⟩ = some (.bool cl)) := fun w' kk => by
        obtain ⟨b', off', ea, hc'⟩ := do4_e (unhide HR) kk hlt
        cases ea
        have q2 := hc' 2 (by decide)
        have q3 := hc' 3 (by decide)
        rw [hn] at q2
        rw [hcl] at q3
        simp only [← Nat.add_assoc] at q2 q3
        exact ⟨q2, q3⟩
      rw [hk] at d0
      rw [hs] at d1
      simp only [← Nat.add_assoc, Nat.add_zero] at d0 d1
      have hi : Hid (IdW 1 s) := ⟨by decide, sw⟩
      obtain ⟨kk, hkk⟩ : ∃ m, k % 7 = m := ⟨_, rfl⟩
      have hN7 := hide hkk
      have h1 := hide hT.one
      have hLs : Hid (S.length + R.length < 65536) := by unfold Hid; omega
      have Z0 := hide (hT.box 39 [.int .i64 1, .int .i64 s])
      replace hSl := hide hSl
      have K0 := (Kp.refl [] wr).alloc (.cells #[.int .i64 1, .int .i64 s] 39)
      have D0 := K0.cell d0
      clear hc hk hs hn hcl kw sw nw hkk hT K0
      go_wp2_with fail
      generalize hW2 : wr.alloc (.cells #[.int .i64 1, .int .i64 s] 39) = W2 at *
      generalize wr.heap.size = A at *
      refine (number_to _ _ _ _ (by decide) (by decide) (unhide hN7)).mono ?_
      rintro e W2' ⟨rfl, rfl⟩
      clear d0 d1 D0 hW2
      go_upto_block 2 with fail
      go_cut [] (fun wy => ∃ S' R', S'.length + R'.length ≤ j + 1 ∧ Te w t S' R' S' R' [] wy)
      case first =>
        clear hN7
        obtain ⟨c3, hc3⟩ : ∃ c3 : Bool, (kk == 0 || kk == 1 || kk == 2) = c3 := ⟨_, rfl⟩
        go_upto_if 94 with fail
        go_cut [94] (fun c wx => c = .bool c3 ∧ W2' = wx)
        case first =>
          have hcase : kk = 0 ∨ kk = 1 ∨ ((kk == 0) = false ∧ (kk == 1) = false) := by
            by_cases h0 : kk = 0
            · exact .inl h0
            · by_cases h1 : kk = 1
              · exact .inr (.inl h1)
              · exact .inr (.inr ⟨beq_eq_false_iff_ne.2 h0, beq_eq_false_iff_ne.2 h1⟩)
          replace hc3 := hide hc3
          rcases hcase with rfl | rfl | ⟨f0, f1⟩
          · obtain rfl : true = c3 := unhide hc3
            go_wp2
            go_meet
            case rel => exact ⟨rfl, rfl⟩
          · obtain rfl : true = c3 := unhide hc3
            go_wp2
            go_meet
            case rel => exact ⟨rfl, rfl⟩
          · have e3 : (kk == 2) = c3 := by have := unhide hc3; rw [f0, f1] at this; exact this
            go_wp2
            go_meet
            case rel => exact ⟨by rw [← e3], rfl⟩
        case rest =>
          obtain ⟨e1, e2⟩ := hcut
          subst e1 e2
          clear hc3
          cases c3 with
          | true =>
            as_aux_lemma =>
              obtain ⟨f1, f2, fr, is, S', R', hB⟩ := bothe_send (unhide h1) (unhide hLs) (unhide hi) (IntKind.u32.wrap n) n cl
              have hlen := hB.len
              replace hB := hide hB
              have hAt : Hid (A < W2'.heap.size ∧ w.heap.size ≤ W2'.heap.size ∧ t < W2'.heap.size) := ⟨((unhide Z0).bk (List.mem_cons_self ..)).lt, (unhide Z0).kp.size, by have := (unhide Z0).lt; omega⟩
              have hA : Hid (∀ w', Kp [] W2' w' → (w'.cell? ⟨A, 0, none⟩ = some (.int .i64 1) ∧ w'.cell? ⟨A, 1, none⟩ = some (.int .i64 s)) ∧ w'.cell? ⟨b, off + j * 4 + 2, none⟩ = some (.int .i64 n) ∧ w'.cell? ⟨b, off + j * 4 + 3, none⟩ = some (.bool cl)) := fun w' kk => (by have Z := (unhide Z0).grew kk; have B := Z.bk (List.mem_cons_self ..); exact ⟨⟨B.cell (i := 0) rfl, B.cell (i := 1) rfl⟩, unhide C2 _ Z.kp⟩)
              have Z1 := hide ((unhide Z0).grew ((Kp.refl [] W2').drew))
              have ZB := hide (((unhide Z0).box 42 [.int .i64 0, .int .i64 0, .int .i64 0]).grew ((Kp.refl [] _).drew))
              go_upto_region 20 with fail
              go_cut [8, 9] (fun p q wx => ∃ D, p = .pointer (some ⟨D, 0, none⟩) ∧ q = .bool is ∧ t < D ∧ A ≠ D ∧ Te w t S' R' S R [(D, 42, [.int .i64 f1, .int .i64 f2, .int .i64 fr]), (A, 39, [.int .i64 1, .int .i64 s])] wx)
              case first =>
                go_region_held3 (fun w' => (w'.cell? ⟨A, 0, none⟩ = some (.int .i64 1) ∧ w'.cell? ⟨A, 1, none⟩ = some (.int .i64 s)) ∧ w'.cell? ⟨b, off + j * 4 + 2, none⟩ = some (.int .i64 n) ∧ w'.cell? ⟨b, off + j * 4 + 3, none⟩ = some (.bool cl)) (first | (with_reducible refine unhide hA6 _ ?_; (repeat (first | exact Kp.refl _ _ | refine Kp.drew ?_ | refine Kp.alloc ?_ _ | refine Kp.setCell ?_ (.inl (by simp)) _)); done) | (with_reducible refine unhide hA _ ?_; (repeat (first | exact Kp.refl _ _ | refine Kp.drew ?_ | refine Kp.alloc ?_ _ | refine Kp.setCell ?_ (.inl (by simp)) _)); done)) (first
                  | (go_at_call 8; refine (Te.prog (unhide ZB) (fun F h => (unhide hB).prog h)).mono ?_; rintro e W6 ⟨rfl, Z6⟩; have Y6 := hide Z6; have BD := Z6.bk (List.mem_cons_self ..); have fD := BD.frozen; have e0 := BD.cell (i := 0) rfl; have e1 := BD.cell (i := 1) rfl; have e2 := BD.cell (i := 2) rfl; have hA6 : Hid (∀ w', Kp [W2'.heap.size] W6 w' → (w'.cell? ⟨A, 0, none⟩ = some (.int .i64 1) ∧ w'.cell? ⟨A, 1, none⟩ = some (.int .i64 s)) ∧ w'.cell? ⟨b, off + j * 4 + 2, none⟩ = some (.int .i64 n) ∧ w'.cell? ⟨b, off + j * 4 + 3, none⟩ = some (.bool cl)) := fun w' kk => (by obtain ⟨B, K⟩ := (unhide Y6).held (List.mem_cons_of_mem _ (List.mem_cons_self ..)) (by have := unhide hAt; omega) (by have := unhide hAt; omega) kk; exact ⟨⟨B.cell (i := 0) rfl, B.cell (i := 1) rfl⟩, unhide C2 _ K⟩); have A6 : Hid (t < W2'.heap.size) := (unhide hAt).2.2; clear Z6 BD)
                  | (go_at_call 8; refine (Te.prog (unhide Z1) (fun F h => (unhide hB).prog h)).mono ?_; rintro e W6 ⟨rfl, Z6⟩; have Y6 := hide Z6; have hD6 : Hid (A < W6.heap.size ∧ w.heap.size ≤ W6.heap.size ∧ t < W6.heap.size) := ⟨(Z6.bk (List.mem_cons_self ..)).lt, Z6.kp.size, (by have := Z6.lt; omega)⟩; have hA6 : Hid (∀ w', Kp [W6.heap.size] W6 w' → (w'.cell? ⟨A, 0, none⟩ = some (.int .i64 1) ∧ w'.cell? ⟨A, 1, none⟩ = some (.int .i64 s)) ∧ w'.cell? ⟨b, off + j * 4 + 2, none⟩ = some (.int .i64 n) ∧ w'.cell? ⟨b, off + j * 4 + 3, none⟩ = some (.bool cl)) := fun w' kk => (by obtain ⟨B, K⟩ := (unhide Y6).held (List.mem_cons_self ..) (by have := unhide hD6; omega) (by have := unhide hD6; omega) kk; exact ⟨⟨B.cell (i := 0) rfl, B.cell (i := 1) rfl⟩, unhide C2 _ K⟩); clear Z6))
                · have Z9 := hide ((unhide Y6).box 42 [.int .i64 f1, .int .i64 f2, .int .i64 fr])
                  clear Y6 hA6
                  go_wp2
                  go_meet
                  case rel => exact ⟨_, rfl, rfl, (unhide hD6).2.2, Nat.ne_of_lt (unhide hD6).1, unhide Z9⟩
                · have BD := (unhide Y6).bk (List.mem_cons_self ..)
                  have k9 := ((((Kp.refl [W2'.heap.size] W6).setCell (p := ⟨W2'.heap.size, 0, none⟩) (.inl (by simp)) (.int .i64 f1)).setCell (p := ⟨W2'.heap.size, 1, none⟩) (.inl (by simp)) (.int .i64 f2)).setCell (p := ⟨W2'.heap.size, 2, none⟩) (.inl (by simp)) (.int .i64 fr))
                  have Z9 := hide ((unhide Y6).put (unhide A6) (by intro c m; rw [List.mem_singleton.1 m]; exact Nat.ne_of_lt (unhide hAt).1) k9 (((BD.set 0 (.int .i64 f1)).set 1 (.int .i64 f2)).set 2 (.int .i64 fr)))
                  clear Y6 hA6 BD k9
                  go_wp2
                  go_meet
                  case rel => exact ⟨_, rfl, rfl, unhide A6, Nat.ne_of_lt (unhide hAt).1, unhide Z9⟩
              case rest =>
                obtain ⟨DP, rfl, rfl, htP, hAP, hZP⟩ := hcut
                have ZP := hide hZP
                have hDt : Hid (DP < wc.heap.size) := (hZP.bk (List.mem_cons_self ..)).lt
                clear hZP Z1 ZB Z0 hA hAt
                have hAt : Hid (A < wc.heap.size ∧ w.heap.size ≤ wc.heap.size ∧ t < wc.heap.size) := ⟨((unhide ZP).bk (List.mem_cons_of_mem _ (List.mem_cons_self ..))).lt, (unhide ZP).kp.size, by have := (unhide ZP).lt; omega⟩
                have hA : Hid (∀ w', Kp [] wc w' → (w'.cell? ⟨A, 0, none⟩ = some (.int .i64 1) ∧ w'.cell? ⟨A, 1, none⟩ = some (.int .i64 s)) ∧ w'.cell? ⟨b, off + j * 4 + 2, none⟩ = some (.int .i64 n) ∧ w'.cell? ⟨b, off + j * 4 + 3, none⟩ = some (.bool cl)) := fun w' kk => (by have Z := (unhide ZP).grew kk; have B := Z.bk (List.mem_cons_of_mem _ (List.mem_cons_self ..)); exact ⟨⟨B.cell (i := 0) rfl, B.cell (i := 1) rfl⟩, unhide C2 _ Z.kp⟩)
                have Z1 := hide ((unhide ZP).grew ((Kp.refl [] wc).drew))
                have ZB := hide (((unhide ZP).box 48 [.int .i64 0, .int .i64 0, .int .i64 0]).grew ((Kp.refl [] _).drew))
                go_upto_region 21 with fail
                go_cut [10, 11] (fun p q wx => ∃ D, p = .pointer (some ⟨D, 0, none⟩) ∧ q = .bool is ∧ t < D ∧ A ≠ D ∧ Te w t S' R' S' R' [(D, 48, [.int .i64 f1, .int .i64 f2, .int .i64 fr]), (DP, 42, [.int .i64 f1, .int .i64 f2, .int .i64 fr]), (A, 39, [.int .i64 1, .int .i64 s])] wx)
                case first =>
                  go_region_held3 (fun w' => (w'.cell? ⟨A, 0, none⟩ = some (.int .i64 1) ∧ w'.cell? ⟨A, 1, none⟩ = some (.int .i64 s)) ∧ w'.cell? ⟨b, off + j * 4 + 2, none⟩ = some (.int .i64 n) ∧ w'.cell? ⟨b, off + j * 4 + 3, none⟩ = some (.bool cl)) (first | (with_reducible refine unhide hA6 _ ?_; (repeat (first | exact Kp.refl _ _ | refine Kp.drew ?_ | refine Kp.alloc ?_ _ | refine Kp.setCell ?_ (.inl (by simp)) _)); done) | (with_reducible refine unhide hA _ ?_; (repeat (first | exact Kp.refl _ _ | refine Kp.drew ?_ | refine Kp.alloc ?_ _ | refine Kp.setCell ?_ (.inl (by simp)) _)); done)) (first
                    | (go_at_call 9; refine (Te.doc (unhide ZB) (fun a ca b cb h => (unhide hB).doc h)).mono ?_; rintro e W6 ⟨rfl, Z6⟩; have Y6 := hide Z6; have BD := Z6.bk (List.mem_cons_self ..); have fD := BD.frozen; have e0 := BD.cell (i := 0) rfl; have e1 := BD.cell (i := 1) rfl; have e2 := BD.cell (i := 2) rfl; have hA6 : Hid (∀ w', Kp [wc.heap.size] W6 w' → (w'.cell? ⟨A, 0, none⟩ = some (.int .i64 1) ∧ w'.cell? ⟨A, 1, none⟩ = some (.int .i64 s)) ∧ w'.cell? ⟨b, off + j * 4 + 2, none⟩ = some (.int .i64 n) ∧ w'.cell? ⟨b, off + j * 4 + 3, none⟩ = some (.bool cl)) := fun w' kk => (by obtain ⟨B, K⟩ := (unhide Y6).held (List.mem_cons_of_mem _ (List.mem_cons_of_mem _ (List.mem_cons_self ..))) (by have := unhide hAt; omega) (by have := unhide hAt; omega) kk; exact ⟨⟨B.cell (i := 0) rfl, B.cell (i := 1) rfl⟩, unhide C2 _ K⟩); have A6 : Hid (t < wc.heap.size) := (unhide hAt).2.2; clear Z6 BD)
                    | (go_at_call 9; refine (Te.doc (unhide Z1) (fun a ca b cb h => (unhide hB).doc h)).mono ?_; rintro e W6 ⟨rfl, Z6⟩; have Y6 := hide Z6; have hD6 : Hid (A < W6.heap.size ∧ w.heap.size ≤ W6.heap.size ∧ t < W6.heap.size) := ⟨(Z6.bk (List.mem_cons_of_mem _ (List.mem_cons_self ..))).lt, Z6.kp.size, (by have := Z6.lt; omega)⟩; have hA6 : Hid (∀ w', Kp [W6.heap.size] W6 w' → (w'.cell? ⟨A, 0, none⟩ = some (.int .i64 1) ∧ w'.cell? ⟨A, 1, none⟩ = some (.int .i64 s)) ∧ w'.cell? ⟨b, off + j * 4 + 2, none⟩ = some (.int .i64 n) ∧ w'.cell? ⟨b, off + j * 4 + 3, none⟩ = some (.bool cl)) := fun w' kk => (by obtain ⟨B, K⟩ := (unhide Y6).held (List.mem_cons_of_mem _ (List.mem_cons_self ..)) (by have := unhide hD6; omega) (by have := unhide hD6; omega) kk; exact ⟨⟨B.cell (i := 0) rfl, B.cell (i := 1) rfl⟩, unhide C2 _ K⟩); clear Z6))
                  · have Z9 := hide ((unhide Y6).box 48 [.int .i64 f1, .int .i64 f2, .int .i64 fr])
                    clear Y6 hA6
                    go_wp2
                    go_meet
                    case rel => exact ⟨_, rfl, rfl, (unhide hD6).2.2, Nat.ne_of_lt (unhide hD6).1, unhide Z9⟩
                  · have BD := (unhide Y6).bk (List.mem_cons_self ..)
                    have k9 := ((((Kp.refl [wc.heap.size] W6).setCell (p := ⟨wc.heap.size, 0, none⟩) (.inl (by simp)) (.int .i64 f1)).setCell (p := ⟨wc.heap.size, 1, none⟩) (.inl (by simp)) (.int .i64 f2)).setCell (p := ⟨wc.heap.size, 2, none⟩) (.inl (by simp)) (.int .i64 fr))
                    have Z9 := hide ((unhide Y6).put (unhide A6) (by intro c m; rcases List.mem_cons.1 m with rfl | m <;> first | exact Nat.ne_of_lt (unhide hDt) | (rw [List.mem_singleton.1 m]; exact Nat.ne_of_lt (unhide hAt).1)) k9 (((BD.set 0 (.int .i64 f1)).set 1 (.int .i64 f2)).set 2 (.int .i64 fr)))
                    clear Y6 hA6 BD k9
                    go_wp2
                    go_meet
                    case rel => exact ⟨_, rfl, rfl, unhide A6, Nat.ne_of_lt (unhide hAt).1, unhide Z9⟩
                case rest =>
                  obtain ⟨DD, rfl, rfl, htD, hAD, hZD⟩ := hcut
                  have ZD := hide hZD
                  have BQ := hZD.bk (List.mem_cons_self ..)
                  have BP := hZD.bk (List.mem_cons_of_mem _ (List.mem_cons_self ..))
                  have p0 := BP.cell (i := 0) rfl
                  have q0 := BQ.cell (i := 0) rfl
                  have p1 := BP.cell (i := 1) rfl
                  have q1 := BQ.cell (i := 1) rfl
                  have p2 := BP.cell (i := 2) rfl
                  have q2 := BQ.cell (i := 2) rfl
                  have hne : ∀ w', (binOp .neq 39 (.agg #[.int .i64 f1, .int .i64 f2]) (.agg #[.int .i64 f1, .int .i64 f2])).run Try.prog w' = .ok (.bool false) w' := fun w' => by rw [neqi]; simp
                  clear hZD BQ BP Z1 ZB ZP hA hAt
                  go_wp2
                  go_meet
                  case rel => exact ⟨S', R', by have := unhide hSl; omega, (unhide ZD).bare⟩
          | false =>
            by_cases h6 : kk = 6
            · subst h6
              as_aux_lemma =>
                obtain ⟨is, S', R', hB⟩ := bothe_drop S R (unhide hi)
                have hlen := hB.len
                replace hB := hide hB
                have Z5 := hide ((unhide Z0).grew ((Kp.refl [] W2').drew))
                go_wp2_with fail
                go_region_held3 (fun w' => w'.cell? ⟨A, 0, none⟩ = some (.int .i64 1) ∧ w'.cell? ⟨A, 1, none⟩ = some (.int .i64 s)) (first | with_reducible exact ⟨((unhide Z7).bk (List.mem_cons_self ..)).cell (i := 0) rfl, ((unhide Z7).bk (List.mem_cons_self ..)).cell (i := 1) rfl⟩ | with_reducible exact ⟨((unhide Z6).bk (List.mem_cons_self ..)).cell (i := 0) rfl, ((unhide Z6).bk (List.mem_cons_self ..)).cell (i := 1) rfl⟩ | with_reducible exact ⟨((unhide Z5).bk (List.mem_cons_self ..)).cell (i := 0) rfl, ((unhide Z5).bk (List.mem_cons_self ..)).cell (i := 1) rfl⟩) (first
                  | (go_at_call 11; refine (Te.doc (unhide Z6) (fun a ca b cb h => (unhide hB).doc h)).mono ?_; rintro e W7 ⟨rfl, Z7'⟩; have Z7 := hide Z7'; clear Z7')
                  | (go_at_call 10; refine (Te.prog (unhide Z5) (fun F h => (unhide hB).prog h)).mono ?_; rintro e W6 ⟨rfl, Z6'⟩; have Z6 := hide Z6'; clear Z6'))
                all_goals
                  go_wp2
                  go_meet
                  case rel => exact ⟨S', R', by have := unhide hSl; omega, (unhide Z7).bare⟩
            · have f6 : (kk == 6) = false := beq_eq_false_iff_ne.2 h6
              clear h6
              as_aux_lemma =>
                obtain ⟨f1, f2, fw, fb, fc, is, S', R', hB⟩ := bothe_recv (unhide h1) (unhide hLs) (unhide hi) n
                have hlen := hB.len
                replace hB := hide hB
                have hAt : Hid (A < W2'.heap.size ∧ w.heap.size ≤ W2'.heap.size ∧ t < W2'.heap.size) := ⟨((unhide Z0).bk (List.mem_cons_self ..)).lt, (unhide Z0).kp.size, by have := (unhide Z0).lt; omega⟩
                have hA : Hid (∀ w', Kp [] W2' w' → (w'.cell? ⟨A, 0, none⟩ = some (.int .i64 1) ∧ w'.cell? ⟨A, 1, none⟩ = some (.int .i64 s)) ∧ w'.cell? ⟨b, off + j * 4 + 2, none⟩ = some (.int .i64 n) ∧ w'.cell? ⟨b, off + j * 4 + 3, none⟩ = some (.bool cl)) := fun w' kk => (by have Z := (unhide Z0).grew kk; have B := Z.bk (List.mem_cons_self ..); exact ⟨⟨B.cell (i := 0) rfl, B.cell (i := 1) rfl⟩, unhide C2 _ Z.kp⟩)
                have Z1 := hide ((unhide Z0).grew ((Kp.refl [] W2').drew))
                have ZB := hide (((unhide Z0).box 47 [.int .i64 0, .int .i64 0, .int .u32 0, .int .i64 0, .bool false]).grew ((Kp.refl [] _).drew))
                go_upto_region 13 with fail
                go_cut [12, 13] (fun p q wx => ∃ D, p = .pointer (some ⟨D, 0, none⟩) ∧ q = .bool is ∧ t < D ∧ A ≠ D ∧ Te w t S' R' S R [(D, 47, [.int .i64 f1, .int .i64 f2, .int .u32 fw, .int .i64 fb, .bool fc]), (A, 39, [.int .i64 1, .int .i64 s])] wx)
                case first =>
                  go_region_held3 (fun w' => (w'.cell? ⟨A, 0, none⟩ = some (.int .i64 1) ∧ w'.cell? ⟨A, 1, none⟩ = some (.int .i64 s)) ∧ w'.cell? ⟨b, off + j * 4 + 2, none⟩ = some (.int .i64 n) ∧ w'.cell? ⟨b, off + j * 4 + 3, none⟩ = some (.bool cl)) (first | (with_reducible refine unhide hA6 _ ?_; (repeat (first | exact Kp.refl _ _ | refine Kp.drew ?_ | refine Kp.alloc ?_ _ | refine Kp.setCell ?_ (.inl (by simp)) _)); done) | (with_reducible refine unhide hA _ ?_; (repeat (first | exact Kp.refl _ _ | refine Kp.drew ?_ | refine Kp.alloc ?_ _ | refine Kp.setCell ?_ (.inl (by simp)) _)); done)) (first
                    | (go_at_call 12; refine (Te.prog (unhide ZB) (fun F h => (unhide hB).prog h)).mono ?_; rintro e W6 ⟨rfl, Z6⟩; have Y6 := hide Z6; have BD := Z6.bk (List.mem_cons_self ..); have fD := BD.frozen; have e0 := BD.cell (i := 0) rfl; have e1 := BD.cell (i := 1) rfl; have e2 := BD.cell (i := 2) rfl; have e3 := BD.cell (i := 3) rfl; have e4 := BD.cell (i := 4) rfl; have hA6 : Hid (∀ w', Kp [W2'.heap.size] W6 w' → (w'.cell? ⟨A, 0, none⟩ = some (.int .i64 1) ∧ w'.cell? ⟨A, 1, none⟩ = some (.int .i64 s)) ∧ w'.cell? ⟨b, off + j * 4 + 2, none⟩ = some (.int .i64 n) ∧ w'.cell? ⟨b, off + j * 4 + 3, none⟩ = some (.bool cl)) := fun w' kk => (by obtain ⟨B, K⟩ := (unhide Y6).held (List.mem_cons_of_mem _ (List.mem_cons_self ..)) (by have := unhide hAt; omega) (by have := unhide hAt; omega) kk; exact ⟨⟨B.cell (i := 0) rfl, B.cell (i := 1) rfl⟩, unhide C2 _ K⟩); have A6 : Hid (t < W2'.heap.size) := (unhide hAt).2.2; clear Z6 BD)
                    | (go_at_call 12; refine (Te.prog (unhide Z1) (fun F h => (unhide hB).prog h)).mono ?_; rintro e W6 ⟨rfl, Z6⟩; have Y6 := hide Z6; have hD6 : Hid (A < W6.heap.size ∧ w.heap.size ≤ W6.heap.size ∧ t < W6.heap.size) := ⟨(Z6.bk (List.mem_cons_self ..)).lt, Z6.kp.size, (by have := Z6.lt; omega)⟩; have hA6 : Hid (∀ w', Kp [W6.heap.size] W6 w' → (w'.cell? ⟨A, 0, none⟩ = some (.int .i64 1) ∧ w'.cell? ⟨A, 1, none⟩ = some (.int .i64 s)) ∧ w'.cell? ⟨b, off + j * 4 + 2, none⟩ = some (.int .i64 n) ∧ w'.cell? ⟨b, off + j * 4 + 3, none⟩ = some (.bool cl)) := fun w' kk => (by obtain ⟨B, K⟩ := (unhide Y6).held (List.mem_cons_self ..) (by have := unhide hD6; omega) (by have := unhide hD6; omega) kk; exact ⟨⟨B.cell (i := 0) rfl, B.cell (i := 1) rfl⟩, unhide C2 _ K⟩); clear Z6))
                  · have Z9 := hide ((unhide Y6).box 47 [.int .i64 f1, .int .i64 f2, .int .u32 fw, .int .i64 fb, .bool fc])
                    clear Y6 hA6
                    go_wp2
                    go_meet
                    case rel => exact ⟨_, rfl, rfl, (unhide hD6).2.2, Nat.ne_of_lt (unhide hD6).1, unhide Z9⟩
                  · have BD := (unhide Y6).bk (List.mem_cons_self ..)
                    have k9 := ((((((Kp.refl [W2'.heap.size] W6).setCell (p := ⟨W2'.heap.size, 0, none⟩) (.inl (by simp)) (.int .i64 f1)).setCell (p := ⟨W2'.heap.size, 1, none⟩) (.inl (by simp)) (.int .i64 f2)).setCell (p := ⟨W2'.heap.size, 2, none⟩) (.inl (by simp)) (.int .u32 fw)).setCell (p := ⟨W2'.heap.size, 3, none⟩) (.inl (by simp)) (.int .i64 fb)).setCell (p := ⟨W2'.heap.size, 4, none⟩) (.inl (by simp)) (.bool fc))
                    have Z9 := hide ((unhide Y6).put (unhide A6) (by intro c m; rw [List.mem_singleton.1 m]; exact Nat.ne_of_lt (unhide hAt).1) k9 (((((BD.set 0 (.int .i64 f1)).set 1 (.int .i64 f2)).set 2 (.int .u32 fw)).set 3 (.int .i64 fb)).set 4 (.bool fc)))
                    clear Y6 hA6 BD k9
                    go_wp2
                    go_meet
                    case rel => exact ⟨_, rfl, rfl, unhide A6, Nat.ne_of_lt (unhide hAt).1, unhide Z9⟩
                case rest =>
                  obtain ⟨DP, rfl, rfl, htP, hAP, hZP⟩ := hcut
                  have ZP := hide hZP
                  have hDt : Hid (DP < wc.heap.size) := (hZP.bk (List.mem_cons_self ..)).lt
                  clear hZP Z1 ZB Z0 hA hAt
                  have hAt : Hid (A < wc.heap.size ∧ w.heap.size ≤ wc.heap.size ∧ t < wc.heap.size) := ⟨((unhide ZP).bk (List.mem_cons_of_mem _ (List.mem_cons_self ..))).lt, (unhide ZP).kp.size, by have := (unhide ZP).lt; omega⟩
                  have hA : Hid (∀ w', Kp [] wc w' → (w'.cell? ⟨A, 0, none⟩ = some (.int .i64 1) ∧ w'.cell? ⟨A, 1, none⟩ = some (.int .i64 s)) ∧ w'.cell? ⟨b, off + j * 4 + 2, none⟩ = some (.int .i64 n) ∧ w'.cell? ⟨b, off + j * 4 + 3, none⟩ = some (.bool cl)) := fun w' kk => (by have Z := (unhide ZP).grew kk; have B := Z.bk (List.mem_cons_of_mem _ (List.mem_cons_self ..)); exact ⟨⟨B.cell (i := 0) rfl, B.cell (i := 1) rfl⟩, unhide C2 _ Z.kp⟩)
                  have Z1 := hide ((unhide ZP).grew ((Kp.refl [] wc).drew))
                  have ZB := hide (((unhide ZP).box 51 [.int .i64 0, .int .i64 0, .int .u32 0, .int .i64 0, .bool false]).grew ((Kp.refl [] _).drew))
                  go_upto_region 14 with fail
                  go_cut [14, 15] (fun p q wx => ∃ D, p = .pointer (some ⟨D, 0, none⟩) ∧ q = .bool is ∧ t < D ∧ A ≠ D ∧ Te w t S' R' S' R' [(D, 51, [.int .i64 f1, .int .i64 f2, .int .u32 fw, .int .i64 fb, .bool fc]), (DP, 47, [.int .i64 f1, .int .i64 f2, .int .u32 fw, .int .i64 fb, .bool fc]), (A, 39, [.int .i64 1, .int .i64 s])] wx)
                  case first =>
                    go_region_held3 (fun w' => (w'.cell? ⟨A, 0, none⟩ = some (.int .i64 1) ∧ w'.cell? ⟨A, 1, none⟩ = some (.int .i64 s)) ∧ w'.cell? ⟨b, off + j * 4 + 2, none⟩ = some (.int .i64 n) ∧ w'.cell? ⟨b, off + j * 4 + 3, none⟩ = some (.bool cl)) (first | (with_reducible refine unhide hA6 _ ?_; (repeat (first | exact Kp.refl _ _ | refine Kp.drew ?_ | refine Kp.alloc ?_ _ | refine Kp.setCell ?_ (.inl (by simp)) _)); done) | (with_reducible refine unhide hA _ ?_; (repeat (first | exact Kp.refl _ _ | refine Kp.drew ?_ | refine Kp.alloc ?_ _ | refine Kp.setCell ?_ (.inl (by simp)) _)); done)) (first
                      | (go_at_call 13; refine (Te.doc (unhide ZB) (fun a ca b cb h => (unhide hB).doc h)).mono ?_; rintro e W6 ⟨rfl, Z6⟩; have Y6 := hide Z6; have BD := Z6.bk (List.mem_cons_self ..); have fD := BD.frozen; have e0 := BD.cell (i := 0) rfl; have e1 := BD.cell (i := 1) rfl; have e2 := BD.cell (i := 2) rfl; have e3 := BD.cell (i := 3) rfl; have e4 := BD.cell (i := 4) rfl; have hA6 : Hid (∀ w', Kp [wc.heap.size] W6 w' → (w'.cell? ⟨A, 0, none⟩ = some (.int .i64 1) ∧ w'.cell? ⟨A, 1, none⟩ = some (.int .i64 s)) ∧ w'.cell? ⟨b, off + j * 4 + 2, none⟩ = some (.int .i64 n) ∧ w'.cell? ⟨b, off + j * 4 + 3, none⟩ = some (.bool cl)) := fun w' kk => (by obtain ⟨B, K⟩ := (unhide Y6).held (List.mem_cons_of_mem _ (List.mem_cons_of_mem _ (List.mem_cons_self ..))) (by have := unhide hAt; omega) (by have := unhide hAt; omega) kk; exact ⟨⟨B.cell (i := 0) rfl, B.cell (i := 1) rfl⟩, unhide C2 _ K⟩); have A6 : Hid (t < wc.heap.size) := (unhide hAt).2.2; clear Z6 BD)
                      | (go_at_call 13; refine (Te.doc (unhide Z1) (fun a ca b cb h => (unhide hB).doc h)).mono ?_; rintro e W6 ⟨rfl, Z6⟩; have Y6 := hide Z6; have hD6 : Hid (A < W6.heap.size ∧ w.heap.size ≤ W6.heap.size ∧ t < W6.heap.size) := ⟨(Z6.bk (List.mem_cons_of_mem _ (List.mem_cons_self ..))).lt, Z6.kp.size, (by have := Z6.lt; omega)⟩; have hA6 : Hid (∀ w', Kp [W6.heap.size] W6 w' → (w'.cell? ⟨A, 0, none⟩ = some (.int .i64 1) ∧ w'.cell? ⟨A, 1, none⟩ = some (.int .i64 s)) ∧ w'.cell? ⟨b, off + j * 4 + 2, none⟩ = some (.int .i64 n) ∧ w'.cell? ⟨b, off + j * 4 + 3, none⟩ = some (.bool cl)) := fun w' kk => (by obtain ⟨B, K⟩ := (unhide Y6).held (List.mem_cons_of_mem _ (List.mem_cons_self ..)) (by have := unhide hD6; omega) (by have := unhide hD6; omega) kk; exact ⟨⟨B.cell (i := 0) rfl, B.cell (i := 1) rfl⟩, unhide C2 _ K⟩); clear Z6))
                    · have Z9 := hide ((unhide Y6).box 51 [.int .i64 f1, .int .i64 f2, .int .u32 fw, .int .i64 fb, .bool fc])
                      clear Y6 hA6
                      go_wp2
                      go_meet
                      case rel => exact ⟨_, rfl, rfl, (unhide hD6).2.2, Nat.ne_of_lt (unhide hD6).1, unhide Z9⟩
                    · have BD := (unhide Y6).bk (List.mem_cons_self ..)
                      have k9 := ((((((Kp.refl [wc.heap.size] W6).setCell (p := ⟨wc.heap.size, 0, none⟩) (.inl (by simp)) (.int .i64 f1)).setCell (p := ⟨wc.heap.size, 1, none⟩) (.inl (by simp)) (.int .i64 f2)).setCell (p := ⟨wc.heap.size, 2, none⟩) (.inl (by simp)) (.int .u32 fw)).setCell (p := ⟨wc.heap.size, 3, none⟩) (.inl (by simp)) (.int .i64 fb)).setCell (p := ⟨wc.heap.size, 4, none⟩) (.inl (by simp)) (.bool fc))
                      have Z9 := hide ((unhide Y6).put (unhide A6) (by intro c m; rcases List.mem_cons.1 m with rfl | m <;> first | exact Nat.ne_of_lt (unhide hDt) | (rw [List.mem_singleton.1 m]; exact Nat.ne_of_lt (unhide hAt).1)) k9 (((((BD.set 0 (.int .i64 f1)).set 1 (.int .i64 f2)).set 2 (.int .u32 fw)).set 3 (.int .i64 fb)).set 4 (.bool fc)))
                      clear Y6 hA6 BD k9
                      go_wp2
                      go_meet
                      case rel => exact ⟨_, rfl, rfl, unhide A6, Nat.ne_of_lt (unhide hAt).1, unhide Z9⟩
                  case rest =>
                    obtain ⟨DD, rfl, rfl, htD, hAD, hZD⟩ := hcut
                    have ZD := hide hZD
                    have BQ := hZD.bk (List.mem_cons_self ..)
                    have BP := hZD.bk (List.mem_cons_of_mem _ (List.mem_cons_self ..))
                    have p0 := BP.cell (i := 0) rfl
                    have q0 := BQ.cell (i := 0) rfl
                    have p1 := BP.cell (i := 1) rfl
                    have q1 := BQ.cell (i := 1) rfl
                    have p2 := BP.cell (i := 2) rfl
                    have q2 := BQ.cell (i := 2) rfl
                    have p3 := BP.cell (i := 3) rfl
                    have q3 := BQ.cell (i := 3) rfl
                    have p4 := BP.cell (i := 4) rfl
                    have q4 := BQ.cell (i := 4) rfl
                    have hne : ∀ w', (binOp .neq 39 (.agg #[.int .i64 f1, .int .i64 f2]) (.agg #[.int .i64 f1, .int .i64 f2])).run Try.prog w' = .ok (.bool false) w' := fun w' => by rw [neqi]; simp
                    clear hZD BQ BP Z1 ZB ZP hA hAt
                    go_wp2
                    go_meet
                    case rel => exact ⟨S', R', by have := unhide hSl; omega, (unhide ZD).bare⟩
      case rest =>
        as_aux_lemma =>
          obtain ⟨S', R', hL', hZ'⟩ := hcut
          have Z1 := hide hZ'
          clear Z0 hZ' hN7 hLs hSl C2 h1
          go_wp2_with fail
          refine (same_calls (unhide Z1)).mono ?_
          rintro e W3 ⟨rfl, K3⟩
          have Z3 := hide ((unhide Z1).grew K3)
          clear Z1 K3
          go_wp2_with fail
          refine (Te.ask (unhide Z3) (fun F h => esenders h)).mono ?_
          rintro e W4 ⟨v, rfl, hS4, K4⟩
          obtain ⟨a4, c4, rfl⟩ := hS4.form
          have Z4 := hide ((unhide Z3).grew K4)
          clear Z3 hS4 K4
          by_cases h0 : S'.length = 0
          · have g0 : ((S'.length : Int) > 0) = False := eq_false (by omega)
            have g1 : decide ((0 : Int) < (S'.length : Int)) = false := decide_eq_false (by omega)
            go_wp2
            go_roundg (len - (j + 1))
            case measure => omega
            case rel => exact ⟨j + 1, S', R', by omega, rfl, by go_num, unhide Z4, hL'⟩
          · have hR0 : R' = [] := (unhide Z4).one.resolve_left (fun e => h0 (by rw [e]; rfl))
            subst hR0
            have g1 : (0 : Int) < (S'.length : Int) := by omega
            go_wp2_with fail
            refine (Te.ask (unhide Z4) (fun F h => ereceivers h)).mono ?_
            rintro e W5 ⟨v, rfl, hR5, K5⟩
            obtain ⟨a5, c5, rfl⟩ := hR5.form
            have Z5 := hide ((unhide Z4).grew K5)
            clear Z4 hR5 K5
            go_wp2
            go_roundg (len - (j + 1))
            case measure => omega
            case rel => exact ⟨j + 1, S', [], by omega, rfl, by go_num, unhide Z5, hL'⟩
    · have b1 : decide ((j : Int) < (len : Int)) = false := decide_eq_false (by omega)
      replace hT := hide hT
      go_wp2
      go_ret
      exact ⟨rfl, (unhide hT).kp.below (Nat.le_refl _) (by simp)⟩
theorem eplay_walk (a0 : Option Addr) (len cap : Nat) (V : Nat → Nat → Value) (w : World) (hR : Recs w a0 len 4 V) (y1 : FourE V len) :
    Calls Try.prog 3 #[.slice a0 len cap] w fun e w' => e = .returned (.bool true) ∧ Below w.heap.size w w' := by
  by_cases h : len ≤ 60
  · exact eplay_in a0 len cap V w h hR y1
  · exact eplay_long a0 len cap w (by omega)
end Go.Proofs.Ythnpkojfkhndoaa
