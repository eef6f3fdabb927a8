/- The walk of RetypePlays. -/
import Derived.Test.YthjhpcbhkcmghaaKTwo9
import Derived.Test.YthjhpcbhkcmghaaKArgs
import Derived.Deep.DeepCutAuto
import Derived.Deep.CutBlock
import Derived.Deep.RegionHeld3
namespace Go.Proofs.Ythjhpcbhkcmghaa
open Go.RowKit
set_option linter.unusedVariables false
set_option linter.unusedSimpArgs false
set_option maxRecDepth 4000 in
set_option maxHeartbeats 400000 in
theorem rplay_long (size : Int) (a : Option Addr) (len cap : Nat) (w : World) (hl : 40 < len) :
    Calls Try.prog 3 #[.int .i64 size, .slice a len cap] w fun e w' => e = .returned (.bool true) ∧ Below w.heap.size w w' := by
  have h2 : (40 : Int) < (len : Int) := by omega
  go_enter Try.func3, Try.ntmps3
  go_wp2_with fail
  refine (first_calls _).mono ?_
  rintro e W0 ⟨rfl, K0⟩
  go_wp2
  go_ret
  exact ⟨rfl, K0.below (Nat.le_refl _) (by simp)⟩
theorem capO_form9 (o : Option Sl) : ∃ k ob z b r : Int, capO o = .agg #[.int .i64 k, .int .i64 ob, .int .i64 z, .int .i64 b, .int .i64 r] := by
  cases o with
  | none => exact ⟨0, 0, 0, 0, 0, rfl⟩
  | some x => exact ⟨_, _, _, _, _, rfl⟩
theorem capO_ns {L : List Sl} {n s uk uo uz ub ur : Int} (hc : ∀ y ∈ L, CapNs y.k y.o y.z) (h : capO (lookS L n s) = .agg #[.int .i64 uk, .int .i64 uo, .int .i64 uz, .int .i64 ub, .int .i64 ur]) (hs : (lookS L n s).isSome = true) : CapNs uk uo uz := by
  obtain ⟨y, hy⟩ := Option.isSome_iff_exists.1 hs
  rw [hy] at h
  have hq := hc y (lookS_some hy).1
  unfold capO capV at h
  simp only [Value.agg.injEq, Array.mk.injEq, List.cons.injEq, Value.int.injEq, true_and] at h
  obtain ⟨h1, h2, h3, _⟩ := h
  rw [← h1, ← h2, ← h3]
  exact hq
set_option maxRecDepth 10000 in
set_option maxHeartbeats 60000000 in
theorem rplay_in (size : Int) (a : Option Addr) (len cap : Nat) (V : Nat → Nat → Value) (w : World) (hl : len ≤ 40) (hR : Recs w a len 5 V) (y1 : Five V len) :
    Calls Try.prog 3 #[.int .i64 size, .slice a len cap] w fun e w' => e = .returned (.bool true) ∧ Below w.heap.size w w' := by
  have h2 : decide ((40 : Int) < (len : Int)) = false := by simp; omega
  obtain ⟨s0, hs0⟩ : ∃ x, size % 20 = x := ⟨_, rfl⟩
  obtain ⟨Z, hZ⟩ : ∃ Z, 1 + s0 = Z := ⟨_, rfl⟩
  obtain ⟨Z1, Z20⟩ : 1 ≤ Z ∧ Z ≤ 20 := by omega
  have wZ : IntKind.i64.wrap (1 + s0) = Z := by rw [IntKind.wrap_i64]; omega
  have HR := hide hR
  replace y1 := hide y1
  have h10 : Hid (PIn (1, 0)) := pin9 (by decide) (by decide) (by decide) (by decide)
  have hiZ : Hid (PIn (10, Z)) := pin9 (by decide) (by decide) (by omega) (by omega)
  have hfirst := hide (apart_first Z Z1 Z20)
  replace hs0 := hide hs0
  replace hZ := hide hZ
  clear hR
  go_enter Try.func3, Try.ntmps3
  go_wp2_with fail
  refine (first_calls _).mono ?_
  rintro e W0 ⟨rfl, K0⟩
  replace K0 := hide K0
  go_wp2_with fail
  refine (number_to _ _ _ _ (by omega) (by omega) (unhide hs0)).mono ?_
  rintro e W1 ⟨rfl, rfl⟩
  have X0 := pq_start (w := w) (W := W1) (unhide K0) rfl
  obtain ⟨W2, eW2⟩ : ∃ W2, (((W1.alloc (.cells #[.map none] 27)).alloc (.cells #[.slice none 0 0] 30)).alloc (.cells #[.map none] 33)).alloc (.cells #[.slice none 0 0] 36) = W2 := ⟨_, rfl⟩
  rw [eW2] at X0
  have zW2 : W2.heap.size = W1.heap.size + 1 + 1 + 1 + 1 := by rw [← eW2]; simp
  have C1 := (Bk.new W2 38 [.int .i64 1, .int .i64 10, .int .i64 Z, .int .i64 0, .int .i64 7]).alloc (.cells #[.int .i64 1, .int .i64 0] 40)
  have P1 := Bk.next (p := W2.heap.size + 1) (W2.alloc (.cells #[.int .i64 1, .int .i64 10, .int .i64 Z, .int .i64 0, .int .i64 7] 38)) 40 [.int .i64 1, .int .i64 0] (by simp)
  have X1 := X0.grew (((Kp.refl [] W2).alloc (.cells #[.int .i64 1, .int .i64 10, .int .i64 Z, .int .i64 0, .int .i64 7] 38)).alloc (.cells #[.int .i64 1, .int .i64 0] 40))
  rw [zW2] at C1 P1
  rw [← eW2] at C1 P1 X1
  obtain ⟨t, et⟩ : ∃ t, W1.heap.size = t := ⟨_, rfl⟩
  rw [et] at C1 P1 X1
  replace C1 := hide C1
  replace P1 := hide P1
  replace X1 := hide X1
  clear X0 zW2 eW2
  have c0 := (unhide C1).cell (i := 0) rfl
  have c1 := (unhide C1).cell (i := 1) rfl
  have c2 := (unhide C1).cell (i := 2) rfl
  have c3 := (unhide C1).cell (i := 3) rfl
  have c4 := (unhide C1).cell (i := 4) rfl
  have p0 := (unhide P1).cell (i := 0) rfl
  have p1 := (unhide P1).cell (i := 1) rfl
  go_wp2_with fail
  generalize (((((W1.alloc (.cells #[.map none] 27)).alloc (.cells #[.slice none 0 0] 30)).alloc (.cells #[.map none] 33)).alloc (.cells #[.slice none 0 0] 36)).alloc (.cells #[.int .i64 1, .int .i64 10, .int .i64 Z, .int .i64 0, .int .i64 7] 38)).alloc (.cells #[.int .i64 1, .int .i64 0] 40) = W3 at *
  clear et K0
  refine (tput_yes (unhide X1).tm.tab (unhide h10) pin_zero (unhide hfirst).1 (by decide) (unhide hfirst).2).mono ?_
  rintro e W4 ⟨rfl, X4, T4⟩
  have Y4 := hide ((unhide X1).prog ((unhide X1).tm.turnT T4 X4) (Mtc.ofT T4))
  have C4 := hide ((unhide X1).keepP (Mtc.ofT T4) (unhide C1))
  have P4 := hide ((unhide X1).keepP (Mtc.ofT T4) (unhide P1))
  clear X4 T4 X1 C1 P1 c0 c1 c2 c3 c4 p0 p1
  have c0 := (unhide C4).cell (i := 0) rfl
  have c1 := (unhide C4).cell (i := 1) rfl
  have c2 := (unhide C4).cell (i := 2) rfl
  have c3 := (unhide C4).cell (i := 3) rfl
  have c4 := (unhide C4).cell (i := 4) rfl
  have p0 := (unhide P4).cell (i := 0) rfl
  have p1 := (unhide P4).cell (i := 1) rfl
  go_wp2_with fail
  obtain ⟨ra, rc, rr⟩ := (unhide Y4).rd.rt
  refine (rput_yes rr 1 0 1 10 Z 0 7 0 0 (unhide hfirst).1 (by decide)).mono ?_
  rintro e W5 q5
  obtain ⟨rfl, r5, k5⟩ := rin_of q5
  rw [(unhide hfirst).2] at r5
  have Y5 := hide ((unhide Y4).doc ((unhide Y4).rd.turnT k5 r5) (Dmc.ofT k5))
  clear rr q5 r5 k5 Y4 C4 P4 c0 c1 c2 c3 c4 p0 p1
  go_wp2_with fail
  go_loopg [12] len (fun m i wr => ∃ j : Nat, j ≤ len ∧ ∃ L F n, m = len - j ∧ i = .int .i64 j ∧ Pq w t L F L F n wr ∧ FB F ∧ L.length ≤ j + 1 ∧ n ≤ 2 * j)
  case atStart => exact ⟨0, Nat.zero_le _, _, _, 0, by omega, rfl, unhide Y5, FB.zero, by simp, by omega⟩
  case round =>
    obtain ⟨j, hj, L, F, n, rfl, rfl, hX, hFB, hLn, hnn⟩ := hrel
    clear Y5
    have X := hide hX
    replace hFB := hide hFB
    clear hX
    by_cases hlt : j < len
    · have b1 : (j : Int) < (len : Int) := by omega
      have tj : ((j : Int)).toNat = j := Int.toNat_natCast j
      obtain ⟨⟨kd, e0, _⟩, ⟨na, e1, wa⟩, ⟨nb, e2, wb⟩, ⟨nw, e3, _⟩, ⟨nz, e4, _⟩⟩ := unhide y1 j hlt
      obtain ⟨b, off, ea, ce⟩ := do5_cells (unhide HR) (Kp.refl [] w) hlt
      subst ea
      have hC : Hid (∀ w', Kp [] w w' → w'.cell? ⟨b, off + j * 5, none⟩ = some (.int .i64 kd) ∧ w'.cell? ⟨b, off + j * 5 + 1, none⟩ = some (.int .i64 na) ∧ w'.cell? ⟨b, off + j * 5 + 2, none⟩ = some (.int .i64 nb) ∧ w'.cell? ⟨b, off + j * 5 + 3, none⟩ = some (.int .i64 nw) ∧ w'.cell? ⟨b, off + j * 5 + 4, none⟩ = some (.int .i64 nz)) := fun w' K => by
        refine ⟨K.cell ?_, K.cell ?_, K.cell ?_, K.cell ?_, K.cell ?_⟩
        · rw [← e0]; exact ce 0 (by omega)
        · rw [← e1]; exact ce 1 (by omega)
        · rw [← e2]; exact ce 2 (by omega)
        · rw [← e3]; exact ce 3 (by omega)
        · rw [← e4]; exact ce 4 (by omega)
      have i1 : In64 1 := in_small (by decide) (by decide)
      have ia : Hid (PIn (1, na)) := ⟨i1, wa⟩
      have ib : Hid (PIn (1, nb)) := ⟨i1, wb⟩
      obtain ⟨d0, d1, d2, d3, d4⟩ := unhide hC _ (unhide X).tm.tab.kp
      clear ce e0 e1 e2 e3 e4 wa wb i1
      have hcn := hide (capns_all (unhide X).tm.tab)
      have Z3 := hide (Pz.mk (A := wr.heap.size) (an := na) (bn := nb) (rb := 10) (rz := Z) ((unhide X).grew ((((Kp.refl [] wr).alloc (.cells #[.int .i64 1, .int .i64 na] 40)).alloc (.cells #[.int .i64 1, .int .i64 nb] 40)).alloc (.cells #[.int .i64 10, .int .i64 Z] 45))) (((Bk.new wr 40 [.int .i64 1, .int .i64 na]).alloc _).alloc _) ((Bk.next (p := wr.heap.size + 1) (wr.alloc (.cells #[.int .i64 1, .int .i64 na] 40)) 40 [.int .i64 1, .int .i64 nb] (by simp)).alloc _) (Bk.next (p := wr.heap.size + 1 + 1) ((wr.alloc (.cells #[.int .i64 1, .int .i64 na] 40)).alloc (.cells #[.int .i64 1, .int .i64 nb] 40)) 45 [.int .i64 10, .int .i64 Z] (by simp)))
      have nA : Hid (w.heap.size ≤ wr.heap.size) := (unhide X).tm.tab.kp.size
      obtain ⟨A, eA⟩ : ∃ A, wr.heap.size = A := ⟨_, rfl⟩
      rw [eA] at Z3 nA
      obtain ⟨_, _, x2, _, _⟩ := unhide hC _ ((unhide X).tm.tab.kp.alloc (.cells #[.int .i64 1, .int .i64 na] 40))
      clear X
      go_wp2_with fail
      generalize ((wr.alloc (.cells #[.int .i64 1, .int .i64 na] 40)).alloc (.cells #[.int .i64 1, .int .i64 nb] 40)).alloc (.cells #[.int .i64 10, .int .i64 Z] 45) = W3 at *
      clear eA d0 d1 d2 d3 d4 x2
      obtain ⟨uk, uo, uz, ub, ur, hcap⟩ := capO_form9 (lookS L 1 nb)
      obtain ⟨is, his⟩ : ∃ is, (lookS L 1 nb).isSome = is := ⟨_, rfl⟩
      have hU : Hid (is = true → CapNs uk uo uz) := fun e => capO_ns (unhide hcn) hcap (his.trans e)
      obtain ⟨ra, rc, rr⟩ := (unhide Z3).pq.rd.rt
      refine (rget_to rr 1 nb).mono ?_
      rintro e W4 ⟨he, K4⟩
      rw [hcap, his] at he
      subst he
      have U5 := hide (Bk.new W4 38 [.int .i64 uk, .int .i64 uo, .int .i64 uz, .int .i64 ub, .int .i64 ur])
      have Z5 := hide ((unhide Z3).grew (K4.alloc (.cells #[.int .i64 uk, .int .i64 uo, .int .i64 uz, .int .i64 ub, .int .i64 ur] 38)))
      obtain ⟨U, eU⟩ : ∃ U, W4.heap.size = U := ⟨_, rfl⟩
      rw [eU] at U5
      clear rr K4 Z3 hcap his
      obtain ⟨kb, hkb⟩ : ∃ kb, (is && (uk == 1)) = kb := ⟨_, rfl⟩
      go_upto_region 22 with fail
      generalize W4.alloc (.cells #[.int .i64 uk, .int .i64 uo, .int .i64 uz, .int .i64 ub, .int .i64 ur] 38) = W5 at *
      clear eU
      have u0 := (unhide U5).cell (i := 0) rfl
      go_cut [87] (fun v wx => v = .bool kb ∧ wx = W5)
      case first =>
        clear hU
        cases is
        · have : kb = false := by rw [← hkb]; rfl
          subst this
          clear hkb
          go_wp2
          go_meet
          case rel => exact ⟨rfl, rfl⟩
        · have : kb = (uk == 1) := by rw [← hkb]; rfl
          subst this
          clear hkb
          go_wp2
          go_meet
          case rel => exact ⟨rfl, rfl⟩
      case rest =>
      obtain ⟨rfl, rfl⟩ := hcut
      clear u0
      have hU2 : kb = true → CapNs 1 uo uz ∧ uk = 1 := fun e => by
        rw [← hkb, Bool.and_eq_true] at e
        have h1 : uk = 1 := by simpa using e.2
        have := hU e.1
        rw [h1] at this
        exact ⟨this, h1⟩
      clear hkb hU
      go_upto_if 87 with fail
      go_cut [] (fun wx => ∃ rb rz, (1 ≤ rb ∧ rb ≤ 64 ∧ 0 ≤ rz ∧ rz ≤ 64) ∧ Pz w t L F L F n A na nb rb rz wx)
      case first =>
        cases kb
        · clear hU2
          go_wp2
          go_meet
          case rel => exact ⟨10, Z, by omega, unhide Z5⟩
        · obtain ⟨hU3, hk⟩ := hU2 rfl
          subst hk
          have u0 := (unhide U5).cell (i := 0) rfl
          have u1 := (unhide U5).cell (i := 1) rfl
          have u2 := (unhide U5).cell (i := 2) rfl
          have q1 := hU3.o1
          have q2 := hU3.o64
          have q3 := hU3.z0
          have q4 := hU3.z64
          clear hU3 hU2
          have fr := (unhide Z5).br.frozen
          obtain ⟨_, _, _, _, r0, r1⟩ := (unhide Z5).cells
          have nR : w.heap.size ≤ A + 1 + 1 := by have := unhide nA; omega
          replace nR := hide nR
          go_wp2
          go_meet
          case rel => exact ⟨uo, uz, ⟨q1, q2, q3, q4⟩, (unhide Z5).pq.beside (kp_two _ _) (unhide Z5).br (unhide nR), (unhide Z5).ba.kept (kp_two _ _) (by simp; omega), (unhide Z5).bb.kept (kp_two _ _) (by simp), bk2 (unhide Z5).br⟩
      case rest =>
        obtain ⟨rb, rz, ⟨rb1, rb64, rz0, rz64⟩, hZ6⟩ := hcut
        have Z6 := hide hZ6
        have hir : Hid (PIn (rb, rz)) := pin9 (by omega) (by omega) (by omega) (by omega)
        obtain ⟨d0, d1, d2, d3, d4⟩ := unhide hC _ hZ6.pq.tm.tab.kp
        clear hZ6 Z5 U5 hU2
        obtain ⟨kk, hkk⟩ : ∃ kk, kd % 8 = kk := ⟨_, rfl⟩
        have kk0 : 0 ≤ kk ∧ kk < 8 := by omega
        replace hkk := hide hkk
        go_wp2_with fail
        refine (number_to _ _ _ _ (by omega) (by omega) (unhide hkk)).mono ?_
        rintro e wx ⟨rfl, rfl⟩
        go_upto_block 2 with fail
        go_cut [] (fun wy => ∃ L' F' n', Pz w t L' F' L' F' n' A na nb rb rz wy ∧ FB F' ∧ L'.length ≤ j + 2 ∧ n' ≤ 2 * (j + 1))
        case first =>
          have hlen : Hid (L.length < 65536) := by unfold Hid; omega
          have hnm : Hid (n < 65000) := by unfold Hid; omega
          have hcase : kk = 5 ∨ kk = 6 ∨ kk = 7 ∨ ((kk == 5) = false ∧ (kk == 6) = false ∧ (kk == 7) = false) := by
            by_cases h5 : kk = 5
            · exact .inl h5
            · by_cases h6 : kk = 6
              · exact .inr (.inl h6)
              · by_cases h7 : kk = 7
                · exact .inr (.inr (.inl h7))
                · exact .inr (.inr (.inr ⟨beq_eq_false_iff_ne.2 h5, beq_eq_false_iff_ne.2 h6, beq_eq_false_iff_ne.2 h7⟩))
          have hS : Hid (∀ L1 F1 L2 F2 n' w', Pz w t L1 F1 L2 F2 n' A na nb rb rz w' → (fun w' => w'.cell? ⟨A, 0, none⟩ = some (.int .i64 1) ∧ w'.cell? ⟨A, 1, none⟩ = some (.int .i64 na) ∧ w'.cell? ⟨A + 1, 0, none⟩ = some (.int .i64 1) ∧ w'.cell? ⟨A + 1, 1, none⟩ = some (.int .i64 nb) ∧ w'.cell? ⟨A + 1 + 1, 0, none⟩ = some (.int .i64 rb) ∧ w'.cell? ⟨A + 1 + 1, 1, none⟩ = some (.int .i64 rz) ∧ w'.cell? ⟨b, off + j * 5 + 3, none⟩ = some (.int .i64 nw) ∧ w'.cell? ⟨b, off + j * 5 + 4, none⟩ = some (.int .i64 nz)) w') := fun L1 F1 L2 F2 n' w' z => by
            obtain ⟨_, _, _, d3, d4⟩ := unhide hC _ z.pq.tm.tab.kp
            obtain ⟨a0, a1, a2, a3, a4, a5⟩ := z.cells
            exact ⟨a0, a1, a2, a3, a4, a5, d3, d4⟩
          obtain ⟨a0, a1, a2, a3, a4, a5⟩ := (unhide Z6).cells
          clear nA d0 d1 d2
          rcases hcase with rfl | rfl | rfl | ⟨f5, f6, f7⟩
          · as_aux_lemma =>
              obtain ⟨v, L', hB⟩ := both_drop (w := w) (t := t) (x := t + 1) (L := L) (unhide ib)
              have hlL := hB.len
              replace hB := hide hB
              have Z7 := hide ((unhide Z6).grew ((Kp.refl [] wx).drew))
              go_wp2_with fail
              go_region_held3 (fun w' => w'.cell? ⟨A, 0, none⟩ = some (.int .i64 1) ∧ w'.cell? ⟨A, 1, none⟩ = some (.int .i64 na) ∧ w'.cell? ⟨A + 1, 0, none⟩ = some (.int .i64 1) ∧ w'.cell? ⟨A + 1, 1, none⟩ = some (.int .i64 nb) ∧ w'.cell? ⟨A + 1 + 1, 0, none⟩ = some (.int .i64 rb) ∧ w'.cell? ⟨A + 1 + 1, 1, none⟩ = some (.int .i64 rz) ∧ w'.cell? ⟨b, off + j * 5 + 3, none⟩ = some (.int .i64 nw) ∧ w'.cell? ⟨b, off + j * 5 + 4, none⟩ = some (.int .i64 nz)) (first | with_reducible exact unhide hS _ _ _ _ _ _ (unhide Z9) | with_reducible exact unhide hS _ _ _ _ _ _ (unhide Z8) | with_reducible exact unhide hS _ _ _ _ _ _ (unhide Z7)) (first
                | (go_at_call 13; refine ((unhide hB).prog _ (unhide Z7).pq.tm.tab).mono ?_; rintro e V8 ⟨rfl, X8, T8⟩; have Z8 := hide ((unhide Z7).prog ((unhide Z7).pq.tm.turnT T8 X8) (Mtc.ofT T8)); clear X8 T8)
                | (go_at_call 14; obtain ⟨ra, rc, rr⟩ := (unhide Z8).pq.rd.rt; refine ((unhide hB).doc _ ra rc rr).mono ?_; rintro e V9 ⟨rfl, X9, K9⟩; have Z9 := hide ((unhide Z8).doc ((unhide Z8).pq.rd.turnT K9 X9) (Dmc.ofT K9)); clear X9 K9 rr))
              all_goals
                go_wp2
                go_meet
                case rel => exact ⟨L', F, n, unhide Z9, unhide hFB, by omega, by omega⟩
          · as_aux_lemma =>
              go_wp2_with fail
              refine (mreset (unhide Z6).pq.tm.ma (unhide hir)).mono ?_
              rintro e W7 ⟨rfl, M7, T7⟩
              have Z7 := hide ((unhide Z6).prog ((unhide Z6).pq.tm.turnM T7 M7) (Mtc.ofM T7))
              clear M7 T7 Z6 a0 a1 a2 a3 a4 a5
              obtain ⟨a0, a1, a2, a3, a4, a5⟩ := (unhide Z7).cells
              go_wp2_with fail
              refine ((unhide Z7).pq.rd.rm.reset (by have := unhide hnm; omega) rb rz).mono ?_
              rintro e W8 ⟨rfl, M8, T8⟩
              have Z8 := hide ((unhide Z7).doc ((unhide Z7).pq.rd.turnM T8 M8) (Dmc.ofM T8))
              clear M8 T8 Z7 a0 a1 a2 a3 a4 a5
              go_wp2
              go_meet
              case rel => exact ⟨L, _, n + 1, unhide Z8, (unhide hFB).up _ (by decide) (by decide), by omega, by omega⟩
          · as_aux_lemma =>
              obtain ⟨u, hu⟩ : ∃ u, F (rb, rz) = u := ⟨_, rfl⟩
              obtain ⟨u0, u64⟩ : 0 ≤ u ∧ u ≤ 64 := by rw [← hu]; exact unhide hFB _
              have w1 : IntKind.i64.wrap (rz - u) = rz - u := by rw [IntKind.wrap_i64]; omega
              have w3 : IntKind.i64.wrap (rb + u) = rb + u := by rw [IntKind.wrap_i64]; omega
              replace hu := hide hu
              replace w1 := hide w1
              replace w3 := hide w3
              have Z7 := hide ((unhide Z6).grew ((Kp.refl [] wx).drew))
              by_cases hno : nz < 1 ∨ rz - u < nz
              · replace hno := hide hno
                go_wp2_with fail
                go_region_held3 (fun w' => w'.cell? ⟨A, 0, none⟩ = some (.int .i64 1) ∧ w'.cell? ⟨A, 1, none⟩ = some (.int .i64 na) ∧ w'.cell? ⟨A + 1, 0, none⟩ = some (.int .i64 1) ∧ w'.cell? ⟨A + 1, 1, none⟩ = some (.int .i64 nb) ∧ w'.cell? ⟨A + 1 + 1, 0, none⟩ = some (.int .i64 rb) ∧ w'.cell? ⟨A + 1 + 1, 1, none⟩ = some (.int .i64 rz) ∧ w'.cell? ⟨b, off + j * 5 + 3, none⟩ = some (.int .i64 nw) ∧ w'.cell? ⟨b, off + j * 5 + 4, none⟩ = some (.int .i64 nz)) (first | with_reducible exact unhide hS _ _ _ _ _ _ (unhide Z8) | with_reducible exact unhide hS _ _ _ _ _ _ (unhide Z7)) (first
                  | (go_at_call 17; refine (mtake_no (unhide Z7).pq.tm.ma (unhide hir) (unhide hu) (unhide w1) (unhide hno)).mono ?_; rintro e V8 ⟨rfl, K8⟩; have Z8 := hide ((unhide Z7).grew K8); clear K8))
                all_goals
                  have Z9 := hide ((unhide Z8).grew ((Kp.refl [] V8).drew))
                  clear Z6 Z7 a0 a1 a2 a3 a4 a5 d3 d4
                  obtain ⟨a0, a1, a2, a3, a4, a5⟩ := (unhide Z8).cells
                  obtain ⟨_, _, _, d3, d4⟩ := unhide hC _ (unhide Z8).pq.tm.tab.kp
                  go_wp2_with fail
                  go_region_held3 (fun w' => w'.cell? ⟨A, 0, none⟩ = some (.int .i64 1) ∧ w'.cell? ⟨A, 1, none⟩ = some (.int .i64 na) ∧ w'.cell? ⟨A + 1, 0, none⟩ = some (.int .i64 1) ∧ w'.cell? ⟨A + 1, 1, none⟩ = some (.int .i64 nb) ∧ w'.cell? ⟨A + 1 + 1, 0, none⟩ = some (.int .i64 rb) ∧ w'.cell? ⟨A + 1 + 1, 1, none⟩ = some (.int .i64 rz) ∧ w'.cell? ⟨b, off + j * 5 + 3, none⟩ = some (.int .i64 nw) ∧ w'.cell? ⟨b, off + j * 5 + 4, none⟩ = some (.int .i64 nz)) (first | with_reducible exact unhide hS _ _ _ _ _ _ (unhide Z10) | with_reducible exact unhide hS _ _ _ _ _ _ (unhide Z9)) (first
                    | (go_at_call 18; refine ((unhide Z9).pq.rd.rm.no (unhide hu) (unhide w1) (unhide hno)).mono ?_; rintro e V10 ⟨rfl, K10⟩; have Z10 := hide ((unhide Z9).grew K10); clear K10))
                  all_goals
                    go_wp2
                    go_meet
                    case rel => exact ⟨L, F, n, unhide Z10, unhide hFB, by omega, by omega⟩
              · have h1 : 1 ≤ nz := by omega
                have h2 : nz ≤ rz - u := by omega
                have w2 : IntKind.i64.wrap (u + nz) = u + nz := by rw [IntKind.wrap_i64]; omega
                replace h1 := hide h1
                replace h2 := hide h2
                replace w2 := hide w2
                have hFB2 := hide ((unhide hFB).up (rb, rz) (v := u + nz) (by have := unhide h1; omega) (by have := unhide h2; omega))
                clear hno
                go_wp2_with fail
                go_region_held3 (fun w' => w'.cell? ⟨A, 0, none⟩ = some (.int .i64 1) ∧ w'.cell? ⟨A, 1, none⟩ = some (.int .i64 na) ∧ w'.cell? ⟨A + 1, 0, none⟩ = some (.int .i64 1) ∧ w'.cell? ⟨A + 1, 1, none⟩ = some (.int .i64 nb) ∧ w'.cell? ⟨A + 1 + 1, 0, none⟩ = some (.int .i64 rb) ∧ w'.cell? ⟨A + 1 + 1, 1, none⟩ = some (.int .i64 rz) ∧ w'.cell? ⟨b, off + j * 5 + 3, none⟩ = some (.int .i64 nw) ∧ w'.cell? ⟨b, off + j * 5 + 4, none⟩ = some (.int .i64 nz)) (first | with_reducible exact unhide hS _ _ _ _ _ _ (unhide Z8) | with_reducible exact unhide hS _ _ _ _ _ _ (unhide Z7)) (first
                  | (go_at_call 17; refine (mtake_yes (unhide Z7).pq.tm.ma (unhide hir) (unhide hu) (unhide w1) (unhide w2) (unhide w3) (unhide h1) (unhide h2)).mono ?_; rintro e V8 ⟨rfl, M8, T8⟩; have Z8 := hide ((unhide Z7).prog ((unhide Z7).pq.tm.turnM T8 M8) (Mtc.ofM T8)); clear M8 T8))
                all_goals
                  have Z9 := hide ((unhide Z8).grew ((Kp.refl [] V8).drew))
                  clear Z6 Z7 a0 a1 a2 a3 a4 a5 d3 d4
                  obtain ⟨a0, a1, a2, a3, a4, a5⟩ := (unhide Z8).cells
                  obtain ⟨_, _, _, d3, d4⟩ := unhide hC _ (unhide Z8).pq.tm.tab.kp
                  go_wp2_with fail
                  go_region_held3 (fun w' => w'.cell? ⟨A, 0, none⟩ = some (.int .i64 1) ∧ w'.cell? ⟨A, 1, none⟩ = some (.int .i64 na) ∧ w'.cell? ⟨A + 1, 0, none⟩ = some (.int .i64 1) ∧ w'.cell? ⟨A + 1, 1, none⟩ = some (.int .i64 nb) ∧ w'.cell? ⟨A + 1 + 1, 0, none⟩ = some (.int .i64 rb) ∧ w'.cell? ⟨A + 1 + 1, 1, none⟩ = some (.int .i64 rz) ∧ w'.cell? ⟨b, off + j * 5 + 3, none⟩ = some (.int .i64 nw) ∧ w'.cell? ⟨b, off + j * 5 + 4, none⟩ = some (.int .i64 nz)) (first | with_reducible exact unhide hS _ _ _ _ _ _ (unhide Z10) | with_reducible exact unhide hS _ _ _ _ _ _ (unhide Z9)) (first
                    | (go_at_call 18; refine ((unhide Z9).pq.rd.rm.yes (by have := unhide hnm; omega) (unhide hu) (unhide w1) (unhide w2) (unhide w3) (unhide h1) (unhide h2)).mono ?_; rintro e V10 ⟨rfl, M10, T10⟩; have Z10 := hide ((unhide Z9).doc ((unhide Z9).pq.rd.turnM T10 M10) (Dmc.ofM T10)); clear M10 T10))
                  all_goals
                    go_wp2
                    go_meet
                    case rel => exact ⟨L, _, n + 1, unhide Z10, unhide hFB2, by omega, by omega⟩
          · obtain ⟨R, hRk⟩ : ∃ R, mkR L F 1 na 1 nb nw nz = R := ⟨_, rfl⟩
            obtain ⟨hRB, hRL⟩ := mkR_bd hRk (unhide hFB) (unhide hcn)
            obtain ⟨e0, e1, e2, e3, e4, hcR⟩ := capR_form R nw nz
            obtain ⟨rc, ro, RL, RF⟩ := R
            simp only at hRB hRL
            replace hRB := hide hRB
            replace hRk := hide hRk
            replace hcR := hide hcR
            go_upto_region 25 with fail
            go_cut [22, 23] (fun d c wy => ∃ D, d = .pointer (some ⟨D, 0, none⟩) ∧ c = .int .i64 rc ∧ Pz w t RL RF L F n A na nb rb rz wy ∧ Bk wy D 38 [.int .i64 e0, .int .i64 e1, .int .i64 e2, .int .i64 e3, .int .i64 e4])
            case first =>
              as_aux_lemma =>
                have Z7 := hide ((unhide Z6).grew ((Kp.refl [] wx).drew))
                have Z7c : Hid (Pz w t L F L F n A na nb rb rz (wx.alloc (.cells #[.int .i64 0, .int .i64 0, .int .i64 0, .int .i64 0, .int .i64 0] 38)).drew) := (unhide Z6).grew (((Kp.refl [] wx).alloc _).drew)
                have D7c : Hid (Bk (wx.alloc (.cells #[.int .i64 0, .int .i64 0, .int .i64 0, .int .i64 0, .int .i64 0] 38)).drew wx.heap.size 38 [.int .i64 0, .int .i64 0, .int .i64 0, .int .i64 0, .int .i64 0]) := (Bk.new wx 38 [.int .i64 0, .int .i64 0, .int .i64 0, .int .i64 0, .int .i64 0]).kept ((Kp.refl [] _).drew) (by simp)
                have nW : Hid (w.heap.size ≤ wx.heap.size) := (unhide Z6).pq.tm.tab.kp.size
                go_wp2_with fail
                go_region_held3 (fun w' => w'.cell? ⟨A, 0, none⟩ = some (.int .i64 1) ∧ w'.cell? ⟨A, 1, none⟩ = some (.int .i64 na) ∧ w'.cell? ⟨A + 1, 0, none⟩ = some (.int .i64 1) ∧ w'.cell? ⟨A + 1, 1, none⟩ = some (.int .i64 nb) ∧ w'.cell? ⟨A + 1 + 1, 0, none⟩ = some (.int .i64 rb) ∧ w'.cell? ⟨A + 1 + 1, 1, none⟩ = some (.int .i64 rz) ∧ w'.cell? ⟨b, off + j * 5 + 3, none⟩ = some (.int .i64 nw) ∧ w'.cell? ⟨b, off + j * 5 + 4, none⟩ = some (.int .i64 nz)) (first | with_reducible exact unhide hS _ _ _ _ _ _ (unhide Z8) | with_reducible exact unhide S8 _ | with_reducible exact unhide hS _ _ _ _ _ _ (unhide Z9) | with_reducible exact unhide hS _ _ _ _ _ _ (unhide Z7) | with_reducible exact unhide hS _ _ _ _ _ _ (unhide Z7c)) (first
                  | (go_at_call 19; (with_reducible refine (kmake (unhide Z7).pq.tm (unhide hFB) (unhide ia) (unhide ib) nw nz (unhide hlen) (unhide hRk)).mono ?_); rintro e V8 ⟨he, Y8, T8⟩; rw [unhide hcR] at he; subst he; have Z8 := hide ((unhide Z7).prog Y8 T8); clear Y8 T8; have S8 : Hid (∀ o, (fun w' => w'.cell? ⟨A, 0, none⟩ = some (.int .i64 1) ∧ w'.cell? ⟨A, 1, none⟩ = some (.int .i64 na) ∧ w'.cell? ⟨A + 1, 0, none⟩ = some (.int .i64 1) ∧ w'.cell? ⟨A + 1, 1, none⟩ = some (.int .i64 nb) ∧ w'.cell? ⟨A + 1 + 1, 0, none⟩ = some (.int .i64 rb) ∧ w'.cell? ⟨A + 1 + 1, 1, none⟩ = some (.int .i64 rz) ∧ w'.cell? ⟨b, off + j * 5 + 3, none⟩ = some (.int .i64 nw) ∧ w'.cell? ⟨b, off + j * 5 + 4, none⟩ = some (.int .i64 nz)) (V8.alloc o)) := (fun o => unhide hS _ _ _ _ _ _ ((unhide Z8).grew ((Kp.refl [] V8).alloc o))); have Z9 := hide ((unhide Z8).grew ((Kp.refl [] V8).alloc (.cells #[.int .i64 e0, .int .i64 e1, .int .i64 e2, .int .i64 e3, .int .i64 e4] 38))); have D9 := hide (Bk.new V8 38 [.int .i64 e0, .int .i64 e1, .int .i64 e2, .int .i64 e3, .int .i64 e4]))
                  | (go_at_call 19; (with_reducible refine (kmake (unhide Z7c).pq.tm (unhide hFB) (unhide ia) (unhide ib) nw nz (unhide hlen) (unhide hRk)).mono ?_); rintro e U8 ⟨he, Y8, T8⟩; rw [unhide hcR] at he; subst he; have Z8 := hide ((unhide Z7c).prog Y8 T8); have D8 := hide ((unhide Z7c).pq.keepP T8 (unhide D7c)); clear Y8 T8; have f8 := (unhide D8).frozen; have g0 := (unhide D8).cell (i := 0) rfl; have g1 := (unhide D8).cell (i := 1) rfl; have g2 := (unhide D8).cell (i := 2) rfl; have g3 := (unhide D8).cell (i := 3) rfl; have g4 := (unhide D8).cell (i := 4) rfl; have Z9 := hide ((unhide Z8).beside (kp5 (.int .i64 e0) (.int .i64 e1) (.int .i64 e2) (.int .i64 e3) (.int .i64 e4)) (unhide D8) (unhide nW)); have D9 := hide (bk_put5 (unhide D8) (.int .i64 e0) (.int .i64 e1) (.int .i64 e2) (.int .i64 e3) (.int .i64 e4))))
                all_goals
                  go_wp2
                  go_meet
                  case rel => exact ⟨_, rfl, rfl, unhide Z9, unhide D9⟩
            case rest =>
              obtain ⟨D, rfl, rfl, hZ9, hD9⟩ := hcut
              have Z9 := hide hZ9
              have D9 := hide hD9
              clear hZ9 hD9 Z6 a0 a1 a2 a3 a4 a5 d3 d4
              generalize wc = W9 at *
              obtain ⟨a0, a1, a2, a3, a4, a5⟩ := (unhide Z9).cells
              obtain ⟨_, _, _, d3, d4⟩ := unhide hC _ (unhide Z9).pq.tm.tab.kp
              go_upto_region 26 with fail
              go_cut [24, 25] (fun d c wy => ∃ E, d = .pointer (some ⟨E, 0, none⟩) ∧ c = .int .i64 rc ∧ Pz w t RL RF RL RF (n + 2) A na nb rb rz wy ∧ Bk wy D 38 [.int .i64 e0, .int .i64 e1, .int .i64 e2, .int .i64 e3, .int .i64 e4] ∧ Bk wy E 38 [.int .i64 e0, .int .i64 e1, .int .i64 e2, .int .i64 e3, .int .i64 e4])
              case first =>
                as_aux_lemma =>
                  have Z10 := hide ((unhide Z9).grew ((Kp.refl [] W9).drew))
                  have D10 := hide ((unhide D9).kept ((Kp.refl [] W9).drew) (by simp))
                  have Z10c : Hid (Pz w t RL RF L F n A na nb rb rz (W9.alloc (.cells #[.int .i64 0, .int .i64 0, .int .i64 0, .int .i64 0, .int .i64 0] 38)).drew) := (unhide Z9).grew (((Kp.refl [] W9).alloc _).drew)
                  have D10c : Hid (Bk (W9.alloc (.cells #[.int .i64 0, .int .i64 0, .int .i64 0, .int .i64 0, .int .i64 0] 38)).drew D 38 [.int .i64 e0, .int .i64 e1, .int .i64 e2, .int .i64 e3, .int .i64 e4]) := ((unhide D9).alloc _).kept ((Kp.refl [] _).drew) (by simp)
                  have E10c : Hid (Bk (W9.alloc (.cells #[.int .i64 0, .int .i64 0, .int .i64 0, .int .i64 0, .int .i64 0] 38)).drew W9.heap.size 38 [.int .i64 0, .int .i64 0, .int .i64 0, .int .i64 0, .int .i64 0]) := (Bk.new W9 38 [.int .i64 0, .int .i64 0, .int .i64 0, .int .i64 0, .int .i64 0]).kept ((Kp.refl [] _).drew) (by simp)
                  have nW : Hid (w.heap.size ≤ W9.heap.size) := (unhide Z9).pq.tm.tab.kp.size
                  have nD : Hid (D ≠ W9.heap.size) := by have := (unhide D9).lt; unfold Hid; omega
                  go_wp2_with fail
                  go_region_held3 (fun w' => w'.cell? ⟨A, 0, none⟩ = some (.int .i64 1) ∧ w'.cell? ⟨A, 1, none⟩ = some (.int .i64 na) ∧ w'.cell? ⟨A + 1, 0, none⟩ = some (.int .i64 1) ∧ w'.cell? ⟨A + 1, 1, none⟩ = some (.int .i64 nb) ∧ w'.cell? ⟨A + 1 + 1, 0, none⟩ = some (.int .i64 rb) ∧ w'.cell? ⟨A + 1 + 1, 1, none⟩ = some (.int .i64 rz) ∧ w'.cell? ⟨b, off + j * 5 + 3, none⟩ = some (.int .i64 nw) ∧ w'.cell? ⟨b, off + j * 5 + 4, none⟩ = some (.int .i64 nz)) (first | with_reducible exact unhide hS _ _ _ _ _ _ (unhide Z11) | with_reducible exact unhide S11 _ | with_reducible exact unhide hS _ _ _ _ _ _ (unhide Z12) | with_reducible exact unhide hS _ _ _ _ _ _ (unhide Z10) | with_reducible exact unhide hS _ _ _ _ _ _ (unhide Z10c)) (first
                    | (go_at_call 20; (with_reducible refine (rmake_calls (unhide Z10).pq.rd (unhide hcn) (unhide hFB) 1 na 1 nb nw nz (unhide hlen) (by have := unhide hnm; omega) (unhide hRk)).mono ?_); rintro e V11 ⟨he, Y11, T11⟩; rw [unhide hcR] at he; subst he; have Z11 := hide ((unhide Z10).doc Y11 T11); have D11 := hide ((unhide Z10).pq.keepD T11 (unhide D10)); clear Y11 T11; have S11 : Hid (∀ o, (fun w' => w'.cell? ⟨A, 0, none⟩ = some (.int .i64 1) ∧ w'.cell? ⟨A, 1, none⟩ = some (.int .i64 na) ∧ w'.cell? ⟨A + 1, 0, none⟩ = some (.int .i64 1) ∧ w'.cell? ⟨A + 1, 1, none⟩ = some (.int .i64 nb) ∧ w'.cell? ⟨A + 1 + 1, 0, none⟩ = some (.int .i64 rb) ∧ w'.cell? ⟨A + 1 + 1, 1, none⟩ = some (.int .i64 rz) ∧ w'.cell? ⟨b, off + j * 5 + 3, none⟩ = some (.int .i64 nw) ∧ w'.cell? ⟨b, off + j * 5 + 4, none⟩ = some (.int .i64 nz)) (V11.alloc o)) := (fun o => unhide hS _ _ _ _ _ _ ((unhide Z11).grew ((Kp.refl [] V11).alloc o))); have Z12 := hide ((unhide Z11).grew ((Kp.refl [] V11).alloc (.cells #[.int .i64 e0, .int .i64 e1, .int .i64 e2, .int .i64 e3, .int .i64 e4] 38))); have D12 := hide ((unhide D11).alloc (.cells #[.int .i64 e0, .int .i64 e1, .int .i64 e2, .int .i64 e3, .int .i64 e4] 38)); have E12 := hide (Bk.new V11 38 [.int .i64 e0, .int .i64 e1, .int .i64 e2, .int .i64 e3, .int .i64 e4]))
                    | (go_at_call 20; (with_reducible refine (rmake_calls (unhide Z10c).pq.rd (unhide hcn) (unhide hFB) 1 na 1 nb nw nz (unhide hlen) (by have := unhide hnm; omega) (unhide hRk)).mono ?_); rintro e U11 ⟨he, Y11, T11⟩; rw [unhide hcR] at he; subst he; have Z11 := hide ((unhide Z10c).doc Y11 T11); have D11 := hide ((unhide Z10c).pq.keepD T11 (unhide D10c)); have E11 := hide ((unhide Z10c).pq.keepD T11 (unhide E10c)); clear Y11 T11; have f11 := (unhide E11).frozen; have g0 := (unhide E11).cell (i := 0) rfl; have g1 := (unhide E11).cell (i := 1) rfl; have g2 := (unhide E11).cell (i := 2) rfl; have g3 := (unhide E11).cell (i := 3) rfl; have g4 := (unhide E11).cell (i := 4) rfl; have Z12 := hide ((unhide Z11).beside (kp5 (.int .i64 e0) (.int .i64 e1) (.int .i64 e2) (.int .i64 e3) (.int .i64 e4)) (unhide E11) (unhide nW)); have D12 := hide ((unhide D11).kept (kp5 (.int .i64 e0) (.int .i64 e1) (.int .i64 e2) (.int .i64 e3) (.int .i64 e4)) (by simpa using unhide nD)); have E12 := hide (bk_put5 (unhide E11) (.int .i64 e0) (.int .i64 e1) (.int .i64 e2) (.int .i64 e3) (.int .i64 e4))))
                  all_goals
                    go_wp2
                    go_meet
                    case rel => exact ⟨_, rfl, rfl, unhide Z12, unhide D12, unhide E12⟩
              case rest =>
                obtain ⟨E, rfl, rfl, hZ12, hD12, hE12⟩ := hcut
                have Z12 := hide hZ12
                have x0 := hD12.cell (i := 0) rfl
                have x1 := hD12.cell (i := 1) rfl
                have x2 := hD12.cell (i := 2) rfl
                have x3 := hD12.cell (i := 3) rfl
                have x4 := hD12.cell (i := 4) rfl
                have y0 := hE12.cell (i := 0) rfl
                have y1 := hE12.cell (i := 1) rfl
                have y2 := hE12.cell (i := 2) rfl
                have y3 := hE12.cell (i := 3) rfl
                have y4 := hE12.cell (i := 4) rfl
                clear hZ12 hD12 hE12 a0 a1 a2 a3 a4 a5 d3 d4 Z9 D9
                go_wp2
                go_meet
                case rel => exact ⟨RL, RF, n + 2, unhide Z12, unhide hRB, by omega, by omega⟩
        case rest =>
          as_aux_lemma =>
            obtain ⟨L', F', n', hZ, hFB', hL', hn'⟩ := hcut
            have Z' := hide hZ
            replace hFB' := hide hFB'
            clear hZ Z6 hkk hcn hC ia ib hFB d0 d1 d2 d3 d4
            have hsl : Hid ((sel (fun _ => true) L').length ≤ 65536) := by unfold Hid; have := sel_len (fun _ => true) L'; omega
            obtain ⟨ur, hur⟩ : ∃ u, F' (rb, rz) = u := ⟨_, rfl⟩
            obtain ⟨uz, huz⟩ : ∃ u, F' (10, Z) = u := ⟨_, rfl⟩
            replace hur := hide hur
            replace huz := hide huz
            go_wp2_with fail
            obtain ⟨ra, rc, rr⟩ := (unhide Z').pq.rd.rt
            refine (rall_calls rr).mono ?_
            rintro e W7 ⟨v7, rfl, P7, K7⟩
            have Z7 := hide ((unhide Z').grew K7)
            obtain ⟨a7, c7, e7⟩ := P7.form
            have hselL : (sel (fun _ => true) L').length = L'.length := by unfold sel; simp
            obtain ⟨N, hN⟩ : ∃ N, (sel (fun _ => true) L').length = N := ⟨_, rfl⟩
            rw [hN] at e7 hselL
            subst e7 hselL
            replace P7 := hide P7
            replace hN := hide hN
            clear rr K7 Z'
            have hS2 : Hid (∀ w', Kp [] W7 w' → (fun w' => w'.cell? ⟨A + 1 + 1, 0, none⟩ = some (.int .i64 rb) ∧ w'.cell? ⟨A + 1 + 1, 1, none⟩ = some (.int .i64 rz)) w') := fun w' K => by
              obtain ⟨_, _, _, _, r0, r1⟩ := ((unhide Z7).grew K).cells
              exact ⟨r0, r1⟩
            have KK := hide ((Kp.refl [] W7).drew)
            go_wp2_with fail
            go_region_held3 (fun w' => w'.cell? ⟨A + 1 + 1, 0, none⟩ = some (.int .i64 rb) ∧ w'.cell? ⟨A + 1 + 1, 1, none⟩ = some (.int .i64 rz)) (with_reducible exact unhide hS2 _ (unhide KK)) (first
              | (go_at_call 23; refine (tall ((unhide Z7).pq.tm.tab.grew (unhide KK))).mono ?_; rintro e V ⟨vP1, rfl, P1, kk⟩; replace KK := hide ((unhide KK).then kk); replace P1 := hide P1; clear kk)
              | (go_at_call 22; refine (samepl_calls ((unhide P1).view (unhide hsl)) (((unhide P7).kept (unhide KK) (by simp)).view (unhide hsl))).mono ?_; rintro e V ⟨rfl, kq, rfl⟩; replace KK := hide ((unhide KK).drewN kq); clear P1)
              | (go_at_call 24; (with_reducible refine (mused ((unhide Z7).pq.tm.ma.grew (unhide KK)) (unhide hir) (unhide hur)).mono ?_); rintro e V ⟨rfl, kk⟩; replace KK := hide ((unhide KK).then kk); clear kk)
              | (go_at_call 24; (with_reducible refine (mused ((unhide Z7).pq.tm.ma.grew (unhide KK)) (unhide hiZ) (unhide huz)).mono ?_); rintro e V ⟨rfl, kk⟩; replace KK := hide ((unhide KK).then kk); clear kk)
              | (go_at_call 25; (with_reducible refine ((((unhide Z7).pq.rd.grew (unhide KK)).rm).used (unhide hur)).mono ?_); rintro e V ⟨rfl, kk⟩; replace KK := hide ((unhide KK).then kk); clear kk)
              | (go_at_call 25; (with_reducible refine ((((unhide Z7).pq.rd.grew (unhide KK)).rm).used (unhide huz)).mono ?_); rintro e V ⟨rfl, kk⟩; replace KK := hide ((unhide KK).then kk); clear kk))
            all_goals
              clear hS2 hur huz
              go_wp2_with fail
              go_loopg [27] L'.length (fun m i wr => ∃ l : Nat, l ≤ L'.length ∧ m = L'.length - l ∧ i = .int .i64 l ∧ Kp [] W7 wr)
              case atStart => exact ⟨0, Nat.zero_le _, by omega, rfl, unhide KK⟩
              case round =>
                obtain ⟨l, hl1, rfl, rfl, hKR⟩ := hrel
                clear KK
                have KR := hide hKR
                clear hKR
                by_cases hlt2 : l < L'.length
                · have b2 : (l : Int) < (L'.length : Int) := by omega
                  have tl : ((l : Int)).toNat = l := Int.toNat_natCast l
                  obtain ⟨x, hx⟩ : ∃ x, L'[l]? = some x := ⟨_, List.getElem?_eq_getElem hlt2⟩
                  have hgt : (sel (fun _ => true) L')[l]? = some (x.n, x.s) := by unfold sel; rw [List.filter_eq_self.2 (fun _ _ => rfl), List.getElem?_map, hx]; rfl
                  obtain ⟨g, hga⟩ : ∃ g, a7 = some ⟨g, 0, none⟩ := by
                    rcases (unhide P7).addr with ⟨e, _⟩ | ⟨g, cap, e, _⟩
                    · simp only [Value.slice.injEq] at e; omega
                    · simp only [Value.slice.injEq] at e; exact ⟨g, e.1⟩
                  subst hga
                  obtain ⟨z0, z1⟩ := (unhide P7).at hgt
                  have hqi := hide (pin_ok ((unhide Z7).pq.tm.tab.fo.ok x (List.mem_of_getElem? hx)))
                  have hlk := at_own (unhide Z7).pq.tm.tab.fo.nd hx
                  have hg1 := tget ((unhide Z7).pq.tm.tab.grew (unhide KR)) (unhide hqi)
                  have hparL : parL L' x.n x.s = (x.u, x.v) := by
                    have := parL_is L' x.n x.s
                    rw [hlk] at this
                    unfold parO at this
                    simp only [Value.agg.injEq, Array.mk.injEq, List.cons.injEq, Value.int.injEq, true_and, and_true] at this
                    exact Prod.ext this.1.symm this.2.symm
                  have hparO : parO (lookS L' x.n x.s) = .agg #[.int .i64 x.u, .int .i64 x.v] := by rw [hlk]; rfl
                  have hg2 : ∀ (wy : World), Kp [] W7 wy → Calls Try.prog 12 #[.pointer (some ⟨t + 1, 0, none⟩), .agg #[.int .i64 x.n, .int .i64 x.s]] wy fun e w' => e = .returned (.tuple #[capO (lookS L' x.n x.s), .bool (lookS L' x.n x.s).isSome]) ∧ Kp [] wy w' := fun wy K => by
                    obtain ⟨ra, rc, rr⟩ := ((unhide Z7).pq.rd.grew K).rt
                    exact rget_to rr x.n x.s
                  rw [hlk] at hg1
                  rw [hlk] at hg2
                  simp only [capO, capV, Option.isSome_some] at hg1 hg2
                  obtain ⟨xn, xs, xu, xv, xk, xo, xz, xb, xr⟩ := x
                  simp only at hg1 hg2 hparL hparO z0 z1 hqi
                  have hX : Hid (∀ w', Kp [] W7 w' → w'.cell? ⟨g, l * 2, none⟩ = some (.int .i64 xn) ∧ w'.cell? ⟨g, l * 2 + 1, none⟩ = some (.int .i64 xs)) := fun w' K => ⟨K.cell z0, K.cell z1⟩
                  obtain ⟨x0, x1⟩ := unhide hX _ (unhide KR)
                  replace hg1 := hide hg1
                  replace hg2 := hide hg2
                  replace hparL := hide hparL
                  replace hparO := hide hparO
                  clear hx hgt hlk z0 z1
                  go_wp2_with fail
                  refine (unhide hg1).mono ?_
                  rintro e W8 ⟨rfl, K8⟩
                  have D8 := hide (Bk.new W8 38 [.int .i64 xk, .int .i64 xo, .int .i64 xz, .int .i64 xb, .int .i64 xr])
                  have K9 := hide (((unhide KR).then K8).alloc (.cells #[.int .i64 xk, .int .i64 xo, .int .i64 xz, .int .i64 xb, .int .i64 xr] 38))
                  obtain ⟨D, eD⟩ : ∃ D, W8.heap.size = D := ⟨_, rfl⟩
                  rw [eD] at D8
                  clear K8 KR hg1 x0 x1
                  obtain ⟨x0, x1⟩ := unhide hX _ (unhide K9)
                  go_wp2_with fail
                  generalize W8.alloc (.cells #[.int .i64 xk, .int .i64 xo, .int .i64 xz, .int .i64 xb, .int .i64 xr] 38) = W9 at *
                  clear eD
                  refine (unhide hg2 _ (unhide K9)).mono ?_
                  rintro e W10 ⟨rfl, K10⟩
                  have E11 := hide (Bk.new W10 38 [.int .i64 xk, .int .i64 xo, .int .i64 xz, .int .i64 xb, .int .i64 xr])
                  have D11 := hide (((unhide D8).kept K10 (by simp)).alloc (.cells #[.int .i64 xk, .int .i64 xo, .int .i64 xz, .int .i64 xb, .int .i64 xr] 38))
                  have K11 := hide (((unhide K9).then K10).alloc (.cells #[.int .i64 xk, .int .i64 xo, .int .i64 xz, .int .i64 xb, .int .i64 xr] 38))
                  obtain ⟨E, eE⟩ : ∃ E, W10.heap.size = E := ⟨_, rfl⟩
                  rw [eE] at E11
                  clear K10 K9 D8 hg2 x0 x1
                  go_wp2_with fail
                  generalize W10.alloc (.cells #[.int .i64 xk, .int .i64 xo, .int .i64 xz, .int .i64 xb, .int .i64 xr] 38) = W11 at *
                  clear eE
                  have hS3 : Hid (∀ w', Kp [] W11 w' → (fun w' => w'.cell? ⟨D, 0, none⟩ = some (.int .i64 xk) ∧ w'.cell? ⟨D, 1, none⟩ = some (.int .i64 xo) ∧ w'.cell? ⟨D, 2, none⟩ = some (.int .i64 xz) ∧ w'.cell? ⟨D, 3, none⟩ = some (.int .i64 xb) ∧ w'.cell? ⟨D, 4, none⟩ = some (.int .i64 xr) ∧ w'.cell? ⟨E, 0, none⟩ = some (.int .i64 xk) ∧ w'.cell? ⟨E, 1, none⟩ = some (.int .i64 xo) ∧ w'.cell? ⟨E, 2, none⟩ = some (.int .i64 xz) ∧ w'.cell? ⟨E, 3, none⟩ = some (.int .i64 xb) ∧ w'.cell? ⟨E, 4, none⟩ = some (.int .i64 xr) ∧ w'.cell? ⟨g, l * 2, none⟩ = some (.int .i64 xn) ∧ w'.cell? ⟨g, l * 2 + 1, none⟩ = some (.int .i64 xs)) w') := fun w' K => by
                    obtain ⟨x0, x1⟩ := unhide hX _ ((unhide K11).then K)
                    have D := (unhide D11).kept K (by simp)
                    have E := (unhide E11).kept K (by simp)
                    exact ⟨D.cell rfl, D.cell rfl, D.cell rfl, D.cell rfl, D.cell rfl, E.cell rfl, E.cell rfl, E.cell rfl, E.cell rfl, E.cell rfl, x0, x1⟩
                  have KL := hide ((Kp.refl [] W11).drew)
                  clear D11 E11 hX
                  go_region_held3 (fun w' => w'.cell? ⟨D, 0, none⟩ = some (.int .i64 xk) ∧ w'.cell? ⟨D, 1, none⟩ = some (.int .i64 xo) ∧ w'.cell? ⟨D, 2, none⟩ = some (.int .i64 xz) ∧ w'.cell? ⟨D, 3, none⟩ = some (.int .i64 xb) ∧ w'.cell? ⟨D, 4, none⟩ = some (.int .i64 xr) ∧ w'.cell? ⟨E, 0, none⟩ = some (.int .i64 xk) ∧ w'.cell? ⟨E, 1, none⟩ = some (.int .i64 xo) ∧ w'.cell? ⟨E, 2, none⟩ = some (.int .i64 xz) ∧ w'.cell? ⟨E, 3, none⟩ = some (.int .i64 xb) ∧ w'.cell? ⟨E, 4, none⟩ = some (.int .i64 xr) ∧ w'.cell? ⟨g, l * 2, none⟩ = some (.int .i64 xn) ∧ w'.cell? ⟨g, l * 2 + 1, none⟩ = some (.int .i64 xs)) (with_reducible exact unhide hS3 _ (unhide KL)) (first
                    | (go_at_call 27; refine (tparent ((unhide Z7).pq.tm.tab.grew ((unhide K11).then (unhide KL))) (unhide hqi) (unhide hparO)).mono ?_; rintro e V12 ⟨rfl, kk⟩; replace KL := hide ((unhide KL).then kk); clear kk)
                    | (go_at_call 28; obtain ⟨ra, rc, rr⟩ := ((unhide Z7).pq.rd.grew ((unhide K11).then (unhide KL))).rt; refine (rparent_calls rr xn xs xu xv (unhide hparL)).mono ?_; rintro e V13 ⟨rfl, kk⟩; replace KL := hide ((unhide KL).then kk); clear kk rr))
                  all_goals
                    go_wp2
                    go_roundg (L'.length - (l + 1))
                    case measure => omega
                    case rel => exact ⟨l + 1, by omega, rfl, by go_num, (unhide K11).then (unhide KL)⟩
                · have b2 : decide ((l : Int) < (L'.length : Int)) = false := by simp; omega
                  have Z8 := hide ((unhide Z7).grew (unhide KR))
                  clear KR
                  go_wp2
                  go_roundg (len - (j + 1))
                  case measure => omega
                  case rel => exact ⟨j + 1, by omega, L', F', n', rfl, by go_num, (unhide Z8).pq, unhide hFB', by omega, by omega⟩
    · have b1 : decide ((j : Int) < (len : Int)) = false := by simp; omega
      go_wp2
      go_ret
      exact ⟨rfl, (unhide X).tm.tab.kp.below (Nat.le_refl _) (by simp)⟩
theorem rplay_walk (size : Int) (a : Option Addr) (len cap : Nat) (V : Nat → Nat → Value) (w : World) (_ : (Lit.int .i64 size).wf = true) (hR : Recs w a len 5 V) (y1 : Five V len) :
    Calls Try.prog 3 #[.int .i64 size, .slice a len cap] w fun e w' => e = .returned (.bool true) ∧ Below w.heap.size w w' := by
  by_cases h : len ≤ 40
  · exact rplay_in size a len cap V w h hR y1
  · exact rplay_long size a len cap w (by omega)
end Go.Proofs.Ythjhpcbhkcmghaa
