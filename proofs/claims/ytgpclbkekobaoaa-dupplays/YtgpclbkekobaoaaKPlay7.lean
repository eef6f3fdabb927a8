/- The walk of DupPlays. -/
import Derived.Test.YtgpclbkekobaoaaKTwo7
import Derived.Test.YtgpclbkekobaoaaKPlay5
namespace Go.Proofs.Ytgpclbkekobaoaa
open Go.RowKit
set_option linter.unusedVariables false
set_option maxRecDepth 4000 in
set_option maxHeartbeats 400000 in
theorem dplay_long (a0 a1 : Option Addr) (len0 cap0 len1 cap1 : Nat) (w : World) (hl : 40 < len0 ∨ 60 < len1) :
    Calls Try.prog 3 #[.slice a0 len0 cap0, .slice a1 len1 cap1] w fun e w' => e = .returned (.bool true) ∧ Below w.heap.size w w' := by
  by_cases h1 : 40 < len0
  · have h2 : (40 : Int) < (len0 : Int) := by omega
    go_enter Try.func3, Try.ntmps3
    go_wp2_with fail
    refine (first_calls _).mono ?_
    rintro e W0 ⟨rfl, K0⟩
    go_wp2
    go_ret
    exact ⟨rfl, K0.below (Nat.le_refl _) (by simp)⟩
  · have h2 : decide ((40 : Int) < (len0 : Int)) = false := by simp; omega
    have h3 : (60 : Int) < (len1 : Int) := by omega
    go_enter Try.func3, Try.ntmps3
    go_wp2_with fail
    refine (first_calls _).mono ?_
    rintro e W0 ⟨rfl, K0⟩
    go_wp2
    go_ret
    exact ⟨rfl, K0.below (Nat.le_refl _) (by simp)⟩
theorem u32_wrap (n : Int) : 0 ≤ IntKind.u32.wrap n ∧ IntKind.u32.wrap n < 4294967296 := by rw [IntKind.wrap_u32]; omega
theorem dp_cells {w : World} {t x p : Nat} {a : Option Addr} {cap : Nat} {zs : List Int} {L1 L2 : List Sl} {k A B : Nat} {an as1 bn bs : Int} {wx : World} {b off : Nat} {kd na nb nc : Int} (h : Pw7 w t x p a cap zs L1 L2 k A B an as1 bn bs wx) (hC : ∀ w', Kp [] w w' → w'.cell? ⟨b, off, none⟩ = some (.int .i64 kd) ∧ w'.cell? ⟨b, off + 1, none⟩ = some (.int .i64 na) ∧ w'.cell? ⟨b, off + 2, none⟩ = some (.int .i64 nb) ∧ w'.cell? ⟨b, off + 3, none⟩ = some (.int .i64 nc)) : wx.cell? ⟨A, 0, none⟩ = some (.int .i64 an) ∧ wx.cell? ⟨A, 1, none⟩ = some (.int .i64 as1) ∧ wx.cell? ⟨B, 0, none⟩ = some (.int .i64 bn) ∧ wx.cell? ⟨B, 1, none⟩ = some (.int .i64 bs) ∧ wx.cell? ⟨b, off + 3, none⟩ = some (.int .i64 nc) :=
  ⟨h.pa.cell rfl, h.pa.cell rfl, h.pb.cell rfl, h.pb.cell rfl, (hC _ h.py.tab.kp).2.2.2⟩
set_option maxRecDepth 8000 in
set_option maxHeartbeats 16000000 in
theorem dplay_in (a0 a1 : Option Addr) (len cap0 cap1 : Nat) (V : Nat → Nat → Value) (zs : List Int) (w : World) (hl : len ≤ 40) (hz : zs.length ≤ 60) (hR : Recs w a0 len 4 V)
   (y1 : ∀ i, i < len → (∃ n, V i 0 = .int .i64 n ∧ (Lit.int .i64 n).wf = true) ∧ (∃ n, V i 1 = .int .i64 n ∧ (Lit.int .i64 n).wf = true) ∧ (∃ n, V i 2 = .int .i64 n ∧ (Lit.int .i64 n).wf = true) ∧ (∃ n, V i 3 = .int .i64 n ∧ (Lit.int .i64 n).wf = true)) (hI : Ints .i64 w a1 zs) :
    Calls Try.prog 3 #[.slice a0 len cap0, .slice a1 zs.length cap1] w fun e w' => e = .returned (.bool true) ∧ Below w.heap.size w w' := by
  have h2 : decide ((40 : Int) < (len : Int)) = false := by simp; omega
  have h3 : decide ((60 : Int) < (zs.length : Int)) = false := by simp; omega
  have HR := hide hR
  have HI := hide hI
  replace y1 := hide y1
  clear hR hI
  go_enter Try.func3, Try.ntmps3
  go_wp2_with fail
  refine (first_calls _).mono ?_
  rintro e w1 ⟨rfl, K0⟩
  have X0 := hide (py_start (cap := cap1) K0 (unhide HI))
  obtain ⟨t, et⟩ : ∃ t, w1.heap.size = t := ⟨_, rfl⟩
  rw [et] at X0
  clear K0
  go_upto_block 0 with fail
  generalize ((w1.alloc (.cells #[.map none] 27)).alloc (.cells #[.slice none 0 0] 30)).alloc (.cells #[.slice a1 zs.length cap1, .int .i64 0] 33) = w2 at *
  clear et
  go_cut [] (fun wr => ∃ L k, Py w t (t + 1) (t + 1 + 1) a1 cap1 zs L L k wr ∧ L.length ≤ 6 ∧ k ≤ 1000)
  case first =>
    go_wp2_with fail
    go_loopg [9] 6 (fun m i wr => ∃ j : Nat, j ≤ 6 ∧ m = 6 - j ∧ i = .int .i64 j ∧ ∃ L k, Py w t (t + 1) (t + 1 + 1) a1 cap1 zs L L k wr ∧ L.length ≤ j ∧ k ≤ j * 20)
    case atStart => exact ⟨0, Nat.zero_le _, by omega, rfl, [], 0, unhide X0, by simp, by omega⟩
    case round =>
      obtain ⟨j, hj, rfl, rfl, L, k, hP, hLn, hkn⟩ := hrel
      clear X0
      by_cases hlt : j < 6
      · have b1 : (j : Int) < 6 := by omega
        have P3 := hide (hP.grew ((Kp.refl [] wr).alloc (.cells #[.int .i64 1, .int .i64 (j : Int)] 35)))
        have A3 := hide (Bk.new wr 35 [.int .i64 1, .int .i64 (j : Int)])
        obtain ⟨A, eA⟩ : ∃ A, wr.heap.size = A := ⟨_, rfl⟩
        rw [eA] at A3
        clear hP
        go_wp2_with fail
        generalize wr.alloc (.cells #[.int .i64 1, .int .i64 (j : Int)] 35) = W4 at *
        clear eA
        refine (mkcap_calls (unhide P3).sq (by omega)).mono ?_
        rintro e W5 ⟨ck, co, cz, cb, cr, k', rfl, hS5, hk5, K5, hci⟩
        have Q5 := (unhide P3).turnS K5 hS5
        have Z := hide (Pu7.mk (Q5.1.grew ((Kp.refl [] W5).alloc (.cells #[.int .i64 ck, .int .i64 co, .int .i64 cz, .int .i64 cb, .int .i64 cr] 37))) ((Q5.2.box (unhide A3)).alloc (.cells #[.int .i64 ck, .int .i64 co, .int .i64 cz, .int .i64 cb, .int .i64 cr] 37)) (Bk.new W5 37 [.int .i64 ck, .int .i64 co, .int .i64 cz, .int .i64 cb, .int .i64 cr]))
        have hin : Hid (PIn (1, (j : Int))) := pin7 (by omega) (by omega) (by omega) (by omega)
        obtain ⟨C, eC⟩ : ∃ C, W5.heap.size = C := ⟨_, rfl⟩
        rw [eC] at Z
        clear hS5 K5 Q5 P3 A3 hci
        unfold capV
        go_wp2_with fail
        generalize W5.alloc (.cells #[.int .i64 ck, .int .i64 co, .int .i64 cz, .int .i64 cb, .int .i64 cr] 37) = W6 at *
        clear eC
        have Z7 := hide ((unhide Z).grew (Kp.refl [] _).drew)
        clear Z
        obtain ⟨v, L', hB⟩ := both_put (w := w) (t := t) (x := t + 1) (L := L) (k := ck) (o := co) (z := cz) (b := cb) (r := cr) (by omega) (unhide hin) pin_zero
        have hlen := hB.len
        replace hB := hide hB
        go_region_held3 (fun w' => w'.cell? ⟨A, 0, none⟩ = some (.int .i64 1) ∧ w'.cell? ⟨A, 1, none⟩ = some (.int .i64 (j : Int)) ∧ w'.cell? ⟨C, 0, none⟩ = some (.int .i64 ck) ∧ w'.cell? ⟨C, 1, none⟩ = some (.int .i64 co) ∧ w'.cell? ⟨C, 2, none⟩ = some (.int .i64 cz) ∧ w'.cell? ⟨C, 3, none⟩ = some (.int .i64 cb) ∧ w'.cell? ⟨C, 4, none⟩ = some (.int .i64 cr)) (first | exact (unhide Z9).cells | exact (unhide Z8).cells | exact (unhide Z7).cells) (first
          | (go_at_call 9; refine ((unhide hB).prog _ (unhide Z7).py.tab).mono ?_; rintro e W8 ⟨rfl, X8, T8⟩; have Z8 := hide ((unhide Z7).turned ((unhide Z7).py.turnT T8 X8)); clear X8 T8)
          | (go_at_call 10; obtain ⟨ra, rc, rr⟩ := (unhide Z8).py.rt; refine ((unhide hB).doc _ ra rc rr).mono ?_; rintro e W9 ⟨rfl, X9, K9⟩; have Z9 := hide ((unhide Z8).turned ((unhide Z8).py.turnX K9 X9)); clear X9 K9 rr))
        all_goals
          cases v
          all_goals
            go_wp2
            go_roundg (6 - (j + 1))
            case measure => omega
            case rel => exact ⟨j + 1, by omega, rfl, by go_num, L', _, (unhide Z9).py, by omega, by omega⟩
      · have b1 : decide ((j : Int) < 6) = false := by simp; omega
        go_wp2
        go_meet
        case rel => exact ⟨L, k, hP, by omega, by omega⟩
  case rest =>
    obtain ⟨L0, k0, hP0, hL0, hk0⟩ := hcut
    clear X0
    replace hP0 := hide hP0
    go_wp2_with fail
    go_loopg [12] len (fun m i wr => ∃ j : Nat, j ≤ len ∧ m = len - j ∧ i = .int .i64 j ∧ ∃ L, Py w t (t + 1) (t + 1 + 1) a1 cap1 zs L L k0 wr ∧ L.length ≤ 6 + j)
    case atStart => exact ⟨0, Nat.zero_le _, by omega, rfl, L0, unhide hP0, by omega⟩
    case round =>
      obtain ⟨j, hj, rfl, rfl, L, hP, hLn⟩ := hrel
      clear hP0
      by_cases hlt : j < len
      · have b1 : (j : Int) < (len : Int) := by omega
        have tj : ((j : Int)).toNat = j := Int.toNat_natCast j
        obtain ⟨⟨kd, e0, q0⟩, ⟨na, e1, q1⟩, ⟨nb, e2, q2⟩, ⟨nc, e3, q3⟩⟩ := unhide y1 j hlt
        obtain ⟨b, off, ea, ce⟩ := do_cells (unhide HR) (Kp.refl [] w) hlt
        subst ea
        have ia : Hid (PIn (1, na)) := ⟨in64_of (x := 1) (by decide) (by decide), q1⟩
        have ib : Hid (PIn (1, nb)) := ⟨in64_of (x := 1) (by decide) (by decide), q2⟩
        have ic : Hid (In64 nc) := q3
        have hC : Hid (∀ w', Kp [] w w' → w'.cell? ⟨b, off + j * 4, none⟩ = some (.int .i64 kd) ∧ w'.cell? ⟨b, off + j * 4 + 1, none⟩ = some (.int .i64 na) ∧ w'.cell? ⟨b, off + j * 4 + 2, none⟩ = some (.int .i64 nb) ∧ w'.cell? ⟨b, off + j * 4 + 3, none⟩ = some (.int .i64 nc)) := fun w' K => by
          refine ⟨K.cell ?_, K.cell ?_, K.cell ?_, K.cell ?_⟩
          · rw [← e0]; exact ce 0 (by omega)
          · rw [← e1]; exact ce 1 (by omega)
          · rw [← e2]; exact ce 2 (by omega)
          · rw [← e3]; exact ce 3 (by omega)
        obtain ⟨d0, d1, d2, d3⟩ := unhide hC _ hP.tab.kp
        replace hP := hide hP
        clear ce e0 e1 e2 e3 q1 q2 q3 q0
        obtain ⟨kk, hkk⟩ : ∃ kk, kd % 4 = kk := ⟨_, rfl⟩
        have kk0 : 0 ≤ kk ∧ kk < 4 := by omega
        replace hkk := hide hkk
        have Z : Hid (Pw7 w t (t + 1) (t + 1 + 1) a1 cap1 zs L L k0 wr.heap.size (wr.heap.size + 1) 1 na 1 nb ((wr.alloc (.cells #[.int .i64 1, .int .i64 na] 35)).alloc (.cells #[.int .i64 1, .int .i64 nb] 35))) := ⟨(unhide hP).grew (((Kp.refl [] wr).alloc _).alloc _), (Bk.new wr 35 [.int .i64 1, .int .i64 na]).alloc _, Bk.next (p := wr.heap.size + 1) _ 35 [.int .i64 1, .int .i64 nb] (by simp)⟩
        obtain ⟨g0, g1, g2, g3⟩ := unhide hC _ ((unhide hP).tab.kp.alloc (.cells #[.int .i64 1, .int .i64 na] 35))
        obtain ⟨h0, h1, h2', h3'⟩ := unhide hC _ (((unhide hP).tab.kp.alloc (.cells #[.int .i64 1, .int .i64 na] 35)).alloc (.cells #[.int .i64 1, .int .i64 nb] 35))
        clear hP
        go_wp2_with fail
        clear g0 g1 g2 g3 h0 h1 h2' h3' d0 d1 d2 d3
        generalize (wr.alloc (.cells #[.int .i64 1, .int .i64 na] 35)).alloc (.cells #[.int .i64 1, .int .i64 nb] 35) = W5 at *
        generalize wr.heap.size = A at *
        refine (number_to _ _ _ _ (by omega) (by omega) (unhide hkk)).mono ?_
        rintro e wx ⟨rfl, rfl⟩
        obtain ⟨B, eB⟩ : ∃ B, A + 1 = B := ⟨_, rfl⟩
        rw [eB] at Z ⊢
        clear eB
        go_upto_block 4 with fail
        go_cut [15, 16] (fun e f wy => ∃ c L', e = .int .i64 c ∧ f = .int .i64 c ∧ L'.length ≤ 6 + (j + 1) ∧ Pw7 w t (t + 1) (t + 1 + 1) a1 cap1 zs L' L' k0 A B 1 na 1 nb wy)
        case first =>
          have hcase : kk = 2 ∨ kk = 3 ∨ ((kk == 2) = false ∧ (kk == 3) = false) := by
            by_cases h0 : kk = 2
            · exact .inl h0
            · by_cases h3 : kk = 3
              · exact .inr (.inl h3)
              · exact .inr (.inr ⟨beq_eq_false_iff_ne.2 h0, beq_eq_false_iff_ne.2 h3⟩)
          rcases hcase with rfl | rfl | ⟨f4, f5⟩
          case' inl =>
            obtain ⟨c, L', hB⟩ := bothI_mint (w := w) (t := t) (x := t + 1) (L := L) (m := IntKind.u32.wrap nc) (by omega) (unhide ia) (unhide ib) (u32_wrap nc)
          case' inr.inl =>
            obtain ⟨c, L', hB⟩ := bothI_move (w := w) (t := t) (x := t + 1) (L := L) (by omega) (unhide ia) (unhide ib)
          case' inr.inr =>
            obtain ⟨c, L', hB⟩ := bothI_copy (w := w) (t := t) (x := t + 1) (L := L) (by omega) (unhide ia) (unhide ib) (unhide ic)
          all_goals
            have hlen := hB.len
            replace hB := hide hB
          case inl =>
            have Z0 := hide ((unhide Z).grew (Kp.refl [] wx).drew)
            clear Z
            go_wp2_with fail
            go_region_held3 (fun w' => w'.cell? ⟨A, 0, none⟩ = some (.int .i64 1) ∧ w'.cell? ⟨A, 1, none⟩ = some (.int .i64 na) ∧ w'.cell? ⟨B, 0, none⟩ = some (.int .i64 1) ∧ w'.cell? ⟨B, 1, none⟩ = some (.int .i64 nb) ∧ w'.cell? ⟨b, off + j * 4 + 3, none⟩ = some (.int .i64 nc)) (first | exact dp_cells (unhide Z1) (unhide hC) | exact dp_cells (unhide Z0) (unhide hC)) (first
              | (go_at_call 12; refine ((unhide hB).prog _ (unhide Z0).py.tab).mono ?_; rintro e W6 ⟨rfl, X6, T6⟩; have Z1 := hide ((unhide Z0).turned ((unhide Z0).py.turnT T6 X6)); clear X6 T6))
            have Z2 := hide ((unhide Z1).grew (Kp.refl [] W6).drew)
            go_wp2_with fail
            go_region_held3 (fun w' => w'.cell? ⟨A, 0, none⟩ = some (.int .i64 1) ∧ w'.cell? ⟨A, 1, none⟩ = some (.int .i64 na) ∧ w'.cell? ⟨B, 0, none⟩ = some (.int .i64 1) ∧ w'.cell? ⟨B, 1, none⟩ = some (.int .i64 nb) ∧ w'.cell? ⟨b, off + j * 4 + 3, none⟩ = some (.int .i64 nc)) (first | exact dp_cells (unhide Z3) (unhide hC) | exact dp_cells (unhide Z2) (unhide hC)) (first
              | (go_at_call 13; obtain ⟨ra, rc, rr⟩ := (unhide Z2).py.rt; refine ((unhide hB).doc _ ra rc rr).mono ?_; rintro e W7 ⟨rfl, X7, K7⟩; have Z3 := hide ((unhide Z2).turned ((unhide Z2).py.turnX K7 X7)); clear X7 K7 rr))
            go_wp2
            go_meet
            case rel => exact ⟨c, L', rfl, rfl, by omega, unhide Z3⟩
          case inr.inl =>
            obtain ⟨c0, c1, c2, c3⟩ := (unhide Z).cells
            go_wp2_with fail
            refine ((unhide hB).prog _ (unhide Z).py.tab).mono ?_
            rintro e W6 ⟨rfl, X6, T6⟩
            have Z1 := hide ((unhide Z).turned ((unhide Z).py.turnT T6 X6))
            clear X6 T6 Z c0 c1 c2 c3
            obtain ⟨c0, c1, c2, c3⟩ := (unhide Z1).cells
            go_wp2_with fail
            obtain ⟨ra, rc, rr⟩ := (unhide Z1).py.rt
            refine ((unhide hB).doc _ ra rc rr).mono ?_
            rintro e W7 ⟨rfl, X7, K7⟩
            have Z3 := hide ((unhide Z1).turned ((unhide Z1).py.turnX K7 X7))
            clear X7 K7 rr
            go_wp2
            go_meet
            case rel => exact ⟨c, L', rfl, rfl, by omega, unhide Z3⟩
          case inr.inr =>
            have Z0 := hide ((unhide Z).grew (Kp.refl [] wx).drew)
            clear Z
            go_wp2_with fail
            go_region_held3 (fun w' => w'.cell? ⟨A, 0, none⟩ = some (.int .i64 1) ∧ w'.cell? ⟨A, 1, none⟩ = some (.int .i64 na) ∧ w'.cell? ⟨B, 0, none⟩ = some (.int .i64 1) ∧ w'.cell? ⟨B, 1, none⟩ = some (.int .i64 nb) ∧ w'.cell? ⟨b, off + j * 4 + 3, none⟩ = some (.int .i64 nc)) (first | exact dp_cells (unhide Z1) (unhide hC) | exact dp_cells (unhide Z0) (unhide hC)) (first
              | (go_at_call 16; refine ((unhide hB).prog _ (unhide Z0).py.tab).mono ?_; rintro e W6 ⟨rfl, X6, T6⟩; have Z1 := hide ((unhide Z0).turned ((unhide Z0).py.turnT T6 X6)); clear X6 T6))
            have Z2 := hide ((unhide Z1).grew (Kp.refl [] W6).drew)
            go_wp2_with fail
            go_region_held3 (fun w' => w'.cell? ⟨A, 0, none⟩ = some (.int .i64 1) ∧ w'.cell? ⟨A, 1, none⟩ = some (.int .i64 na) ∧ w'.cell? ⟨B, 0, none⟩ = some (.int .i64 1) ∧ w'.cell? ⟨B, 1, none⟩ = some (.int .i64 nb) ∧ w'.cell? ⟨b, off + j * 4 + 3, none⟩ = some (.int .i64 nc)) (first | exact dp_cells (unhide Z3) (unhide hC) | exact dp_cells (unhide Z2) (unhide hC)) (first
              | (go_at_call 17; obtain ⟨ra, rc, rr⟩ := (unhide Z2).py.rt; refine ((unhide hB).doc _ ra rc rr).mono ?_; rintro e W7 ⟨rfl, X7, K7⟩; have Z3 := hide ((unhide Z2).turned ((unhide Z2).py.turnX K7 X7)); clear X7 K7 rr))
            go_wp2
            go_meet
            case rel => exact ⟨c, L', rfl, rfl, by omega, unhide Z3⟩
        case rest =>
          obtain ⟨c, L', rfl, rfl, hL', Z'⟩ := hcut
          clear Z hC hkk ia ib ic
          have Y' := hide Z'.py
          clear Z'
          obtain ⟨ra, rc, rr⟩ := (unhide Y').rt
          obtain ⟨ps, hps⟩ : ∃ ps, sel (fun _ => true) L' = ps := ⟨_, rfl⟩
          have hpl : ps.length ≤ 50 := by
            have := sel_len (fun _ => true) L'
            rw [hps] at this
            omega
          have hpi : Hid (∀ q ∈ ps, PIn q) := fun q hq => by
            rw [← hps] at hq
            unfold sel at hq
            obtain ⟨y, hy, rfl⟩ := List.mem_map.1 hq
            exact pin_ok ((unhide Y').tab.fo.ok y (List.mem_filter.1 hy).1)
          replace rr := hide rr
          go_wp2_with fail
          refine (rall_calls (unhide rr)).mono ?_
          rintro e W6 ⟨v6, rfl, P6, K6⟩
          rw [hps] at P6
          obtain ⟨a6, c6, e6⟩ := P6.form
          subst e6
          replace P6 := hide P6
          replace K6 := hide K6
          clear rr
          go_wp2_with fail
          refine (tall ((unhide Y').tab.grew (unhide K6))).mono ?_
          rintro e W7 ⟨v7, rfl, P7, K7⟩
          rw [hps] at P7
          have P8 := hide ((unhide P6).kept K7 (by simp))
          have K8 := hide ((unhide K6).then K7)
          replace P7 := hide P7
          clear P6 K6 K7
          go_wp2_with fail
          refine (samepl_calls ((unhide P7).view (by omega)) ((unhide P8).view (by omega))).mono ?_
          rintro e W9 ⟨rfl, kq, rfl⟩
          have P9 := hide ((unhide P8).kept ((Kp.refl [] W7).drewN kq) (by simp))
          have Z5 := hide ((unhide Y').grew ((unhide K8).drewN kq))
          clear P7 P8 K8 Y' hps
          go_wp2_with fail
          generalize W7.drewN kq = W5 at *
          go_loopg [18] ps.length (fun m i wr => ∃ l : Nat, l ≤ ps.length ∧ m = ps.length - l ∧ i = .int .i64 l ∧ Kp [] W5 wr)
          case atStart => exact ⟨0, Nat.zero_le _, by omega, rfl, Kp.refl _ _⟩
          case round =>
            obtain ⟨l, hl1, rfl, rfl, KR⟩ := hrel
            by_cases hlt2 : l < ps.length
            · have b2 : (l : Int) < (ps.length : Int) := by omega
              have tl : ((l : Int)).toNat = l := Int.toNat_natCast l
              obtain ⟨⟨qn, qs⟩, hq⟩ : ∃ q, ps[l]? = some q := ⟨_, List.getElem?_eq_getElem hlt2⟩
              have hqi := hide (unhide hpi _ (List.mem_of_getElem? hq))
              obtain ⟨g, hg⟩ : ∃ g, a6 = some ⟨g, 0, none⟩ := by
                rcases (unhide P9).addr with ⟨_, e⟩ | ⟨g, cap, e, _⟩
                · rw [e] at hlt2; simp at hlt2
                · cases e; exact ⟨g, rfl⟩
              subst hg
              have hX : Hid (∀ w', Kp [] W5 w' → w'.cell? ⟨g, l * 2, none⟩ = some (.int .i64 qn) ∧ w'.cell? ⟨g, l * 2 + 1, none⟩ = some (.int .i64 qs)) := fun w' K => by
                obtain ⟨x0, x1⟩ := (unhide P9).at hq
                exact ⟨K.cell x0, K.cell x1⟩
              obtain ⟨x0, x1⟩ := unhide hX _ KR
              replace KR := hide KR
              replace hq := hide hq
              obtain ⟨ck, co, cz, cb, cr2, hcap⟩ := capO_form (lookS L' qn qs)
              obtain ⟨is, his⟩ : ∃ is, (lookS L' qn qs).isSome = is := ⟨_, rfl⟩
              obtain ⟨⟨pu, pv⟩, hpar⟩ : ∃ q, parL L' qn qs = q := ⟨_, rfl⟩
              have hparO := hide (parL_is L' qn qs)
              rw [hpar] at hparO
              replace hpar := hide hpar
              replace hcap := hide hcap
              replace his := hide his
              go_wp2_with fail
              refine (tget ((unhide Z5).tab.grew (unhide KR)) (unhide hqi)).mono ?_
              rintro e W6 ⟨he, K6⟩
              rw [unhide hcap, unhide his] at he
              subst he
              have D6 := hide (Bk.new W6 37 [.int .i64 ck, .int .i64 co, .int .i64 cz, .int .i64 cb, .int .i64 cr2])
              have K7 := hide (((unhide KR).then K6).alloc (.cells #[.int .i64 ck, .int .i64 co, .int .i64 cz, .int .i64 cb, .int .i64 cr2] 37))
              clear KR K6 x0 x1
              obtain ⟨x0, x1⟩ := unhide hX _ (unhide K7)
              obtain ⟨D, hD⟩ : ∃ D, W6.heap.size = D := ⟨_, rfl⟩
              rw [hD] at D6
              go_wp2_with fail
              generalize W6.alloc (.cells #[.int .i64 ck, .int .i64 co, .int .i64 cz, .int .i64 cb, .int .i64 cr2] 37) = W7 at *
              clear hD
              obtain ⟨ra, rc, rr⟩ := ((unhide Z5).grew (unhide K7)).rt
              refine (rget_to rr qn qs).mono ?_
              rintro e W8 ⟨he, K8⟩
              rw [unhide hcap, unhide his] at he
              subst he
              have E9 := hide (Bk.new W8 37 [.int .i64 ck, .int .i64 co, .int .i64 cz, .int .i64 cb, .int .i64 cr2])
              have D9 := hide (((unhide D6).kept K8 (by simp)).alloc (.cells #[.int .i64 ck, .int .i64 co, .int .i64 cz, .int .i64 cb, .int .i64 cr2] 37))
              have K9 := hide (((unhide K7).then K8).alloc (.cells #[.int .i64 ck, .int .i64 co, .int .i64 cz, .int .i64 cb, .int .i64 cr2] 37))
              obtain ⟨E, hE⟩ : ∃ E, W8.heap.size = E := ⟨_, rfl⟩
              rw [hE] at E9
              clear rr K8 K7 D6 x0 x1
              go_wp2_with fail
              generalize W8.alloc (.cells #[.int .i64 ck, .int .i64 co, .int .i64 cz, .int .i64 cb, .int .i64 cr2] 37) = W9 at *
              clear hE
              have hS : Hid (∀ w', Kp [] W9 w' → (fun w' => w'.cell? ⟨D, 0, none⟩ = some (.int .i64 ck) ∧ w'.cell? ⟨D, 1, none⟩ = some (.int .i64 co) ∧ w'.cell? ⟨D, 2, none⟩ = some (.int .i64 cz) ∧ w'.cell? ⟨D, 3, none⟩ = some (.int .i64 cb) ∧ w'.cell? ⟨D, 4, none⟩ = some (.int .i64 cr2) ∧ w'.cell? ⟨E, 0, none⟩ = some (.int .i64 ck) ∧ w'.cell? ⟨E, 1, none⟩ = some (.int .i64 co) ∧ w'.cell? ⟨E, 2, none⟩ = some (.int .i64 cz) ∧ w'.cell? ⟨E, 3, none⟩ = some (.int .i64 cb) ∧ w'.cell? ⟨E, 4, none⟩ = some (.int .i64 cr2) ∧ w'.cell? ⟨g, l * 2, none⟩ = some (.int .i64 qn) ∧ w'.cell? ⟨g, l * 2 + 1, none⟩ = some (.int .i64 qs)) w') := fun w' k9 => by
                obtain ⟨x0, x1⟩ := unhide hX _ ((unhide K9).then k9)
                have D := (unhide D9).kept k9 (by simp)
                have E := (unhide E9).kept k9 (by simp)
                exact ⟨D.cell rfl, D.cell rfl, D.cell rfl, D.cell rfl, D.cell rfl, E.cell rfl, E.cell rfl, E.cell rfl, E.cell rfl, E.cell rfl, x0, x1⟩
              have ZY := hide ((unhide Z5).grew (unhide K9))
              have KK := hide ((Kp.refl [] W9).drew)
              clear D9 E9 hX hpi hq his hcap
              go_region_held3 (fun w' => w'.cell? ⟨D, 0, none⟩ = some (.int .i64 ck) ∧ w'.cell? ⟨D, 1, none⟩ = some (.int .i64 co) ∧ w'.cell? ⟨D, 2, none⟩ = some (.int .i64 cz) ∧ w'.cell? ⟨D, 3, none⟩ = some (.int .i64 cb) ∧ w'.cell? ⟨D, 4, none⟩ = some (.int .i64 cr2) ∧ w'.cell? ⟨E, 0, none⟩ = some (.int .i64 ck) ∧ w'.cell? ⟨E, 1, none⟩ = some (.int .i64 co) ∧ w'.cell? ⟨E, 2, none⟩ = some (.int .i64 cz) ∧ w'.cell? ⟨E, 3, none⟩ = some (.int .i64 cb) ∧ w'.cell? ⟨E, 4, none⟩ = some (.int .i64 cr2) ∧ w'.cell? ⟨g, l * 2, none⟩ = some (.int .i64 qn) ∧ w'.cell? ⟨g, l * 2 + 1, none⟩ = some (.int .i64 qs)) (exact unhide hS _ (unhide KK)) (first
                | (go_at_call 24; obtain ⟨ra, rc, rr⟩ := ((unhide ZY).grew (unhide KK)).rt; refine (rparent_calls rr qn qs pu pv (unhide hpar)).mono ?_; rintro e V ⟨rfl, kk⟩; replace KK := hide ((unhide KK).then kk); clear kk rr)
                | (go_at_call 23; refine (tparent ((unhide ZY).grew (unhide KK)).tab (unhide hqi) (unhide hparO)).mono ?_; rintro e V ⟨rfl, kk⟩; replace KK := hide ((unhide KK).then kk); clear kk))
              all_goals
                go_wp2
                go_roundg (ps.length - (l + 1))
                case measure => omega
                case rel => exact ⟨l + 1, by omega, rfl, by go_num, (unhide K9).then (unhide KK)⟩
            · have b2 : decide ((l : Int) < (ps.length : Int)) = false := by simp; omega
              have Z6 := hide ((unhide Z5).grew KR)
              clear KR
              go_wp2
              go_roundg (len - (j + 1))
              case measure => omega
              case rel => exact ⟨j + 1, by omega, rfl, by go_num, L', unhide Z6, hL'⟩
      · have b1 : decide ((j : Int) < (len : Int)) = false := by simp; omega
        replace hP := hide hP
        go_wp2
        go_ret
        exact ⟨rfl, (unhide hP).tab.kp.below (Nat.le_refl _) (by simp)⟩
theorem dplay_walk (a0 : Option Addr) (len0 cap0 : Nat) (V : Nat → Nat → Value) (a1 : Option Addr) (len1 cap1 : Nat) (zs : List Int) (w : World) (hR : Recs w a0 len0 4 V)
   (y1 : ∀ i, i < len0 → (∃ n, V i 0 = .int .i64 n ∧ (Lit.int .i64 n).wf = true) ∧ (∃ n, V i 1 = .int .i64 n ∧ (Lit.int .i64 n).wf = true) ∧ (∃ n, V i 2 = .int .i64 n ∧ (Lit.int .i64 n).wf = true) ∧ (∃ n, V i 3 = .int .i64 n ∧ (Lit.int .i64 n).wf = true)) (hl : zs.length = len1) (hI : Ints .i64 w a1 zs) :
    Calls Try.prog 3 #[.slice a0 len0 cap0, .slice a1 len1 cap1] w fun e w' => e = .returned (.bool true) ∧ Below w.heap.size w w' := by
  subst hl
  by_cases h : len0 ≤ 40 ∧ zs.length ≤ 60
  · exact dplay_in a0 a1 len0 cap0 cap1 V zs w h.1 h.2 hR y1 hI
  · exact dplay_long a0 a1 len0 cap0 zs.length cap1 w (by omega)
end Go.Proofs.Ytgpclbkekobaoaa
