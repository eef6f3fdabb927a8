/- The walk of KillPlays. -/
import Derived.Test.YtdlkaaiedfikoaaKTwo8
import Derived.Test.YtdlkaaiedfikoaaKPlay5
import Derived.Test.YtdlkaaiedfikoaaKArgs
import Derived.Deep.DeepCutAuto
import Derived.Deep.CutBlock
namespace Go.Proofs.Ytdlkaaiedfikoaa
open Go.RowKit
set_option linter.unusedVariables false
set_option maxRecDepth 4000 in
set_option maxHeartbeats 400000 in
theorem kplay_long (a0 a1 : Option Addr) (len0 cap0 len1 cap1 : Nat) (w : World) (hl : 60 < len0 ∨ 100 < len1) :
    Calls Try.prog 4 #[.slice a0 len0 cap0, .slice a1 len1 cap1] w fun e w' => e = .returned (.bool true) ∧ Below w.heap.size w w' := by
  by_cases h1 : 60 < len0
  · have h2 : (60 : Int) < (len0 : Int) := by omega
    go_enter Try.func4, Try.ntmps4
    go_wp2_with fail
    refine (first_calls _).mono ?_
    rintro e W0 ⟨rfl, K0⟩
    go_wp2
    go_ret
    exact ⟨rfl, K0.below (Nat.le_refl _) (by simp)⟩
  · have h2 : decide ((60 : Int) < (len0 : Int)) = false := by simp; omega
    have h3 : (100 : Int) < (len1 : Int) := by omega
    go_enter Try.func4, Try.ntmps4
    go_wp2_with fail
    refine (first_calls _).mono ?_
    rintro e W0 ⟨rfl, K0⟩
    go_wp2
    go_ret
    exact ⟨rfl, K0.below (Nat.le_refl _) (by simp)⟩
/-- One thing's numbers. -/
theorem do3_cells {w w' : World} {a : Option Addr} {len : Nat} {V : Nat → Nat → Value} (h : Recs w a len 3 V) (k : Kp [] w w') {j : Nat} (hj : j < len) : ∃ b off, a = some ⟨b, off, none⟩ ∧ ∀ i, i < 3 → w'.cell? ⟨b, off + (j * 3 + i), none⟩ = some (V j i) := by
  obtain ⟨_, hz | ⟨b, off, rfl, hc⟩⟩ := h
  · omega
  · exact ⟨b, off, rfl, fun i hi => k.cell (hc j i hj hi)⟩
set_option maxRecDepth 4000 in
set_option maxHeartbeats 3000000 in
theorem kplay_in (a0 a1 : Option Addr) (len cap0 cap1 : Nat) (V : Nat → Nat → Value) (zs : List Int) (w : World) (hl : len ≤ 60) (hz : zs.length ≤ 100) (hR : Recs w a0 len 3 V)
   (y1 : ∀ i, i < len → (∃ n, V i 0 = .int .i64 n ∧ (Lit.int .i64 n).wf = true) ∧ (∃ n, V i 1 = .int .i64 n ∧ (Lit.int .i64 n).wf = true) ∧ (∃ n, V i 2 = .int .i64 n ∧ (Lit.int .i64 n).wf = true)) (hI : Ints .i64 w a1 zs) :
    Calls Try.prog 4 #[.slice a0 len cap0, .slice a1 zs.length cap1] w fun e w' => e = .returned (.bool true) ∧ Below w.heap.size w w' := by
  have h2 : decide ((60 : Int) < (len : Int)) = false := by simp; omega
  have h3 : decide ((100 : Int) < (zs.length : Int)) = false := by simp; omega
  have HR := hide hR
  have HI := hide hI
  replace y1 := hide y1
  clear hR hI
  go_enter Try.func4, Try.ntmps4
  go_wp2_with fail
  refine (first_calls _).mono ?_
  rintro e w1 ⟨rfl, K0⟩
  have X0 := hide (py_start (cap := cap1) K0 (unhide HI))
  obtain ⟨t, et⟩ : ∃ t, w1.heap.size = t := ⟨_, rfl⟩
  rw [et] at X0
  clear K0
  go_wp2_with fail
  generalize ((w1.alloc (.cells #[.map none] 26)).alloc (.cells #[.slice none 0 0] 46)).alloc (.cells #[.slice a1 zs.length cap1, .int .i64 0] 49) = w2 at *
  clear et
  go_loopg [9] len (fun m i wr => ∃ j : Nat, j ≤ len ∧ m = len - j ∧ i = .int .i64 j ∧ ∃ L k, Py w t (t + 1) (t + 1 + 1) a1 cap1 zs L L k wr ∧ L.length ≤ j ∧ k ≤ j * 20)
  case atStart => exact ⟨0, Nat.zero_le _, by omega, rfl, [], 0, unhide X0, by simp, by omega⟩
  case round =>
    obtain ⟨j, hj, rfl, rfl, L, k, hP, hLn, hkn⟩ := hrel
    clear X0
    by_cases hlt : j < len
    · have b1 : (j : Int) < (len : Int) := by omega
      have tj : ((j : Int)).toNat = j := Int.toNat_natCast j
      obtain ⟨⟨kd, e0, q0⟩, ⟨na, e1, q1⟩, ⟨nb, e2, q2⟩⟩ := unhide y1 j hlt
      obtain ⟨b, off, ea, ce⟩ := do3_cells (unhide HR) (Kp.refl [] w) hlt
      subst ea
      obtain ⟨⟨an, as1⟩, hpa⟩ : ∃ p, plA na = p := ⟨_, rfl⟩
      obtain ⟨⟨bn, bs⟩, hpb⟩ : ∃ p, plA nb = p := ⟨_, rfl⟩
      have ia := hide (plA_in na)
      have ib := hide (plA_in nb)
      rw [hpa] at ia
      rw [hpb] at ib
      have hC : Hid (∀ w', Kp [] w w' → w'.cell? ⟨b, off + j * 3, none⟩ = some (.int .i64 kd) ∧ w'.cell? ⟨b, off + j * 3 + 1, none⟩ = some (.int .i64 na) ∧ w'.cell? ⟨b, off + j * 3 + 2, none⟩ = some (.int .i64 nb)) := fun w' K => by
        refine ⟨K.cell ?_, K.cell ?_, K.cell ?_⟩
        · rw [← e0]; exact ce 0 (by omega)
        · rw [← e1]; exact ce 1 (by omega)
        · rw [← e2]; exact ce 2 (by omega)
      obtain ⟨d0, d1, d2⟩ := unhide hC _ hP.tab.kp
      replace hpa := hide hpa
      replace hpb := hide hpb
      replace hP := hide hP
      clear ce e0 e1 e2 q1 q2 q0
      go_wp2_with fail
      refine (at8_to _ (unhide hpa)).mono ?_
      rintro e W2 ⟨rfl, K2⟩
      have Z := hide (Pa8.mk ((unhide hP).grew (K2.alloc (.cells #[.int .i64 an, .int .i64 as1] 28))) (Bk.new W2 28 [.int .i64 an, .int .i64 as1]))
      clear d0 d1 d2
      obtain ⟨d0, d1, d2⟩ := unhide hC _ (unhide Z).py.tab.kp
      obtain ⟨A, hA⟩ : ∃ A, W2.heap.size = A := ⟨_, rfl⟩
      rw [hA] at Z
      obtain ⟨kk, hkk⟩ : ∃ kk, kd % 7 = kk := ⟨_, rfl⟩
      have kk0 : 0 ≤ kk ∧ kk < 7 := by omega
      replace hkk := hide hkk
      clear K2 hP
      go_wp2_with fail
      generalize W2.alloc (.cells #[.int .i64 an, .int .i64 as1] 28) = W3 at *
      clear hA
      refine (number_to _ _ _ _ (by omega) (by omega) (unhide hkk)).mono ?_
      rintro e wx ⟨rfl, rfl⟩
      go_upto_block 2 with fail
      go_cut [] (fun wy => ∃ L' k', L'.length ≤ j + 1 ∧ k' ≤ (j + 1) * 20 ∧ Py w t (t + 1) (t + 1 + 1) a1 cap1 zs L' L' k' wy)
      case first =>
        have hcase : kk = 5 ∨ kk = 6 ∨ ((kk == 5) = false ∧ (kk == 6) = false) := by
          by_cases h0 : kk = 5
          · exact .inl h0
          · by_cases h3 : kk = 6
            · exact .inr (.inl h3)
            · exact .inr (.inr ⟨beq_eq_false_iff_ne.2 h0, beq_eq_false_iff_ne.2 h3⟩)
        have c0 := (unhide Z).pa.cell (i := 0) rfl
        have c1 := (unhide Z).pa.cell (i := 1) rfl
        rcases hcase with rfl | rfl | ⟨f4, f5⟩
        case' inl =>
          obtain ⟨⟨G, L', cd⟩, hB⟩ := bothK_del (w := w) (t := t) (x := t + 1) (L := L) (unhide ia)
        case' inr.inl =>
          obtain ⟨⟨G, L', cd⟩, hB⟩ := bothK_rev (w := w) (t := t) (x := t + 1) (L := L) (unhide ia)
        iterate 2
          focus
            have hlen := hB.len
            simp only at hlen
            replace hB := hide hB
            have xlt : Hid (t + 1 < wx.heap.size) := by obtain ⟨ra, rc, rr⟩ := (unhide Z).py.rt; exact hide rr.head.lt
            go_wp2_with fail
            refine ((unhide hB).prog _ (unhide Z).py.tab).mono ?_
            rintro e W6 ⟨v6, rfl, O6, X6, T6⟩
            simp only at O6 X6 ⊢
            have Z1 := hide ((unhide Z).turned ((unhide Z).py.turnT T6 X6))
            obtain ⟨a6, n6, e6⟩ := O6.form
            subst e6
            replace O6 := hide O6
            clear X6 T6 Z c0 c1
            have c0 := (unhide Z1).pa.cell (i := 0) rfl
            have c1 := (unhide Z1).pa.cell (i := 1) rfl
            go_wp2_with fail
            obtain ⟨ra, rc, rr⟩ := (unhide Z1).py.rt
            refine ((unhide hB).doc _ ra rc rr).mono ?_
            rintro e W7 ⟨v7, rfl, O7, X7, K7⟩
            simp only at O7 X7 ⊢
            have O8 := hide ((unhide O6).kept K7 (fun g hg => by have := ((unhide O6).lt hg).1; have := unhide xlt; simp; omega))
            have Z2 := hide ((unhide Z1).turned ((unhide Z1).py.turnX K7 X7))
            obtain ⟨a7, n7, e7⟩ := O7.form
            subst e7
            replace O7 := hide O7
            clear X7 K7 rr O6 Z1 c0 c1
            go_wp2_with fail
            refine (sameobj_calls ((unhide O8).view (by omega)) ((unhide O7).view (by omega))).mono ?_
            rintro e W9 ⟨rfl, kq, rfl⟩
            have Z3 := hide ((unhide Z2).grew ((Kp.refl [] W7).drewN kq))
            clear O7 O8 Z2
            go_wp2
            go_meet
            case rel => exact ⟨L', k, by omega, by omega, (unhide Z3).py⟩
        clear c0 c1
        go_wp2_with fail
        refine (mkcap_calls (unhide Z).py.sq (by omega)).mono ?_
        rintro e W6 ⟨ck, co, cz, cb, cr, k', rfl, hS6, hk6, K6, hci⟩
        have Z1 := hide (((unhide Z).turned ((unhide Z).py.turnS K6 hS6)).grew ((Kp.refl [] W6).alloc (.cells #[.int .i64 ck, .int .i64 co, .int .i64 cz, .int .i64 cb, .int .i64 cr] 31)))
        have C1 := hide (Bk.new W6 31 [.int .i64 ck, .int .i64 co, .int .i64 cz, .int .i64 cb, .int .i64 cr])
        have nC : Hid (w.heap.size ≤ W6.heap.size) := ((unhide Z).turned ((unhide Z).py.turnS K6 hS6)).py.tab.kp.size
        obtain ⟨C, hC6⟩ : ∃ C, W6.heap.size = C := ⟨_, rfl⟩
        rw [hC6] at C1 nC
        clear hS6 K6 hci Z d0 d1 d2
        go_wp2_with fail
        generalize W6.alloc (.cells #[.int .i64 ck, .int .i64 co, .int .i64 cz, .int .i64 cb, .int .i64 cr] 31) = W7 at *
        clear hC6
        refine (next_calls (unhide Z1).py.sq (by omega) 3 (by omega) (by omega)).mono ?_
        rintro e W8 ⟨rfl, hS8, K8⟩
        have Q8 := (unhide Z1).py.turnS K8 hS8
        have Z2 := hide ((unhide Z1).turned Q8)
        have C2 := hide (Q8.2.cap (unhide C1))
        clear hS8 K8 Q8 Z1 C1
        obtain ⟨n3, hn3⟩ : ∃ n3, nx zs k' 3 = n3 := ⟨_, rfl⟩
        rw [hn3]
        clear hn3
        go_upto_if 60 with fail
        go_cut [] (fun wy => ∃ ek eo ez eb er k3, k3 ≤ k' + 2 ∧ Pa8 w t (t + 1) (t + 1 + 1) a1 cap1 zs L L k3 A an as1 wy ∧ Bk wy C 31 [.int .i64 ek, .int .i64 eo, .int .i64 ez, .int .i64 eb, .int .i64 er])
        case first =>
          cases hb3 : (n3 == 0)
          · go_wp2
            go_meet
            case rel => exact ⟨_, _, _, _, _, k' + 1, by omega, unhide Z2, unhide C2⟩
          · go_wp2_with fail
            refine (next_calls (unhide Z2).py.sq (by omega) 4 (by omega) (by omega)).mono ?_
            rintro e W8 ⟨rfl, hS8, K8⟩
            have Q8 := (unhide Z2).py.turnS K8 hS8
            have Z3 := hide ((unhide Z2).turned Q8)
            have C3 := hide (Q8.2.cap (unhide C2))
            clear hS8 K8 Q8 Z2 C2
            obtain ⟨n4, hn4⟩ : ∃ n4, nx zs (k' + 1) 4 = n4 := ⟨_, rfl⟩
            rw [hn4]
            have fC := (unhide C3).frozen
            obtain ⟨x0, x1, x2, x3, x4⟩ : W8.cell? ⟨C, 0, none⟩ = some (.int .i64 ck) ∧ W8.cell? ⟨C, 1, none⟩ = some (.int .i64 co) ∧ W8.cell? ⟨C, 2, none⟩ = some (.int .i64 cz) ∧ W8.cell? ⟨C, 3, none⟩ = some (.int .i64 cb) ∧ W8.cell? ⟨C, 4, none⟩ = some (.int .i64 cr) := ⟨(unhide C3).cell rfl, (unhide C3).cell rfl, (unhide C3).cell rfl, (unhide C3).cell rfl, (unhide C3).cell rfl⟩
            obtain ⟨o4, ho4⟩ : ∃ o4, IntKind.i64.wrap (1 + n4) = o4 := ⟨_, rfl⟩
            clear hn4
            go_wp2
            go_meet
            case rel => exact ⟨_, _, _, _, _, k' + 1 + 1, by omega, ⟨(unhide Z3).py.other (kp_five _ _ _ _ _) (unhide C3) (by decide) (by decide) (by decide) (by decide) (unhide nC), (unhide Z3).pa.kept (kp_five _ _ _ _ _) (by simpa using (unhide Z3).pa.apart (unhide C3) (by decide))⟩, bk_put5 (unhide C3) _ _ _ _ _⟩
        case rest =>
          obtain ⟨ek, eo, ez, eb, er, k3, hk3, hZ3, hC3⟩ := hcut
          clear Z2 C2 nC
          obtain ⟨d0, d1, d2⟩ := unhide hC _ hZ3.py.tab.kp
          have Z3 := hide hZ3
          have C3 := hide hC3
          clear hZ3 hC3
          go_wp2_with fail
          refine (at8_to _ (unhide hpb)).mono ?_
          rintro e W9 ⟨rfl, K9⟩
          have K10 := K9.alloc (.cells #[.int .i64 bn, .int .i64 bs] 28)
          have Z4 := hide (Pd8.mk ((unhide Z3).grew K10) ((unhide C3).kept K10 (by simp)) (Bk.new W9 28 [.int .i64 bn, .int .i64 bs]))
          obtain ⟨U, eU⟩ : ∃ U, W9.heap.size = U := ⟨_, rfl⟩
          have nU : Hid (w.heap.size ≤ U) := by have := (unhide Z3).py.tab.kp.size; have := K9.size; unfold Hid; omega
          have nA : Hid (A ≠ U) := by have := (unhide Z3).pa.lt; have := K9.size; unfold Hid; omega
          rw [eU] at Z4
          clear Z3 C3 K9 K10 d0 d1 d2
          obtain ⟨c0, c1, u0, u1, _⟩ := (unhide Z4).cells
          go_wp2_with fail
          generalize W9.alloc (.cells #[.int .i64 bn, .int .i64 bs] 28) = W10 at *
          clear eU
          obtain ⟨ra, rc, rr⟩ := (unhide Z4).pa.py.rt
          obtain ⟨bu, hbu⟩ : ∃ b, (lkS L bn bs).isSome = b := ⟨_, rfl⟩
          obtain ⟨gk, go, gz, gb, gr, hget⟩ := rget_any rr bn bs hbu
          refine hget.mono ?_
          rintro e W11 ⟨rfl, K11⟩
          have Z5 := hide ((unhide Z4).grew (K11.alloc (.cells #[.int .i64 gk, .int .i64 go, .int .i64 gz, .int .i64 gb, .int .i64 gr] 31)))
          clear rr hget K11 Z4 hbu c0 c1 u0 u1
          go_upto_if 77 with fail
          generalize W11.alloc (.cells #[.int .i64 gk, .int .i64 go, .int .i64 gz, .int .i64 gb, .int .i64 gr] 31) = W12 at *
          go_cut [] (fun wy => ∃ un us, PIn (un, us) ∧ Pd8 w t (t + 1) (t + 1 + 1) a1 cap1 zs L L k3 A C U an as1 ek eo ez eb er un us wy)
          case first =>
            cases bu
            · have fU := (unhide Z5).u.frozen
              obtain ⟨c0, c1, u0, u1, _⟩ := (unhide Z5).cells
              go_wp2
              go_meet
              case rel => exact ⟨0, 0, pin_zero, ⟨(unhide Z5).pa.py.other (kp_two _ _) (unhide Z5).u (by decide) (by decide) (by decide) (by decide) (unhide nU), (unhide Z5).pa.pa.kept (kp_two _ _) (by simpa using unhide nA)⟩, (unhide Z5).c.kept (kp_two _ _) (by simpa using (unhide Z5).c.apart (unhide Z5).u (by decide)), bk2 (unhide Z5).u⟩
            · go_wp2
              go_meet
              case rel => exact ⟨bn, bs, unhide ib, unhide Z5⟩
          case rest =>
            obtain ⟨un, us, hui, hZ6⟩ := hcut
            have Z6 := hide (hZ6.grew (Kp.refl [] _).drew)
            clear Z5 hZ6 ib
            replace hui := hide hui
            obtain ⟨v, L', hB⟩ := both_put (w := w) (t := t) (x := t + 1) (L := L) (k := ek) (o := eo) (z := ez) (b := eb) (r := er) (by omega) (unhide ia) (unhide hui)
            have hlen := hB.len
            replace hB := hide hB
            go_wp2_with fail
            go_region_held3 (fun w' => w'.cell? ⟨A, 0, none⟩ = some (.int .i64 an) ∧ w'.cell? ⟨A, 1, none⟩ = some (.int .i64 as1) ∧ w'.cell? ⟨U, 0, none⟩ = some (.int .i64 un) ∧ w'.cell? ⟨U, 1, none⟩ = some (.int .i64 us) ∧ w'.cell? ⟨C, 0, none⟩ = some (.int .i64 ek) ∧ w'.cell? ⟨C, 1, none⟩ = some (.int .i64 eo) ∧ w'.cell? ⟨C, 2, none⟩ = some (.int .i64 ez) ∧ w'.cell? ⟨C, 3, none⟩ = some (.int .i64 eb) ∧ w'.cell? ⟨C, 4, none⟩ = some (.int .i64 er)) (first | exact (unhide Z8).cells | exact (unhide Z7).cells | exact (unhide Z6).cells) (first
              | (go_at_call 11; refine ((unhide hB).prog _ (unhide Z6).pa.py.tab).mono ?_; rintro e W7 ⟨rfl, X7, T7⟩; have Z7 := hide ((unhide Z6).turned ((unhide Z6).pa.py.turnT T7 X7)); clear X7 T7)
              | (go_at_call 23; obtain ⟨ra, rc, rr⟩ := (unhide Z7).pa.py.rt; refine ((unhide hB).doc _ ra rc rr).mono ?_; rintro e W8 ⟨rfl, X8, K8⟩; have Z8 := hide ((unhide Z7).turned ((unhide Z7).pa.py.turnX K8 X8)); clear X8 K8 rr))
            all_goals
              go_wp2
              go_meet
              case rel => exact ⟨L', k3, by omega, by omega, (unhide Z8).pa.py⟩
      case rest =>
        obtain ⟨L', k', hL', hk', hP'⟩ := hcut
        clear Z hC d0 d1 d2 hkk ib ia hpa hpb
        have hsl := sel_len (fun _ => true) L'
        have Z' := hide hP'
        clear hP'
        go_wp2_with fail
        refine (tall (unhide Z').tab).mono ?_
        rintro e W7 ⟨v7, rfl, P7, K7⟩
        have Z7 := hide ((unhide Z').grew K7)
        obtain ⟨a7, c7, e7⟩ := P7.form
        subst e7
        replace P7 := hide P7
        clear K7 Z'
        go_wp2_with fail
        obtain ⟨ra, rc, rr⟩ := (unhide Z7).rt
        refine (rall_calls rr).mono ?_
        rintro e W8 ⟨v8, rfl, P8, K8⟩
        have P9 := hide ((unhide P7).kept K8 (by simp))
        have Z8 := hide ((unhide Z7).grew K8)
        obtain ⟨a8, c8, e8⟩ := P8.form
        subst e8
        replace P8 := hide P8
        clear rr K8 P7 Z7
        go_wp2_with fail
        refine (samepl_calls ((unhide P9).view (by omega)) ((unhide P8).view (by omega))).mono ?_
        rintro e W9 ⟨rfl, kq, rfl⟩
        have Z9 := hide ((unhide Z8).grew ((Kp.refl [] W8).drewN kq))
        clear P8 P9 Z8
        go_wp2
        go_roundg (len - (j + 1))
        case measure => omega
        case rel => exact ⟨j + 1, by omega, rfl, by go_num, L', k', unhide Z9, hL', hk'⟩
    · have b1 : decide ((j : Int) < (len : Int)) = false := by simp; omega
      replace hP := hide hP
      go_wp2
      go_ret
      exact ⟨rfl, (unhide hP).tab.kp.below (Nat.le_refl _) (by simp)⟩
theorem kplay_walk (a0 : Option Addr) (len0 cap0 : Nat) (V : Nat → Nat → Value) (a1 : Option Addr) (len1 cap1 : Nat) (zs : List Int) (w : World) (hR : Recs w a0 len0 3 V)
   (y1 : ∀ i, i < len0 → (∃ n, V i 0 = .int .i64 n ∧ (Lit.int .i64 n).wf = true) ∧ (∃ n, V i 1 = .int .i64 n ∧ (Lit.int .i64 n).wf = true) ∧ (∃ n, V i 2 = .int .i64 n ∧ (Lit.int .i64 n).wf = true)) (hl : zs.length = len1) (hI : Ints .i64 w a1 zs) :
    Calls Try.prog 4 #[.slice a0 len0 cap0, .slice a1 len1 cap1] w fun e w' => e = .returned (.bool true) ∧ Below w.heap.size w w' := by
  subst hl
  by_cases h : len0 ≤ 60 ∧ zs.length ≤ 100
  · exact kplay_in a0 a1 len0 cap0 cap1 V zs w h.1 h.2 hR y1 hI
  · exact kplay_long a0 a1 len0 cap0 zs.length cap1 w (by omega)
end Go.Proofs.Ytdlkaaiedfikoaa
