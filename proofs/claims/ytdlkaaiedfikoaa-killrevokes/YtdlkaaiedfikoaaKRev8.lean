/- The walk of KillRevokes. -/
import Derived.Test.YtdlkaaiedfikoaaKRevM8
import Derived.Test.YtdlkaaiedfikoaaKSameO
import Derived.Test.YtdlkaaiedfikoaaKArgs
import Derived.Test.YtdlkaaiedfikoaaKRef
import Derived.Deep.DeepCutAuto
import Derived.Deep.CutBlock
namespace Go.Proofs.Ytdlkaaiedfikoaa
open Go.RowKit
set_option linter.unusedVariables false
set_option maxRecDepth 4000 in
set_option maxHeartbeats 400000 in
theorem revokes_long (a : Option Addr) (len cap : Nat) (n : Int) (w : World) (hl : 30 < len) :
    Calls Try.prog 6 #[.slice a len cap, .int .i64 n] w fun e w' => e = .returned (.bool true) ∧ Below w.heap.size w w' := by
  have h2 : (30 : Int) < (len : Int) := by omega
  go_enter Try.func6, Try.ntmps6
  go_wp2_with fail
  refine (first_calls _).mono ?_
  rintro e W0 ⟨rfl, K0⟩
  go_wp2
  go_ret
  exact ⟨rfl, K0.below (Nat.le_refl _) (by simp)⟩
/-- On the way: the table, the list of all places. -/
structure Dre (w : World) (t B : Nat) (zs : List Int) (j : Nat) (v : Value) (wr : World) : Prop where
  tab : TabIn w t (rvL zs j) wr
  row : Pl B wr v (rvA j)
  tlt : t < B
  hw : w.heap.size ≤ t
  sz : B ≤ wr.heap.size
theorem Dre.grew {w : World} {t B : Nat} {zs : List Int} {j : Nat} {v : Value} {wr wy : World} (h : Dre w t B zs j v wr) (k : Kp [] wr wy) : Dre w t B zs j v wy := ⟨h.tab.grew k, h.row.kept k (by simp), h.tlt, h.hw, Nat.le_trans h.sz k.size⟩
theorem PV.at {w : World} {a : Option Addr} {n c i : Nat} {ps : List (Int × Int)} {p : Int × Int} (h : PV w (.slice a n c) ps) (hq : ps[i]? = some p) : ∃ g, a = some ⟨g, 0, none⟩ ∧ w.cell? ⟨g, i * 2, none⟩ = some (.int .i64 p.1) ∧ w.cell? ⟨g, i * 2 + 1, none⟩ = some (.int .i64 p.2) := by
  obtain ⟨a', c', e, _, hz⟩ := h
  have hi := (List.getElem?_eq_some_iff.1 hq).1
  obtain ⟨g, ha, hc⟩ := hz.resolve_left (by omega)
  cases e
  exact ⟨g, ha, hc i p hq⟩
set_option maxRecDepth 4000 in
set_option maxHeartbeats 4000000 in
theorem revokes_in (a : Option Addr) (zs : List Int) (cap : Nat) (which : Int) (w : World) (hl : zs.length ≤ 30) (hI : Ints .i64 w a zs) :
    Calls Try.prog 6 #[.slice a zs.length cap, .int .i64 which] w fun e w' => e = .returned (.bool true) ∧ Below w.heap.size w w' := by
  have h2 : decide ((30 : Int) < (zs.length : Int)) = false := by simp; omega
  have HI := hide hI
  clear hI
  go_enter Try.func6, Try.ntmps6
  go_wp2_with fail
  refine (first_calls _).mono ?_
  rintro e W0 ⟨rfl, K0⟩
  have X0 := hide (TabIn.of (T := []) (w := w) K0 rfl (Kp.refl [] (W0.alloc (.cells #[.map none] 26))))
  have hwt : Hid (w.heap.size ≤ W0.heap.size) := K0.size
  obtain ⟨t, et⟩ : ∃ t, W0.heap.size = t := ⟨_, rfl⟩
  have hB : Hid ((W0.alloc (.cells #[.map none] 26)).heap.size = t + 1) := by unfold Hid; simp [et]
  rw [et] at X0 hwt
  clear K0
  go_wp2_with fail
  generalize W0.alloc (.cells #[.map none] 26) = w2 at *
  clear et
  have D0 : Hid (Dre w t (t + 1) zs 0 (.slice none 0 0) w2) := ⟨unhide X0, Pl.nil _ _, by omega, unhide hwt, by have := unhide hB; omega⟩
  clear X0 hwt hB
  go_loopg [7, 8] zs.length (fun m v iv wr => ∃ j : Nat, j ≤ zs.length ∧ m = zs.length - j ∧ iv = .int .i64 j ∧ Dre w t (t + 1) zs j v wr)
  case atStart => exact ⟨0, Nat.zero_le _, rfl, rfl, unhide D0⟩
  case round =>
    obtain ⟨j, hj, rfl, rfl, hD⟩ := hrel
    clear D0
    obtain ⟨av, cv, ev⟩ := hD.row.form
    rw [rvA_len] at ev
    subst ev
    by_cases hlt : j < zs.length
    · have b1 : (j : Int) < (zs.length : Int) := by omega
      have tj : ((j : Int)).toNat = j := Int.toNat_natCast j
      obtain ⟨x, hx⟩ : ∃ x, zs[j]? = some x := ⟨_, List.getElem?_eq_getElem hlt⟩
      obtain ⟨hnum, hKj⟩ := rvK_is zs j x hx
      obtain ⟨b, off, rfl, hc⟩ : ∃ b off, a = some ⟨b, off, none⟩ ∧ ∀ i, i < zs.length → w.cell? ⟨b, off + i, none⟩ = some (.int .i64 (zs.getD i 0)) := by
        rcases (unhide HI).2.2 with hz | hz
        · omega
        · exact hz
      have e0 := hc j hlt
      have ex : zs.getD j 0 = x := by rw [List.getD_eq_getElem?_getD, hx]; rfl
      rw [ex] at e0
      obtain ⟨⟨u, v⟩, huv⟩ : ∃ p, rvU zs j = p := ⟨_, rfl⟩
      have hP := hide (rv_put zs j (by omega) huv)
      have hin := hide (rv_ins zs j huv)
      have hpj := hide (rv_pin j (by omega))
      have huP := hide (rvU_pin zs j (by omega) huv)
      have hln : Hid ((rvL zs j).length < 65536) := by unfold Hid; rw [rvL_len]; omega
      have hrow := hide hD.row
      have hK : Hid (Kp [] w wr) := hide hD.tab.kp
      obtain ⟨P, eP⟩ : ∃ P, wr.heap.size = P := ⟨_, rfl⟩
      have D1 := hide (hD.grew (((Kp.refl [] wr).alloc (.cells #[.int .i64 (5 + (j : Int) / 16), .int .i64 ((j : Int) % 16)] 28)).alloc (.cells #[.int .i64 0, .int .i64 0] 28)))
      have P1 := hide ((Bk.new wr 28 [.int .i64 (5 + (j : Int) / 16), .int .i64 ((j : Int) % 16)]).alloc (.cells #[.int .i64 0, .int .i64 0] 28))
      have U1 := hide (Bk.next (p := wr.heap.size + 1) (wr.alloc (.cells #[.int .i64 (5 + (j : Int) / 16), .int .i64 ((j : Int) % 16)] 28)) 28 [.int .i64 0, .int .i64 0] (by simp))
      have nP : Hid (P ≠ t ∧ P + 1 ≠ t ∧ w.heap.size ≤ P) := by have := hD.tab.lt; have := hD.hw; unfold Hid; refine ⟨?_, ?_, ?_⟩ <;> omega
      have hrl : Hid (∀ g, Value.ownBlock (.slice av j cv) = some g → g < P) := by
        intro g hg
        have := hrow.lt hg
        omega
      have c0 := (unhide D1).tab.kp.cell e0
      rw [eP] at P1 U1
      replace hnum := hide hnum
      replace huv := hide huv
      clear hD hc e0
      go_upto_region 13 with fail
      generalize (wr.alloc (.cells #[.int .i64 (5 + (j : Int) / 16), .int .i64 ((j : Int) % 16)] 28)).alloc (.cells #[.int .i64 0, .int .i64 0] 28) = W1 at *
      clear eP hrow hK
      go_wp2_with fail
      refine (number_to _ _ _ _ (by omega) (by omega) (unhide hnum)).mono ?_
      rintro e wx ⟨rfl, rfl⟩
      obtain ⟨K, hK⟩ : ∃ K, rvK zs j = K := ⟨_, rfl⟩
      rw [hK] at hKj ⊢
      replace hK := hide hK
      go_upto_if 54 with fail
      go_cut [] (fun wx => Dre w t (t + 1) zs j (.slice av j cv) wx ∧ Bk wx P 28 [.int .i64 (5 + (j : Int) / 16), .int .i64 ((j : Int) % 16)] ∧ Bk wx (P + 1) 28 [.int .i64 u, .int .i64 v])
      case first =>
        by_cases hk : K < j
        · have b5 : (K : Int) < (j : Int) := by omega
          have tk : ((K : Int)).toNat = K := Int.toNat_natCast K
          have hrow := (unhide D1).row
          obtain ⟨g, cg, eg⟩ : ∃ g c, Value.slice av j cv = .slice (some ⟨g, 0, none⟩) j c := by
            rcases hrow.addr with ⟨_, e⟩ | ⟨g, c, e, _⟩
            · have := rvA_len j; rw [e] at this; simp at this; omega
            · rw [rvA_len] at e; exact ⟨g, c, e⟩
          cases eg
          obtain ⟨k0, k1⟩ := hrow.at (rvA_get hk)
          have euv : rvP K = (u, v) := by have := unhide huv; unfold rvU at this; rw [unhide hK, if_pos hk] at this; exact this
          rw [euv] at k0 k1
          have f0 := (unhide U1).frozen
          have d0 := (unhide U1).cell (i := 0) rfl
          have d1 := (unhide U1).cell (i := 1) rfl
          have hgP := unhide hrl g rfl
          clear hrow euv
          go_wp2
          go_meet
          case rel => exact ⟨⟨(unhide D1).tab.beside (kp_two _ _) (unhide U1) (unhide nP).2.1 (by have := (unhide nP).2.2; omega), (unhide D1).row.kept (kp_two _ _) (fun g' hg' => by cases hg'; simp; omega), (unhide D1).tlt, (unhide D1).hw, Nat.le_trans (unhide D1).sz (kp_two _ _).size⟩, (unhide P1).kept (kp_two _ _) (by simp), bk2 (unhide U1)⟩
        · have b5 : decide ((K : Int) < (j : Int)) = false := by simp; omega
          have euv : ((0 : Int), (0 : Int)) = (u, v) := by have := unhide huv; unfold rvU at this; rw [unhide hK, if_neg hk] at this; exact this
          cases euv
          go_wp2
          go_meet
          case rel => exact ⟨unhide D1, unhide P1, unhide U1⟩
      case rest =>
        obtain ⟨hD2, hP2, hU2⟩ := hcut
        have p0 := hP2.cell (i := 0) rfl
        have p1 := hP2.cell (i := 1) rfl
        have q0 := hU2.cell (i := 0) rfl
        have q1 := hU2.cell (i := 1) rfl
        have D2 := hide hD2
        have P2 := hide hP2
        clear hD2 hP2 hU2 D1 P1 U1 c0
        go_wp2_with fail
        refine (tput_yes (unhide D2).tab (unhide hpj) (unhide huP) (unhide hP) (unhide hln) (unhide hin)).mono ?_
        rintro e W3 ⟨rfl, X3, T3⟩
        have R3 := T3.pl (unhide D2).row (unhide D2).tlt
        have P3 := T3.bk (unhide P2) (unhide nP).1
        have p2 := P3.cell (i := 0) rfl
        have p3 := P3.cell (i := 1) rfl
        have S3 := hide (Nat.le_trans (unhide D2).sz T3.size)
        have X4 := hide (X3.grew ((Kp.refl [] W3).alloc (.cells #[.int .i64 (5 + (j : Int) / 16), .int .i64 ((j : Int) % 16)] 28)))
        have R4 := hide (R3.kept ((Kp.refl [] W3).alloc (.cells #[.int .i64 (5 + (j : Int) / 16), .int .i64 ((j : Int) % 16)] 28)) (by simp))
        have hlw : Hid (t < t + 1) ∧ Hid (w.heap.size ≤ t) := ⟨(unhide D2).tlt, (unhide D2).hw⟩
        obtain ⟨lt, hw⟩ := hlw
        have hra := rvA_len j
        replace hra := hide hra
        clear X3 T3 R3 P3 D2 P2 p0 p1 q0 q1
        go_wp2_with (first
          | (at_builtin; refine plist_app rfl _ _ rfl (t + 1) (.slice av j cv) _ (rvA j) [(5 + (j : Int) / 16, (j : Int) % 16)] rfl rfl (unhide R4) (psrc_one _ _ _ _) ?c1 ?c2 ?_)
          | go_in)
        case c1 => rw [unhide hra]; simp; omega
        case c2 => have := unhide S3; simp; omega
        intro v5 W5 hO5 hg5 hat5
        have X5 := hide ((unhide X4).grown hg5 (unhide R4) (by omega))
        have S5 : Hid (t + 1 ≤ W5.heap.size) := by have := unhide S3; have := hg5.size; simp at this; unfold Hid; omega
        have e5 : rvA j ++ [(5 + (j : Int) / 16, (j : Int) % 16)] = rvA (j + 1) := (rvA_succ j).symm
        rw [e5] at hO5
        have O5 := hide hO5
        clear hO5 hg5 hat5 X4 R4 S3 p2 p3 e5
        go_wp2
        go_roundg (zs.length - (j + 1))
        case measure => omega
        case rel => exact ⟨j + 1, by omega, rfl, by go_num, unhide X5, unhide O5, unhide lt, unhide hw, unhide S5⟩
    · have b1 : decide ((j : Int) < (zs.length : Int)) = false := by simp; omega
      obtain rfl : j = zs.length := by omega
      have D1 := hide hD
      clear hD
      by_cases h0 : zs.length = 0
      · obtain rfl : zs = [] := List.eq_nil_of_length_eq_zero h0
        have h10 : Hid (PIn (1, 0)) := pin8 (by omega) (by omega) (by omega) (by omega)
        have hrev : Hid (revR 0 (rvL [] ([] : List Int).length) 1 0 = ([], [], 4)) := rfl
        have X1 := hide (unhide D1).tab
        clear D1
        go_wp2_with fail
        refine (krevoke (unhide X1) (m := 0) (by simp [rvL]) (unhide h10) (unhide hrev)).mono ?_
        rintro e W4 ⟨v4, rfl, O4, X4, T4⟩
        simp only at O4 X4 ⊢
        obtain ⟨a4, c4, e4⟩ := O4.zero
        subst e4
        replace X4 := hide X4
        clear O4 T4 X1
        go_wp2
        go_ret
        exact ⟨rfl, (unhide X4).kp.below (Nat.le_refl _) (by simp)⟩
      · have b2 : ((zs.length : Int) == 0) = false := beq_eq_false_iff_ne.2 (by omega)
        have b3 : ¬ (zs.length : Int) = 0 := by omega
        obtain ⟨jj, hjj⟩ : ∃ jj : Nat, which % (zs.length : Int) = (jj : Int) := ⟨(which % (zs.length : Int)).toNat, by have := Int.emod_nonneg which (b := (zs.length : Int)) (by omega); omega⟩
        have jjl : jj < zs.length := by have := Int.emod_lt_of_pos which (b := (zs.length : Int)) (by omega); omega
        have jjb : (jj : Int) < (zs.length : Int) := by omega
        have tk : ((jj : Int)).toNat = jj := Int.toNat_natCast jj
        obtain ⟨qs, hqs⟩ : ∃ qs, sel (lowF (rvL zs zs.length) (rvP jj).1 (rvP jj).2) (rvL zs zs.length) = qs := ⟨_, rfl⟩
        obtain ⟨os, L', f1, f2, f3, f4, f5, f6, f7, f8⟩ := rev_facts zs jjl (unhide D1).tab.fo hqs
        have hpin := hide (rv_pin jj (by omega))
        have hqpin : Hid (∀ q ∈ qs, PIn q) := fun q hq => by
          rw [← hqs] at hq
          unfold sel at hq
          obtain ⟨y, hy, rfl⟩ := List.mem_map.1 hq
          exact pin_ok ((unhide D1).tab.fo.ok y (List.mem_filter.1 hy).1)
        have hrow := (unhide D1).row
        obtain ⟨g, cg, eg⟩ : ∃ g c, Value.slice av zs.length cv = .slice (some ⟨g, 0, none⟩) zs.length c := by
          rcases hrow.addr with ⟨_, e⟩ | ⟨g, c, e, _⟩
          · have := rvA_len zs.length; rw [e] at this; simp at this; omega
          · rw [rvA_len] at e; exact ⟨g, c, e⟩
        cases eg
        obtain ⟨k0, k1⟩ := hrow.at (rvA_get jjl)
        obtain ⟨⟨pn, ps⟩, hpp⟩ : ∃ p, rvP jj = p := ⟨_, rfl⟩
        rw [hpp] at f1 f4 f6 f8 hqs hpin k0 k1
        replace hjj := hide hjj
        replace hqs := hide hqs
        replace hpp := hide hpp
        replace f1 := hide f1
        replace f2 := hide f2
        replace f3 := hide f3
        replace f4 := hide f4
        replace f5 := hide f5
        replace f6 := hide f6
        replace f7 := hide f7
        replace f8 := hide f8
        clear hrow
        go_wp2_with fail
        refine (number_to _ _ _ _ (by omega) (by omega) (unhide hjj)).mono ?_
        rintro e wx ⟨rfl, rfl⟩
        have X2 := hide ((unhide D1).tab.grew ((Kp.refl [] wx).alloc (.cells #[.int .i64 pn, .int .i64 ps] 28)))
        have P2 := hide (Bk.new wx 28 [.int .i64 pn, .int .i64 ps])
        obtain ⟨P, eP⟩ : ∃ P, wx.heap.size = P := ⟨_, rfl⟩
        have nP : Hid (P ≠ t) := by have := (unhide D1).tab.lt; unfold Hid; omega
        rw [eP] at P2
        have p0 := (unhide P2).cell (i := 0) rfl
        have p1 := (unhide P2).cell (i := 1) rfl
        clear D1
        go_wp2_with fail
        generalize wx.alloc (.cells #[.int .i64 pn, .int .i64 ps] 28) = W1 at *
        clear eP k0 k1
        refine (tbelow (unhide X2) (unhide hpin)).mono ?_
        rintro e W3 ⟨v3, rfl, P3, K3⟩
        rw [unhide hqs] at P3
        have hq30 : qs.length ≤ 30 := by have := unhide f5; omega
        have hP3 := hide P3
        have hlt3 : Hid (t < W1.heap.size) := (unhide X2).lt
        obtain ⟨a3, c3, e3⟩ := P3.form
        subst e3
        have X3 := hide ((unhide X2).grew K3)
        have B3 := hide ((unhide P2).kept K3 (by simp))
        clear P3 K3 X2 P2 p0 p1
        have p0 := (unhide B3).cell (i := 0) rfl
        have p1 := (unhide B3).cell (i := 1) rfl
        go_wp2_with fail
        refine (krevoke (unhide X3) (m := zs.length) (by rw [rvL_len]; exact Nat.le_refl _) (unhide hpin) (unhide f1)).mono ?_
        rintro e W4 ⟨v4, rfl, O4, X4, T4⟩
        simp only at O4 X4 ⊢
        have V5 := hide (Ol.view O4 (by have := unhide f2; omega))
        obtain ⟨a4, c4, e4⟩ := O4.form
        rw [unhide f2] at e4
        subst e4
        have B4 := hide (T4.bk (unhide B3) (unhide nP))
        have V4 := hide ((T4.pl (unhide hP3) (unhide hlt3)).view (by omega))
        replace X4 := hide X4
        clear O4 T4 X3 B3 hP3 p0 p1
        have p0 := (unhide B4).cell (i := 0) rfl
        have p1 := (unhide B4).cell (i := 1) rfl
        obtain ⟨q, hq⟩ : ∃ q, qs.length = q := ⟨_, rfl⟩
        rw [hq] at hq30 f2 f5 ⊢
        obtain ⟨d, hd⟩ : ∃ d, L'.length = d := ⟨_, rfl⟩
        rw [hd] at f5
        have f5' := unhide f5
        have hsub : (zs.length : Int) - (q : Int) = (d : Int) := by omega
        have hsubw : IntKind.i64.wrap ((zs.length : Int) - (q : Int)) = (d : Int) := by rw [IntKind.wrap_i64]; omega
        replace hq := hide hq
        replace hd := hide hd
        go_wp2_with fail
        refine (tbelow (unhide X4) (unhide hpin)).mono ?_
        rintro e W5 ⟨v5, rfl, P5, K5⟩
        rw [unhide f4] at P5
        obtain ⟨a5, c5, e5⟩ := P5.form
        have e5' : v5 = .slice a5 0 c5 := e5
        subst e5'
        have X5 := hide ((unhide X4).grew K5)
        have B5 := hide ((unhide B4).kept K5 (by simp))
        have V6 := hide ((unhide V4).kept K5)
        have V7 := hide ((unhide V5).kept K5)
        clear P5 K5 e5 X4 B4 V4 V5 p0 p1
        go_wp2_with fail
        refine (tall (unhide X5)).mono ?_
        rintro e W6 ⟨v6, rfl, P6, K6⟩
        obtain ⟨a6, c6, e6⟩ := P6.form
        rw [sel_allL, unhide hd] at e6
        subst e6
        have X6 := hide ((unhide X5).grew K6)
        have B6 := hide ((unhide B5).kept K6 (by simp))
        have V8 : Hid (PV W6 (.slice a3 q c3) qs) := by rw [← unhide hq]; exact (unhide V6).kept K6
        have V9 : Hid (PV W6 (.slice a4 q c4) os) := by rw [← unhide hq]; exact (unhide V7).kept K6
        clear P6 K6 X5 B5 V6 V7
        go_wp2_with fail
        go_loopg [18] q (fun m iv wx => ∃ i : Nat, i ≤ q ∧ m = q - i ∧ iv = .int .i64 i ∧ TabIn w t L' wx ∧ Bk wx P 28 [.int .i64 pn, .int .i64 ps] ∧ PV wx (.slice a3 q c3) qs ∧ PV wx (.slice a4 q c4) os)
        case atStart => exact ⟨0, Nat.zero_le _, rfl, rfl, unhide X6, unhide B6, unhide V8, unhide V9⟩
        case round =>
          obtain ⟨i, hi, rfl, rfl, hX, hB, hV1, hV2⟩ := hrel
          clear X6 B6 V8 V9
          by_cases hlt : i < q
          · have b5 : (i : Int) < (q : Int) := by omega
            have ti : ((i : Int)).toNat = i := Int.toNat_natCast i
            have hqq := unhide hq
            have hoo := unhide f2
            obtain ⟨⟨qn, qv⟩, hqi⟩ : ∃ p, qs[i]? = some p := ⟨_, List.getElem?_eq_getElem (by omega)⟩
            obtain ⟨⟨ok, oo⟩, hoi⟩ : ∃ p, os[i]? = some p := ⟨_, List.getElem?_eq_getElem (by omega)⟩
            have hqmem : (qn, qv) ∈ qs := List.mem_of_getElem? hqi
            have hgone := hide (unhide f7 _ hqmem)
            have hqp := hide (unhide hqpin _ hqmem)
            obtain ⟨o1, o2, o3⟩ := unhide f3 _ (List.mem_of_getElem? hoi)
            simp only at o1 o2 o3
            subst o1
            obtain ⟨g1, rfl, x0, x1⟩ := hV1.at hqi
            obtain ⟨g2, rfl, y0, y1⟩ := hV2.at hoi
            simp only at x0 x1 y0 y1
            have b6 : decide (oo < 1) = false := by simp; omega
            have b7 : decide ((zs.length : Int) < oo) = false := by simp; omega
            have X7 := hide hX
            have B7 := hide hB
            have V10 := hide hV1
            have V11 := hide hV2
            have hget := (tget_lk (unhide X7) (unhide hqp)).resolve_right (by rintro ⟨y, hy, _⟩; rw [unhide hgone] at hy; cases hy)
            have hget := hide hget.2
            clear hX hB hV1 hV2 hqq hoo
            go_wp2_with fail
            refine (unhide hget).mono ?_
            rintro e W7 ⟨rfl, K7⟩
            have K8 := K7.alloc (.cells #[.int .i64 0, .int .i64 0, .int .i64 0, .int .i64 0, .int .i64 0] 31)
            have X8 := hide ((unhide X7).grew K8)
            have B8 := hide ((unhide B7).kept K8 (by simp))
            have V12 := hide ((unhide V10).kept K8)
            have V13 := hide ((unhide V11).kept K8)
            have y2 := K8.cell y0
            have y3 := K8.cell y1
            clear x0 x1 y0 y1 X7 B7 V10 V11 K7 K8 hget
            go_wp2
            go_roundg (q - (i + 1))
            case measure => omega
            case rel => exact ⟨i + 1, by omega, rfl, by go_num, unhide X8, unhide B8, unhide V12, unhide V13⟩
          · have b5 : decide ((i : Int) < (q : Int)) = false := by simp; omega
            obtain ⟨ek, eo, ez, eb, er, hget⟩ := tget_any hX (unhide hpin) (unhide f6)
            have p0 := hB.cell (i := 0) rfl
            have p1 := hB.cell (i := 1) rfl
            have X7 := hide hX
            have B7 := hide hB
            replace hget := hide hget
            clear hX hB hV1 hV2
            go_wp2_with fail
            refine (unhide hget).mono ?_
            rintro e W7 ⟨rfl, K7⟩
            have K8 := K7.alloc (.cells #[.int .i64 ek, .int .i64 eo, .int .i64 ez, .int .i64 eb, .int .i64 er] 31)
            have X8 := hide ((unhide X7).grew K8)
            have B8 := hide ((unhide B7).kept K8 (by simp))
            clear p0 p1 X7 B7 K7 K8 hget
            have p0 := (unhide B8).cell (i := 0) rfl
            have p1 := (unhide B8).cell (i := 1) rfl
            go_wp2_with fail
            refine (krevoke (unhide X8) (m := zs.length) (by have := unhide hd; omega) (unhide hpin) (unhide f8)).mono ?_
            rintro e W9 ⟨v9, rfl, O9, X9, T9⟩
            simp only at O9 X9 ⊢
            obtain ⟨a9, c9, e9⟩ := O9.zero
            subst e9
            replace X9 := hide X9
            clear O9 T9 X8 B8 p0 p1
            go_wp2
            go_ret
            exact ⟨rfl, (unhide X9).kp.below (Nat.le_refl _) (by simp)⟩
theorem revokes_walk (a : Option Addr) (len cap : Nat) (zs : List Int) (n : Int) (w : World) (hl : zs.length = len) (hI : Ints .i64 w a zs) (_ : (Lit.int .i64 n).wf = true) :
    Calls Try.prog 6 #[.slice a len cap, .int .i64 n] w fun e w' => e = .returned (.bool true) ∧ Below w.heap.size w w' := by
  subst hl
  by_cases h : zs.length ≤ 30
  · exact revokes_in a zs cap n w h hI
  · exact revokes_long a zs.length cap n w (by omega)
end Go.Proofs.Ytdlkaaiedfikoaa
