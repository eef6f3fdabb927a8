/- The walk of NotifTurns. -/
import Derived.Test.YtgahekhlbcnmaaaKAgainM13
import Derived.Test.YtgahekhlbcnmaaaKBits13
namespace Go.Proofs.Ytgahekhlbcnmaaa
open Go.RowKit
set_option linter.unusedVariables false
set_option linter.unusedSimpArgs false
/-- Those that are to come: all but the dropped one. -/
def wd1 (n : Nat) (d : Nat) : List (Int × Int) := lDel (wl n) (1, (d : Int))
theorem wd1_skip (d : Nat) : wd1 (d + 1) d = wd1 d d := by
  unfold wd1 lDel
  rw [wl_succ, List.filter_append]
  simp
theorem wd1_more {n d : Nat} (h : n ≠ d) : wd1 (n + 1) d = wd1 n d ++ [(1, (n : Int))] := by
  unfold wd1 lDel
  rw [wl_succ, List.filter_append]
  congr 1
  have : ((1, (n : Int)) != ((1 : Int), (d : Int))) = true := bne_iff_ne.2 fun q => h (by have := congrArg Prod.snd q; simp only at this; omega)
  rw [List.filter_cons_of_pos (p := fun q => q != ((1 : Int), (d : Int))) this]
  rfl
theorem wd1_len (n d : Nat) : (wd1 n d).length ≤ n := by
  unfold wd1
  have := lDel_len (wl n) (1, (d : Int))
  rwa [wl_len] at this
theorem wl_has (n d : Nat) : lHas (wl n) (1, (d : Int)) = decide ((d : Int) < (n : Int)) := by
  by_cases h : d < n
  · rw [lHas_yes (wl_mem.2 ⟨d, h, rfl⟩)]
    exact (decide_eq_true (by omega)).symm
  · rw [lHas_no (fun q => by obtain ⟨i, hi, e⟩ := wl_mem.1 q; have := congrArg Prod.snd e; simp only at this; omega)]
    exact (decide_eq_false (by omega)).symm
/-- A Signal that wakes nobody. -/
theorem sig_not {L : List (Int × Int)} {i : Nat} {word b s : Int} (hs : uor word b = s) (h : s = 0 ∨ L.length ≤ i) : sigW word b (L.drop i) = false ∧ sigQ word b (L.drop i) = (0, 0) ∧ sigB word b (L.drop i) = 0 ∧ sigN word b (L.drop i) = s ∧ sigL word b (L.drop i) = L.drop i := by
  have e : sigW word b (L.drop i) = false := by
    unfold sigW
    rw [hs]
    rcases h with h | h
    · rw [h]; rfl
    · rw [List.drop_eq_nil_of_le h]; simp
  refine ⟨e, ?_, ?_, ?_, ?_⟩
  · unfold sigQ; rw [e]; rfl
  · unfold sigB; rw [e]; rfl
  · unfold sigN; rw [e]; exact hs
  · unfold sigL; rw [e]; rfl
/-- A row's block is not the notification's own. -/
theorem NIn.off {w wr : World} {t base : Nat} {word : Int} {L M : List (Int × Int)} {v : Value} (h : NIn w t word L wr) (r : Gr.Rw idE base wr v M) : ∀ g, v.ownBlock = some g → g ≠ t := fun g hg e => by
  subst e
  obtain ⟨m, f, hs, _⟩ := LIg.pl h
  obtain ⟨_, c, hc⟩ := r.block hg
  have hh := hs.head.bk
  unfold Bk at hh
  rw [hh] at hc
  simp at hc
theorem NIn.app {w wx wy : World} {t base : Nat} {word : Int} {L M : List (Int × Int)} {v : Value} (h : NIn w t word L wx) (r : Gr.Rw idE base wx v M) (hb : w.heap.size ≤ base) (hg : wx.grownBy wy v.ownBlock) : NIn w t word L wy := by
  have k := Gr.kp_gb hg
  cases e : v.ownBlock with
  | none =>
    rw [e] at k
    exact h.grew (k.mono (by simp))
  | some g =>
    rw [e] at k
    obtain ⟨h1, c, hc⟩ := r.block e
    exact h.beside (k.mono (by simp)) (show Bk wx g 27 c.toList from by unfold Bk; simpa using hc) (h.off r g e) (by omega)
set_option maxHeartbeats 400000 in
theorem nturns_long (n0 d0 : Int) (a0 : Option Addr) (len cap : Nat) (w : World) (hl : 30 < len) :
    Calls Try.prog 6 #[.int .i64 n0, .int .i64 d0, .slice a0 len cap] w fun e w' => e = .returned (.bool true) ∧ Below w.heap.size w w' := by
  have h2 : (30 : Int) < (len : Int) := by omega
  clear hl
  go_enter Try.func6, Try.ntmps6
  go_wp2_with fail
  refine (first_calls _).mono ?_
  rintro e W0 ⟨rfl, K0⟩
  go_wp2
  go_ret
  exact ⟨rfl, K0.below (Nat.le_refl _) (by simp)⟩
set_option maxRecDepth 10000 in
set_option maxHeartbeats 40000000 in
theorem nturns_in (n0 d0 : Int) (a0 : Option Addr) (len cap : Nat) (zs : List Int) (w : World) (hl : len ≤ 30) (hz : zs.length = len) (hI : Ints .u32 w a0 zs) :
    Calls Try.prog 6 #[.int .i64 n0, .int .i64 d0, .slice a0 len cap] w fun e w' => e = .returned (.bool true) ∧ Below w.heap.size w w' := by
  have h2 : decide ((30 : Int) < (len : Int)) = false := decide_eq_false (by omega)
  have HI := hide hI
  replace hz := hide hz
  obtain ⟨m, hm⟩ : ∃ m : Nat, n0 % 12 = (m : Int) := ⟨(n0 % 12).toNat, by omega⟩
  have hm12 : m < 12 := by omega
  obtain ⟨n, hn⟩ : ∃ n : Nat, n = m + 1 := ⟨_, rfl⟩
  have hnm : (m : Int) + 1 = (n : Int) := by omega
  obtain ⟨d, hd⟩ : ∃ d : Nat, d0 % ((n : Int) + 1) = (d : Int) := ⟨(d0 % ((n : Int) + 1)).toNat, by have := Int.emod_nonneg d0 (show (n : Int) + 1 ≠ 0 by omega); omega⟩
  have hdn : d ≤ n := by have := Int.emod_lt_of_pos d0 (show (0 : Int) < (n : Int) + 1 by omega); omega
  have hn12 : n ≤ 12 := by omega
  have hn0 : Hid ((0 : Int) < (n : Int) + 1) := by unfold Hid; omega
  have hn1 : Hid ((n : Int) + 1 ≤ 4294967296) := by unfold Hid; omega
  replace hm := hide hm
  replace hd := hide hd
  clear hI hn
  go_enter Try.func6, Try.ntmps6
  go_wp2_with fail
  refine (first_calls _).mono ?_
  rintro e W0 ⟨rfl, K0⟩
  replace K0 := hide K0
  go_wp2_with fail
  refine (number_to _ _ _ _ (by decide) (by decide) (unhide hm)).mono ?_
  rintro e W0' ⟨rfl, hW⟩
  have K0' : Hid (Kp [] w W0') := by rw [hW]; exact unhide K0
  clear hW K0
  go_wp2_with fail
  refine (number_to _ _ _ _ (unhide hn0) (unhide hn1) (unhide hd)).mono ?_
  rintro e W1 ⟨rfl, hW⟩
  have K1 : Hid (Kp [] w W1) := by rw [hW]; exact unhide K0'
  clear hW K0'
  obtain ⟨t, et⟩ : ∃ t, W1.heap.size = t := ⟨_, rfl⟩
  have X0 := hide (NIn.of (unhide K1) et.symm (Kp.refl [] _))
  go_wp2_with fail
  generalize W1.alloc (.cells #[.int .u32 0, .map none, .int .i64 0, .int .i64 0] 31) = W2 at *
  clear K1
  go_loopg [9, 10] n (fun m v i wr => ∃ j : Nat, j ≤ n ∧ m = n - j ∧ i = .int .i64 j ∧ NIn w t 0 (wl j) wr ∧ Gr.Rw idE w.heap.size wr v (wd1 j d))
  case atStart => exact ⟨0, Nat.zero_le _, by omega, rfl, unhide X0, .nil _ _⟩
  case round =>
    obtain ⟨j, hj, rfl, rfl, hX, hR⟩ := hrel
    clear X0
    by_cases hlt : j < n
    · have b1 : (j : Int) < (n : Int) := by omega
      have hi : Hid (IdIn (1, (j : Int))) := idIn_of (by decide) (by omega)
      have hls : Hid ((wl j).length < 65536) := by unfold Hid; rw [wl_len]; omega
      have hp := hide (wl_push j)
      obtain ⟨wa, wcp, rfl⟩ := hR.form
      replace hX := hide hX
      replace hR := hide hR
      go_wp2_with fail
      refine (nwait_no (unhide hX) (unhide hi) (unhide hls) (unhide hp)).mono ?_
      rintro e W3 ⟨rfl, X3, S3⟩
      have R3 := hide (S3.rw (unhide hR) ((unhide hX).off (unhide hR)))
      replace X3 := hide X3
      clear hX hR S3
      by_cases hjd : j = d
      · subst hjd
        rw [← wd1_skip] at R3
        have el := congrArg List.length (wd1_skip j)
        rw [← el]
        replace el := hide el
        go_wp2
        go_roundg (n - (j + 1))
        case measure => omega
        case rel => exact ⟨j + 1, by omega, rfl, by go_num, unhide X3, unhide R3⟩
      · have b3 : ((j : Int) != (d : Int)) = true := bne_iff_ne.2 (by omega)
        have hmore := hide (wd1_more hjd)
        have hlb : Hid ((wd1 j d).length + [((1 : Int), (j : Int))].length ≤ 1048576) := by have := wd1_len j d; unfold Hid; simp; omega
        go_wp2_with (first
          | (at_builtin; refine Gr.list_app (E := idE) Try.underlying34 Try.infoID rfl (by decide) (by decide) rfl _ _ rfl w.heap.size _ _ (wd1 j d) [((1 : Int), (j : Int))] rfl rfl ((unhide R3).grew ((Kp.refl [] W3).alloc _)) (Gr.src_one (Bk.new W3 27 [.int .i64 1, .int .i64 (j : Int)]) rfl) (unhide hlb) ?c3 ?_)
          | go_in)
        case c3 => have := (unhide X3).kp.size; simp; omega
        intro v' w1 hown' hgrow hnil
        have X8 := hide (NIn.app ((unhide X3).grew ((Kp.refl [] W3).alloc _)) ((unhide R3).grew ((Kp.refl [] W3).alloc _)) (Nat.le_refl _) hgrow)
        rw [← unhide hmore] at hown'
        have R8 := hide hown'
        clear hown' hgrow hnil R3 X3
        go_wp2
        go_roundg (n - (j + 1))
        case measure => omega
        case rel => exact ⟨j + 1, by omega, rfl, by go_num, unhide X8, unhide R8⟩
    · have b1 : decide ((j : Int) < (n : Int)) = false := decide_eq_false (by omega)
      have ej : n = j := by omega
      subst ej
      obtain ⟨wa, wcp, rfl⟩ := hR.form
      have hi : Hid (IdIn (1, (d : Int))) := idIn_of (by decide) (by omega)
      have hh := hide (wl_has n d)
      obtain ⟨M, hM⟩ : ∃ M, wd1 n d = M := ⟨_, rfl⟩
      have hM12 : M.length ≤ 12 := by rw [← hM]; have := wd1_len n d; omega
      have hdr : Hid (lDel (wl n) (1, (d : Int)) = M) := hM
      rw [hM] at hR
      rw [hM]
      replace hX := hide hX
      replace hR := hide hR
      clear hM
      go_wp2_with fail
      refine (ndrop (unhide hX) (unhide hi) (unhide hh) (unhide hdr)).mono ?_
      rintro e W3 ⟨rfl, X3, S3⟩
      have R3 := hide (S3.rw (unhide hR) ((unhide hX).off (unhide hR)))
      replace X3 := hide X3
      clear hX hR S3 hi hh hdr
      go_wp2_with fail
      refine (nwaits (unhide X3)).mono ?_
      rintro e W4 ⟨v4, rfl, R4, K4⟩
      have X4 := hide ((unhide X3).grew K4)
      have V4 := hide (LV.of R4.ro (by omega))
      have RW4 := hide ((unhide R3).grew K4)
      have V5 := hide (LV.of (unhide RW4).ro (by omega))
      obtain ⟨a4, c4, rfl⟩ := R4.form
      clear X3 R3 K4 R4
      go_wp2_with fail
      refine (sameid_kp (unhide V4) (unhide V5)).mono ?_
      rintro e W5 ⟨rfl, K5⟩
      have X5 := hide ((unhide X4).grew K5)
      have R5 := hide ((unhide RW4).grew K5)
      clear X4 RW4 V4 V5 K5
      go_wp2_with fail
      go_loopg [13, 14, 15] len (fun m av wv i wx => ∃ (j a : Nat) (wd : Int), j ≤ len ∧ a ≤ M.length ∧ m = len - j ∧ av = .int .i64 a ∧ wv = .int .u32 wd ∧ i = .int .i64 j ∧ NIn w t wd (M.drop a) wx ∧ Gr.Rw idE w.heap.size wx (.slice wa M.length wcp) M)
      case atStart => exact ⟨0, 0, 0, Nat.zero_le _, Nat.zero_le _, by omega, rfl, rfl, rfl, unhide X5, unhide R5⟩
      case round =>
        obtain ⟨j, a, wd, hj', ha, rfl, rfl, rfl, rfl, hX, hR⟩ := hrel
        clear X5 R5
        by_cases hlt' : j < len
        · have b2 : (j : Int) < (len : Int) := by omega
          have b3 : ((j : Int)).toNat = j := Int.toNat_natCast j
          obtain ⟨bb, off, rfl, c0⟩ := words_n (unhide HI) hX.kp (j := j) (by rw [unhide hz]; exact hlt')
          obtain ⟨x, hx⟩ : ∃ x, zs.getD j 0 = x := ⟨_, rfl⟩
          rw [hx] at c0
          have C0 : Hid (∀ w', Kp [] w w' → w'.cell? ⟨bb, off + j, none⟩ = some (.int .u32 x)) := fun w' k => by
            obtain ⟨b', off', ea, c⟩ := words_n (unhide HI) k (j := j) (by rw [unhide hz]; exact hlt')
            cases ea
            rw [hx] at c
            exact c
          obtain ⟨s, hs⟩ : ∃ s, uor wd x = s := ⟨_, rfl⟩
          have hbs : bits .or .u32 wd x = s := hs
          clear hx
          by_cases hw : s ≠ 0 ∧ a < M.length
          · obtain ⟨hs0, haM⟩ := hw
            obtain ⟨q, hq⟩ : ∃ q, M[a]? = some q := ⟨_, List.getElem?_eq_getElem haM⟩
            obtain ⟨s1, s2, s3, s4, s5⟩ := sig_at hq hs hs0
            obtain ⟨q1, q2⟩ := q
            obtain ⟨gw, rfl⟩ : ∃ g, wa = some ⟨g, 0, none⟩ := by
              rcases hR.addr with ⟨_, e⟩ | ⟨g, c, e, _⟩
              · rw [e] at haM; simp at haM
              · exact ⟨g, (Value.slice.inj e).1⟩
            replace s1 := hide s1
            replace s2 := hide s2
            replace s3 := hide s3
            replace s4 := hide s4
            replace s5 := hide s5
            have b4 : (s != 0) = true := bne_iff_ne.2 hs0
            have b5 : (a : Int) < (M.length : Int) := by omega
            have b6 : ((a : Int)).toNat = a := Int.toNat_natCast a
            replace hq := hide hq
            replace hX := hide hX
            replace hR := hide hR
            clear hs hs0
            go_wp2_with fail
            refine (nsignal (unhide hX) (unhide s1) (unhide s2) (unhide s3) (unhide s4) (unhide s5)).mono ?_
            rintro e W5 ⟨rfl, X5, S5⟩
            have R5 := S5.rw (unhide hR) ((unhide hX).off (unhide hR))
            have k6 := (Kp.refl [] W5).alloc (.cells #[.int .i64 q1, .int .i64 q2] 27)
            have X6 := hide (X5.grew k6)
            have R6 := hide (R5.grew k6)
            have D := Bk.new W5 27 [.int .i64 q1, .int .i64 q2]
            have d0 := D.cell (i := 0) rfl
            have d1 := D.cell (i := 1) rfl
            clear D X5 S5 R5 k6 hX hR c0
            have c0 := unhide C0 _ (unhide X6).kp
            have x0 : (W5.alloc (.cells #[.int .i64 q1, .int .i64 q2] 27)).cell? ⟨gw, a * 2, none⟩ = some (.int .i64 q1) := (unhide R6).cell (i := a) (j := 0) (unhide hq) rfl
            have x1 : (W5.alloc (.cells #[.int .i64 q1, .int .i64 q2] 27)).cell? ⟨gw, a * 2 + 1, none⟩ = some (.int .i64 q2) := (unhide R6).cell (i := a) (j := 1) (unhide hq) rfl
            go_upto_region 28 with fail
            generalize W5.alloc (.cells #[.int .i64 q1, .int .i64 q2] 27) = W6 at *
            go_quiet (fail)
            go_wp2_with fail
            refine (nword ((unhide X6).grew ((Kp.refl [] W6).drewN _))).mono ?_
            rintro e W8 ⟨rfl, K8⟩
            have X8 := hide ((unhide X6).grew (((Kp.refl [] W6).drewN _).then K8))
            have R8 := hide ((unhide R6).grew (((Kp.refl [] W6).drewN _).then K8))
            clear X6 R6 K8 x0 x1 d0 d1 c0 hbs
            go_wp2
            go_roundg (len - (j + 1))
            case measure => omega
            case rel => exact ⟨j + 1, a + 1, 0, by omega, by omega, rfl, by go_num, rfl, by go_num, unhide X8, unhide R8⟩
          · have hw' : s = 0 ∨ M.length ≤ a := by
              by_cases h0 : s = 0
              · exact .inl h0
              · exact .inr (by have := fun q => hw ⟨h0, q⟩; omega)
            by_cases h0 : s = 0
            · subst h0
              obtain ⟨s1, s2, s3, s4, s5⟩ := sig_not (L := M) (i := a) hs (.inl rfl)
              replace s1 := hide s1
              replace s2 := hide s2
              replace s3 := hide s3
              replace s4 := hide s4
              replace s5 := hide s5
              replace hX := hide hX
              replace hR := hide hR
              clear hs hw hw'
              go_wp2_with fail
              refine (nsignal (unhide hX) (unhide s1) (unhide s2) (unhide s3) (unhide s4) (unhide s5)).mono ?_
              rintro e W5 ⟨rfl, X5, S5⟩
              have R5 := S5.rw (unhide hR) ((unhide hX).off (unhide hR))
              have k6 := (Kp.refl [] W5).alloc (.cells #[.int .i64 0, .int .i64 0] 27)
              have X6 := hide (X5.grew k6)
              have R6 := hide (R5.grew k6)
              clear X5 S5 R5 k6 hX hR c0
              have c0 := unhide C0 _ (unhide X6).kp
              go_upto_region 28 with fail
              generalize W5.alloc (.cells #[.int .i64 0, .int .i64 0] 27) = W6 at *
              go_big_region
              go_wp2_with fail
              refine (nword ((unhide X6).grew ((Kp.refl [] W6).drewN _))).mono ?_
              rintro e W8 ⟨rfl, K8⟩
              have X8 := hide ((unhide X6).grew (((Kp.refl [] W6).drewN _).then K8))
              have R8 := hide ((unhide R6).grew (((Kp.refl [] W6).drewN _).then K8))
              clear X6 R6 K8 c0 hbs
              go_wp2
              go_roundg (len - (j + 1))
              case measure => omega
              case rel => exact ⟨j + 1, a, 0, by omega, by omega, rfl, rfl, rfl, by go_num, unhide X8, unhide R8⟩
            · have hMa : M.length ≤ a := hw'.resolve_left h0
              have b4 : (s != 0) = true := bne_iff_ne.2 h0
              have b5 : decide ((a : Int) < (M.length : Int)) = false := decide_eq_false (by omega)
              have b5' : decide (a < M.length) = false := decide_eq_false (by omega)
              obtain ⟨s1, s2, s3, s4, s5⟩ := sig_not (L := M) (i := a) hs (.inr hMa)
              replace s1 := hide s1
              replace s2 := hide s2
              replace s3 := hide s3
              replace s4 := hide s4
              replace s5 := hide s5
              replace hX := hide hX
              replace hR := hide hR
              clear hs hw hw' h0
              go_wp2_with fail
              refine (nsignal (unhide hX) (unhide s1) (unhide s2) (unhide s3) (unhide s4) (unhide s5)).mono ?_
              rintro e W5 ⟨rfl, X5, S5⟩
              have R5 := S5.rw (unhide hR) ((unhide hX).off (unhide hR))
              have k6 := (Kp.refl [] W5).alloc (.cells #[.int .i64 0, .int .i64 0] 27)
              have X6 := hide (X5.grew k6)
              have R6 := hide (R5.grew k6)
              clear X5 S5 R5 k6 hX hR c0
              have c0 := unhide C0 _ (unhide X6).kp
              go_upto_region 28 with fail
              generalize W5.alloc (.cells #[.int .i64 0, .int .i64 0] 27) = W6 at *
              go_big_region
              go_wp2_with fail
              refine (nword ((unhide X6).grew ((Kp.refl [] W6).drewN _))).mono ?_
              rintro e W8 ⟨rfl, K8⟩
              have X8 := hide ((unhide X6).grew (((Kp.refl [] W6).drewN _).then K8))
              have R8 := hide ((unhide R6).grew (((Kp.refl [] W6).drewN _).then K8))
              clear X6 R6 K8 c0 hbs
              go_wp2
              go_roundg (len - (j + 1))
              case measure => omega
              case rel => exact ⟨j + 1, a, s, by omega, by omega, rfl, rfl, rfl, by go_num, unhide X8, unhide R8⟩
        · have b2 : decide ((j : Int) < (len : Int)) = false := decide_eq_false (by omega)
          replace hX := hide hX
          replace hR := hide hR
          go_wp2_with fail
          refine (nwaits (unhide hX)).mono ?_
          rintro e W6 ⟨v6, rfl, R6, K6⟩
          obtain ⟨a6, c6, rfl⟩ := R6.form
          have X6 := hide ((unhide hX).grew K6)
          obtain ⟨r, hr⟩ : ∃ r, (M.drop a).length = r := ⟨_, rfl⟩
          have b3 : (M.length : Int) - (a : Int) = (r : Int) := by rw [← hr, List.length_drop]; omega
          have b4 : IntKind.i64.wrap ((M.length : Int) - (a : Int)) = (r : Int) := by rw [b3, IntKind.wrap_i64]; have : r ≤ 12 := by (rw [← hr, List.length_drop]; omega)
                                                                                      omega
          rw [hr]
          clear hX K6 R6 hr
          go_wp2
          go_ret
          exact ⟨rfl, (unhide X6).kp.below (Nat.le_refl _) (by simp)⟩
theorem nturns_walk (n0 d0 : Int) (a0 : Option Addr) (len cap : Nat) (zs : List Int) (w : World) (_ : (Lit.int .i64 n0).wf = true) (_ : (Lit.int .i64 d0).wf = true) (hz : zs.length = len) (hI : Ints .u32 w a0 zs) :
    Calls Try.prog 6 #[.int .i64 n0, .int .i64 d0, .slice a0 len cap] w fun e w' => e = .returned (.bool true) ∧ Below w.heap.size w w' := by
  by_cases h : len ≤ 30
  · exact nturns_in n0 d0 a0 len cap zs w h hz hI
  · exact nturns_long n0 d0 a0 len cap w (by omega)
end Go.Proofs.Ytgahekhlbcnmaaa
