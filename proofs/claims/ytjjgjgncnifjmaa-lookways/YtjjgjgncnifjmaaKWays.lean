/- The walk of LookWays. -/
import Derived.Test.YtjjgjgncnifjmaaKWaysM
import Derived.Test.YtjjgjgncnifjmaaKGd
import Derived.Test.YtjjgjgncnifjmaaKArgs
import Derived.BigRegion
namespace Go.Proofs.Ytjjgjgncnifjmaa
open Go.RowKit
set_option linter.unusedVariables false
theorem pin_of {n s : Int} (h1 : 0 ≤ n) (h2 : n ≤ 1000000) (h3 : 0 ≤ s) (h4 : s ≤ 1000000) : PIn (n, s) := ⟨in64_of (by show _ ≤ n; omega) (by show n ≤ _; omega), in64_of (by show _ ≤ s; omega) (by show s ≤ _; omega)⟩
def kfZ (zs : List Int) (i : Nat) : Nat := (zs.getD i 0 % 16).toNat
theorem kfZ_lt (zs : List Int) (i : Nat) : kfZ zs i < 16 := by unfold kfZ; omega
theorem kfZ_is (zs : List Int) (i : Nat) : zs.getD i 0 % 16 = (kfZ zs i : Int) := by unfold kfZ; omega
/-- One slot more. -/
theorem ways_more {kf : Nat → Nat} (hk : ∀ i, kf i < 16) (j : Nat) (hj : j < 5) : ∃ V Y : Int, (wvF kf j : Int) = V ∧ (0 ≤ V ∧ V ≤ 16777216) ∧ bits .or .i64 (V * 16) (kf j) = Y ∧ Y = (wvF kf (j + 1) : Int) := by
  have hv := tv_lt hk j 0
  rw [← wv_tv] at hv
  have hp : 16 ^ j ≤ 16 ^ 5 := Nat.pow_le_pow_right (by omega) (by omega)
  rw [show (16 : Nat) ^ 5 = 1048576 from rfl] at hp
  have h := i64_shl_or (wvF kf j) 4 (kf j) (hk j) (by have := hk j; rw [show (2 : Nat) ^ 4 = 16 from rfl]; omega)
  rw [show (2 : Nat) ^ 4 = 16 from rfl, Int.natCast_mul] at h
  exact ⟨_, _, rfl, by omega, h, rfl⟩
/-- The table, the root's box, the last place's box. -/
structure Wd (w : World) (t C B : Nat) (L : List Sl) (bn bs : Int) (wx : World) : Prop where
  gd : Gd w t C L 2 1 0 0 0 wx
  pb : Bk wx B 40 [.int .i64 bn, .int .i64 bs]
theorem Wd.grew {w : World} {t C B : Nat} {L : List Sl} {bn bs : Int} {wx wy : World} (h : Wd w t C B L bn bs wx) (q : Kp [] wx wy) : Wd w t C B L bn bs wy := ⟨h.gd.grew q, h.pb.kept q (by simp)⟩
theorem Wd.cells {w : World} {t C B : Nat} {L : List Sl} {bn bs : Int} {wx : World} (h : Wd w t C B L bn bs wx) : (wx.cell? ⟨C, 0, none⟩ = some (.int .i64 2) ∧ wx.cell? ⟨C, 1, none⟩ = some (.int .i64 1) ∧ wx.cell? ⟨C, 2, none⟩ = some (.int .i64 0) ∧ wx.cell? ⟨C, 3, none⟩ = some (.int .i64 0) ∧ wx.cell? ⟨C, 4, none⟩ = some (.int .i64 0)) ∧ wx.cell? ⟨B, 0, none⟩ = some (.int .i64 bn) ∧ wx.cell? ⟨B, 1, none⟩ = some (.int .i64 bs) := ⟨h.gd.cells, h.pb.cell rfl, h.pb.cell rfl⟩
theorem Wd.turned {w : World} {t C B : Nat} {L L' : List Sl} {bn bs : Int} {wx wy : World} (h : Wd w t C B L bn bs wx) (X : Tb w t L' wy) (T : Tch w t wx wy) : Wd w t C B L' bn bs wy := by
  obtain ⟨m, hp, _⟩ := h.gd.tb.tab
  exact ⟨⟨X, T.bk h.gd.c (h.gd.c.apart hp.head (by decide))⟩, T.bk h.pb (h.pb.apart hp.head (by decide))⟩
set_option maxRecDepth 4000 in
set_option maxHeartbeats 16000000 in
theorem ways_in (b off cap : Nat) (zs : List Int) (broken kind : Int) (w : World) (h1 : 1 ≤ zs.length) (h5 : zs.length ≤ 5) (hI : ∀ i, i < zs.length → w.cell? ⟨b, off + i, none⟩ = some (.int .i64 (zs.getD i 0))) :
    Calls Try.prog 4 #[.slice (some ⟨b, off, none⟩) zs.length cap, .int .i64 broken, .int .i64 kind] w fun e w' => e = .returned (.bool true) ∧ Below w.heap.size w w' := by
  have x1 : decide ((zs.length : Int) < 1) = false := decide_eq_false (by omega)
  have x2 : decide (5 < (zs.length : Int)) = false := decide_eq_false (by omega)
  obtain ⟨n, hn⟩ : ∃ n, zs.length = n := ⟨_, rfl⟩
  obtain ⟨kf, hkf⟩ : ∃ kf, kfZ zs = kf := ⟨_, rfl⟩
  have hk : Hid (∀ i, kf i < 16) := by rw [← hkf]; exact kfZ_lt zs
  have hz : Hid (∀ i, zs.getD i 0 % 16 = (kf i : Int)) := by rw [← hkf]; exact kfZ_is zs
  rw [hn] at h1 h5 hI x1 x2 ⊢
  replace hI := hide hI
  obtain ⟨V, A, eV, hA, rA, hfind⟩ := find_way (unhide hk) h1 h5
  replace eV := hide eV
  replace hA := hide hA
  replace rA := hide rA
  replace hfind := hide hfind
  clear hkf hn
  go_enter Try.func4, Try.ntmps4
  go_wp2_with fail
  refine (first_calls _).mono ?_
  rintro e W0 ⟨rfl, K0⟩
  have X0 := hide (Tb.of (w := w) K0 rfl (Kp.refl [] _))
  obtain ⟨t, et⟩ : ∃ t, W0.heap.size = t := ⟨_, rfl⟩
  rw [et] at X0
  clear K0
  go_upto_block 0 with fail
  generalize W0.alloc (.cells #[.map none] 50) = W1 at *
  clear et
  go_cut [10] (fun v wx => v = .int .i64 V ∧ ∃ L, Ws kf (n - 1) L ∧ Tb w t L wx)
  case first =>
    go_wp2_with fail
    go_loopg [10, 11] n (fun m v i wx => ∃ j : Nat, m = n - j ∧ j ≤ n ∧ v = .int .i64 (wvF kf j : Int) ∧ i = .int .i64 (j : Int) ∧ ∃ L, Ws kf (min j (n - 1)) L ∧ Tb w t L wx)
    case atStart => exact ⟨0, rfl, by omega, rfl, rfl, [], by rw [Nat.zero_min]; exact ws_zero kf, unhide X0⟩
    case round =>
      obtain ⟨j, rfl, hj, rfl, rfl, L, hW, hT⟩ := hrel
      clear X0
      by_cases hlt : j < n
      · obtain ⟨v, y, ev, bv, ey, eY⟩ := ways_more (unhide hk) j (by omega)
        rw [ev]
        have b1 : (j : Int) < (n : Int) := by omega
        have tj : ((j : Int)).toNat = j := Int.toNat_natCast j
        have c0 := hT.kp.cell (unhide hI j hlt)
        obtain ⟨kj, ekj⟩ : ∃ x : Int, (kf j : Int) = x := ⟨_, rfl⟩
        have bkj : 0 ≤ kj ∧ kj < 16 := by have := unhide hk j; omega
        have hzj := unhide hz j
        rw [ekj] at ey hzj
        obtain ⟨zj, ezj⟩ : ∃ x, zs.getD j 0 = x := ⟨_, rfl⟩
        rw [ezj] at c0 hzj
        replace hzj := hide hzj
        replace ev := hide ev
        replace eY := hide eY
        replace hT := hide hT
        replace hW := hide hW
        clear ezj
        by_cases hl : j < n - 1
        · have b2 : (j : Int) < (n : Int) - 1 := by omega
          rw [Nat.min_eq_left (by omega)] at hW
          obtain ⟨hp, hW'⟩ := ws_put (unhide hk) (unhide hW) (by omega)
          rw [ekj] at hp hW'
          replace hp := hide hp
          replace hW' := hide hW'
          replace ekj := hide ekj
          have hlen : Hid (L.length < 65536) := by have := (unhide hW).len; unfold Hid; omega
          have hin : Hid (PIn (1 + (j : Int), kj)) := pin_of (by omega) (by omega) (by omega) (by omega)
          go_wp2_with fail
          refine (number_to _ _ _ _ (by omega) (by omega) (unhide hzj)).mono ?_
          rintro e w' ⟨rfl, rfl⟩
          go_wp2_with fail
          refine (bput_yes (unhide hT) (unhide hin) pin_zero (unhide hp) (unhide hlen) rfl).mono ?_
          rintro e W2 ⟨rfl, X2, _⟩
          replace X2 := hide X2
          clear c0
          go_wp2
          go_roundg (n - (j + 1))
          case measure => omega
          case rel => exact ⟨j + 1, rfl, by omega, by rw [← unhide eY], by go_num, _, by rw [Nat.min_eq_left (by omega)]; exact unhide hW', unhide X2⟩
        · have b2 : decide ((j : Int) < (n : Int) - 1) = false := by simp; omega
          replace ekj := hide ekj
          go_wp2_with fail
          refine (number_to _ _ _ _ (by omega) (by omega) (unhide hzj)).mono ?_
          rintro e w' ⟨rfl, rfl⟩
          clear c0
          go_wp2
          go_roundg (n - (j + 1))
          case measure => omega
          case rel => exact ⟨j + 1, rfl, by omega, by rw [← unhide eY], by go_num, L, by rw [show min (j + 1) (n - 1) = min j (n - 1) by omega]; exact unhide hW, unhide hT⟩
      · have b1 : decide ((j : Int) < (n : Int)) = false := by simp; omega
        obtain rfl : j = n := by omega
        rw [unhide eV]
        go_wp2
        go_meet
        case rel => exact ⟨rfl, L, by rw [Nat.min_eq_right (by omega)] at hW; exact hW, hT⟩
  case rest =>
    obtain ⟨rfl, L, hW, hT⟩ := hcut
    clear X0
    have c0 := hT.kp.cell (unhide hI (n - 1) (by omega))
    have tn : ((n : Int) - 1).toNat = n - 1 := by omega
    obtain ⟨zl, ezl⟩ : ∃ x, zs.getD (n - 1) 0 = x := ⟨_, rfl⟩
    obtain ⟨kl, ekl⟩ : ∃ x : Int, (kf (n - 1) : Int) = x := ⟨_, rfl⟩
    have bkl : 0 ≤ kl ∧ kl < 16 := by have := unhide hk (n - 1); omega
    have hzl := unhide hz (n - 1)
    rw [ezl, ekl] at hzl
    rw [ezl] at c0
    replace hzl := hide hzl
    have hf1 := (unhide hfind L).trans (ws_find (unhide hk) h1 h5 (fun i hi => hW.nd i (by omega)))
    rw [ekl] at hf1
    have hl1 := ws_empty hW h1
    rw [ekl] at hl1
    obtain ⟨hp1, hE1⟩ := we_of (unhide hk) hW h1 h5
    rw [ekl] at hp1
    have hlen1 : Hid (L.length < 65536) := by have := hW.len; unfold Hid; omega
    have hinl : Hid (PIn ((n : Int), kl)) := pin_of (by omega) (by omega) (by omega) (by omega)
    have bn : (1 : Int) ≤ (n : Int) ∧ (n : Int) ≤ 5 := by omega
    replace hf1 := hide hf1
    replace hl1 := hide hl1
    replace hp1 := hide hp1
    replace hE1 := hide hE1
    replace hT := hide hT
    replace ekl := hide ekl
    clear hW ezl
    go_wp2_with fail
    refine (number_to _ _ _ _ (by omega) (by omega) (unhide hzl)).mono ?_
    rintro e w' ⟨rfl, rfl⟩
    clear c0
    have X2 := hide ((unhide hT).grew ((Kp.refl [] w').alloc (.cells #[.int .i64 n, .int .i64 kl] 40)))
    have B2 := hide (Bk.new w' 40 [.int .i64 n, .int .i64 kl])
    obtain ⟨B, eB⟩ : ∃ B, w'.heap.size = B := ⟨_, rfl⟩
    rw [eB] at B2
    go_wp2_with fail
    generalize w'.alloc (.cells #[.int .i64 n, .int .i64 kl] 40) = W2 at *
    clear eB hT
    refine (join_kp _ _ A _ (unhide hA)).mono ?_
    rintro e W3 ⟨rfl, K3⟩
    have D3 := hide (Wd.mk ⟨(unhide X2).grew (K3.alloc (.cells #[.int .i64 2, .int .i64 1, .int .i64 0, .int .i64 0, .int .i64 0] 24)), Bk.new W3 24 [.int .i64 2, .int .i64 1, .int .i64 0, .int .i64 0, .int .i64 0]⟩ (((unhide B2).kept K3 (by simp)).alloc (.cells #[.int .i64 2, .int .i64 1, .int .i64 0, .int .i64 0, .int .i64 0] 24)))
    obtain ⟨C, eC⟩ : ∃ B, W3.heap.size = B := ⟨_, rfl⟩
    rw [eC] at D3
    clear K3 X2 B2
    obtain ⟨⟨c0, c1, c2, c3, c4⟩, l0, l1⟩ := (unhide D3).cells
    go_wp2_with fail
    generalize W3.alloc (.cells #[.int .i64 2, .int .i64 1, .int .i64 0, .int .i64 0, .int .i64 0] 24) = W4 at *
    clear eC
    refine (bfind (unhide D3).gd.tb (unhide rA) (unhide hf1)).mono ?_
    unfold findV
    rintro e W5 ⟨rfl, K5⟩
    have D5 := hide ((unhide D3).grew (K5.alloc (.cells #[.int .i64 n, .int .i64 kl] 40)))
    have P5 := hide (Bk.new W5 40 [.int .i64 n, .int .i64 kl])
    obtain ⟨Q, eQ⟩ : ∃ B, W5.heap.size = B := ⟨_, rfl⟩
    rw [eQ] at P5
    clear K5 D3 c0 c1 c2 c3 c4 l0 l1
    obtain ⟨⟨c0, c1, c2, c3, c4⟩, l0, l1⟩ := (unhide D5).cells
    go_wp2_with fail
    generalize W5.alloc (.cells #[.int .i64 n, .int .i64 kl] 40) = W6 at *
    clear eQ
    refine (bcap (unhide D5).gd.tb (unhide rA) (unhide hf1) (unhide hl1)).mono ?_
    rintro e W7 ⟨rfl, K7⟩
    have D7 := hide ((unhide D5).grew ((K7.alloc (.cells #[.int .i64 0, .int .i64 0, .int .i64 0, .int .i64 0, .int .i64 0] 24)).alloc (.cells #[.int .i64 0, .int .i64 0] 40)))
    have P7 := (((unhide P5).kept K7 (by simp)).alloc (.cells #[.int .i64 0, .int .i64 0, .int .i64 0, .int .i64 0, .int .i64 0] 24)).alloc (.cells #[.int .i64 0, .int .i64 0] 40)
    have p0 := P7.cell (i := 0) rfl
    have p1 := P7.cell (i := 1) rfl
    clear K7 D5 P5 c0 c1 c2 c3 c4 l0 l1
    obtain ⟨⟨c0, c1, c2, c3, c4⟩, l0, l1⟩ := (unhide D7).cells
    obtain ⟨kk, hkk⟩ : ∃ x, kind % 9 = x := ⟨_, rfl⟩
    have bkk : 0 ≤ kk ∧ kk < 9 := by omega
    replace hkk := hide hkk
    go_wp2_with fail
    generalize (W7.alloc (.cells #[.int .i64 0, .int .i64 0, .int .i64 0, .int .i64 0, .int .i64 0] 24)).alloc (.cells #[.int .i64 0, .int .i64 0] 40) = W8 at *
    generalize W7.heap.size = H7 at *
    clear p0 p1
    refine (number_to _ _ _ _ (by omega) (by omega) (unhide hkk)).mono ?_
    rintro e w' ⟨rfl, rfl⟩
    obtain ⟨kd, ekd⟩ : ∃ x, 1 + kk = x := ⟨_, rfl⟩
    have bkd : 1 ≤ kd ∧ kd ≤ 9 := by omega
    go_wp2_with fail
    refine (bput_yes (unhide D7).gd.tb (unhide hinl) pin_zero (unhide hp1) (unhide hlen1) rfl).mono ?_
    rintro e W9 ⟨rfl, X9, T9⟩
    have D9 := hide ((unhide D7).turned X9 T9)
    have hE2 := unhide hE1
    rw [unhide ekl] at hE2
    obtain ⟨L1, eL1⟩ : ∃ L1, insL L ⟨n, kl, 0, 0, 3, 9, 0, 0, 0⟩ = L1 := ⟨_, rfl⟩
    rw [eL1] at hE2 D9
    have hf2 := (unhide hfind L1).trans (ws_find (unhide hk) h1 h5 hE2.nd)
    have hl2 := we_look hE2 kd (by omega)
    rw [unhide ekl] at hf2 hl2
    replace hE2 := hide hE2
    replace hf2 := hide hf2
    clear X9 T9 D7 eL1 hE1 c0 c1 c2 c3 c4 l0 l1
    obtain ⟨⟨c0, c1, c2, c3, c4⟩, l0, l1⟩ := (unhide D9).cells
    by_cases hn1 : n = 1
    · have n1 : ((n : Int) == 1) = true := beq_iff_eq.2 (by omega)
      replace hn1 := hide hn1
      go_wp2_with fail
      by_cases h3 : kd = 3
      · rw [if_pos h3] at hl2
        subst h3
        replace hl2 := hide hl2
        refine (bcap (unhide D9).gd.tb (unhide rA) (unhide hf2) (unhide hl2)).mono ?_
        rintro e W10 ⟨rfl, K10⟩
        have D10 := hide ((unhide D9).grew ((K10.alloc (.cells #[.int .i64 3, .int .i64 9, .int .i64 0, .int .i64 0, .int .i64 0] 24)).alloc (.cells #[.int .i64 n, .int .i64 kl] 40)))
        clear K10 D9 c0 c1 c2 c3 c4 l0 l1
        obtain ⟨⟨c0, c1, c2, c3, c4⟩, l0, l1⟩ := (unhide D10).cells
        go_wp2
        go_ret
        exact ⟨rfl, (unhide D10).gd.tb.kp.below (Nat.le_refl _) (by simp)⟩
      · rw [if_neg h3] at hl2
        have h3' : (kd == 3) = false := beq_eq_false_iff_ne.2 h3
        replace hl2 := hide hl2
        replace h3 := hide h3
        refine (bcap (unhide D9).gd.tb (unhide rA) (unhide hf2) (unhide hl2)).mono ?_
        rintro e W10 ⟨rfl, K10⟩
        have D10 := hide ((unhide D9).grew ((K10.alloc (.cells #[.int .i64 0, .int .i64 0, .int .i64 0, .int .i64 0, .int .i64 0] 24)).alloc (.cells #[.int .i64 0, .int .i64 0] 40)))
        clear K10 D9 c0 c1 c2 c3 c4 l0 l1
        obtain ⟨⟨c0, c1, c2, c3, c4⟩, l0, l1⟩ := (unhide D10).cells
        go_wp2
        go_ret
        exact ⟨rfl, (unhide D10).gd.tb.kp.below (Nat.le_refl _) (by simp)⟩
    · have n1 : ((n : Int) == 1) = false := beq_eq_false_iff_ne.2 (by omega)
      have n2 : (2 : Int) ≤ (n : Int) := by omega
      obtain ⟨k, hkb⟩ : ∃ k : Nat, broken % ((n : Int) - 1) = (k : Int) := ⟨(broken % ((n : Int) - 1)).toNat, (Int.toNat_of_nonneg (Int.emod_nonneg _ (by omega))).symm⟩
      have bk : k + 1 < n := by
        have := Int.emod_lt_of_pos broken (show (0 : Int) < (n : Int) - 1 by omega)
        omega
      obtain ⟨x, hx, _⟩ := (unhide hE2).nd k bk
      replace hn1 := hide hn1
      replace hkb := hide hkb
      replace hx := hide hx
      go_wp2_with fail
      by_cases h3 : kd = 3
      case' pos =>
        rw [if_pos h3] at hl2
        subst h3
        replace hl2 := hide hl2
        refine (bcap (unhide D9).gd.tb (unhide rA) (unhide hf2) (unhide hl2)).mono ?_
        rintro e W10 ⟨rfl, K10⟩
        have D10 := hide ((unhide D9).grew ((K10.alloc (.cells #[.int .i64 3, .int .i64 9, .int .i64 0, .int .i64 0, .int .i64 0] 24)).alloc (.cells #[.int .i64 n, .int .i64 kl] 40)))
        clear K10 D9 c0 c1 c2 c3 c4 l0 l1
        obtain ⟨⟨c0, c1, c2, c3, c4⟩, l0, l1⟩ := (unhide D10).cells
        go_wp2_with fail
        generalize (W10.alloc (.cells #[.int .i64 3, .int .i64 9, .int .i64 0, .int .i64 0, .int .i64 0] 24)).alloc (.cells #[.int .i64 n, .int .i64 kl] 40) = W11 at *
        generalize W10.heap.size = H10 at *
      case' neg =>
        rw [if_neg h3] at hl2
        have h3' : (kd == 3) = false := beq_eq_false_iff_ne.2 h3
        replace hl2 := hide hl2
        replace h3 := hide h3
        refine (bcap (unhide D9).gd.tb (unhide rA) (unhide hf2) (unhide hl2)).mono ?_
        rintro e W10 ⟨rfl, K10⟩
        have D10 := hide ((unhide D9).grew ((K10.alloc (.cells #[.int .i64 0, .int .i64 0, .int .i64 0, .int .i64 0, .int .i64 0] 24)).alloc (.cells #[.int .i64 0, .int .i64 0] 40)))
        clear K10 D9 c0 c1 c2 c3 c4 l0 l1
        obtain ⟨⟨c0, c1, c2, c3, c4⟩, l0, l1⟩ := (unhide D10).cells
        go_wp2_with fail
        generalize (W10.alloc (.cells #[.int .i64 0, .int .i64 0, .int .i64 0, .int .i64 0, .int .i64 0] 24)).alloc (.cells #[.int .i64 0, .int .i64 0] 40) = W11 at *
        generalize W10.heap.size = H10 at *
      all_goals
        refine (number_to _ _ _ _ (by omega) (by omega) (unhide hkb)).mono ?_
        rintro e w' ⟨rfl, rfl⟩
        have ck := (unhide D10).gd.tb.kp.cell (unhide hI k (by omega))
        have tk : ((k : Int)).toNat = k := Int.toNat_natCast k
        have bk2 : (0 : Int) ≤ (k : Int) ∧ (k : Int) < (n : Int) := by omega
        obtain ⟨zk, ezk⟩ : ∃ x, zs.getD k 0 = x := ⟨_, rfl⟩
        obtain ⟨kx, ekx⟩ : ∃ x : Int, (kf k : Int) = x := ⟨_, rfl⟩
        have bkx : 0 ≤ kx ∧ kx < 16 := by have := unhide hk k; omega
        have hzk := unhide hz k
        rw [ezk, ekx] at hzk
        rw [ezk] at ck
        replace hzk := hide hzk
        clear ezk c0 c1 c2 c3 c4 l0 l1
        go_wp2_with fail
        refine (number_to _ _ _ _ (by omega) (by omega) (unhide hzk)).mono ?_
        rintro e w' ⟨rfl, rfl⟩
        clear ck
        have D12 := hide ((unhide D10).grew ((Kp.refl [] w').alloc (.cells #[.int .i64 (1 + (k : Int)), .int .i64 kx] 40)))
        have P12 := hide (Bk.new w' 40 [.int .i64 (1 + (k : Int)), .int .i64 kx])
        obtain ⟨R, eR⟩ : ∃ B, w'.heap.size = B := ⟨_, rfl⟩
        rw [eR] at P12
        have p0 := (unhide P12).cell (i := 0) rfl
        have p1 := (unhide P12).cell (i := 1) rfl
        go_wp2_with fail
        generalize w'.alloc (.cells #[.int .i64 (1 + (k : Int)), .int .i64 kx] 40) = W12 at *
        clear eR D10
        obtain ⟨L2, u, v, hD, hlen2, hno, hel⟩ := bdrop (unhide D12).gd.tb (unhide hx)
        obtain ⟨hg2, hp2, hg3, hlen3⟩ := we_drop (unhide hk) (unhide hE2) h1 h5 bk hlen2 hno hel
        have hf3 := (unhide hfind L2).trans hg2
        have hf4 := (unhide hfind _).trans hg3
        rw [ekx] at hD hp2 hf4
        replace hD := hide hD
        replace hp2 := hide hp2
        replace hf3 := hide hf3
        replace hf4 := hide hf4
        replace hlen3 := hide hlen3
        have hink : Hid (PIn (1 + (k : Int), kx)) := pin_of (by omega) (by omega) (by omega) (by omega)
        clear hel hno hlen2 hg2 hg3
        replace ekx := hide ekx
        refine (unhide hD).mono ?_
        rintro e W13 ⟨rfl, X13, T13⟩
        have D13 := hide ((unhide D12).turned X13 T13)
        obtain ⟨m12, hm12, _⟩ := (unhide D12).gd.tb.tab
        have P13 := hide (T13.bk (unhide P12) ((unhide P12).apart hm12.head (by decide)))
        clear X13 T13 D12 P12 p0 p1 hm12 hD
        obtain ⟨⟨c0, c1, c2, c3, c4⟩, l0, l1⟩ := (unhide D13).cells
        go_wp2_with fail
        refine (bfind (unhide D13).gd.tb (unhide rA) (unhide hf3)).mono ?_
        unfold findV
        rintro e W14 ⟨rfl, K14⟩
        have D15 := hide ((unhide D13).grew (K14.alloc (.cells #[.int .i64 0, .int .i64 0] 40)))
        have P15 := hide (((unhide P13).kept K14 (by simp)).alloc (.cells #[.int .i64 0, .int .i64 0] 40))
        clear K14 D13 P13 c0 c1 c2 c3 c4 l0 l1
        have p0 := (unhide P15).cell (i := 0) rfl
        have p1 := (unhide P15).cell (i := 1) rfl
        go_wp2_with fail
        generalize W14.alloc (.cells #[.int .i64 0, .int .i64 0] 40) = W15 at *
        generalize W14.heap.size = H14 at *
        refine (bput_yes (unhide D15).gd.tb (unhide hink) pin_zero (unhide hp2) (unhide hlen3) rfl).mono ?_
        rintro e W16 ⟨rfl, X16, T16⟩
        have D16 := hide ((unhide D15).turned X16 T16)
        clear X16 T16 D15 P15 p0 p1
        obtain ⟨⟨c0, c1, c2, c3, c4⟩, l0, l1⟩ := (unhide D16).cells
        go_wp2_with fail
        have hf5 := unhide hf4
        refine (bfind (unhide D16).gd.tb (unhide rA) hf5).mono ?_
        unfold findV
        rintro e W17 ⟨rfl, K17⟩
        have D18 := hide ((unhide D16).grew (K17.alloc (.cells #[.int .i64 0, .int .i64 0] 40)))
        clear K17 D16 c0 c1 c2 c3 c4 l0 l1 hf5
        go_wp2
        go_ret
        exact ⟨rfl, (unhide D18).gd.tb.kp.below (Nat.le_refl _) (by simp)⟩
set_option maxRecDepth 20000 in
set_option maxHeartbeats 1000000 in
theorem ways_out (a : Option Addr) (len cap : Nat) (broken kind : Int) (w : World) (h : len < 1 ∨ 5 < len) (hl : len ≤ 9223372036854775807) :
    Calls Try.prog 4 #[.slice a len cap, .int .i64 broken, .int .i64 kind] w fun e w' => e = .returned (.bool true) ∧ Below w.heap.size w w' := by
  go_enter Try.func4, Try.ntmps4
  go_wp2_with fail
  refine (first_calls _).mono ?_
  rintro e W0 ⟨rfl, K0⟩
  replace K0 := hide K0
  by_cases y1 : len < 1
  · have x1 : decide ((len : Int) < 1) = true := decide_eq_true (by omega)
    clear h
    go_wp2
    go_ret
    exact ⟨rfl, (unhide K0).below (Nat.le_refl _) (by simp)⟩
  · have x1 : decide ((len : Int) < 1) = false := decide_eq_false (by omega)
    have x2 : decide (5 < (len : Int)) = true := decide_eq_true (by omega)
    clear h
    go_wp2
    go_ret
    exact ⟨rfl, (unhide K0).below (Nat.le_refl _) (by simp)⟩
theorem ways_walk (a : Option Addr) (len cap : Nat) (zs : List Int) (broken kind : Int) (w : World) (hl : zs.length = len) (hI : Ints .i64 w a zs) (_ : (Lit.int .i64 broken).wf = true) (_ : (Lit.int .i64 kind).wf = true) :
    Calls Try.prog 4 #[.slice a len cap, .int .i64 broken, .int .i64 kind] w fun e w' => e = .returned (.bool true) ∧ Below w.heap.size w w' := by
  subst hl
  by_cases h : zs.length < 1 ∨ 5 < zs.length
  · exact ways_out a _ cap broken kind w h hI.1
  · obtain ⟨_, _, z1 | ⟨b1, o1, rfl, k1⟩⟩ := hI
    · omega
    exact ways_in b1 o1 cap zs broken kind w (by omega) (by omega) k1
end Go.Proofs.Ytjjgjgncnifjmaa
