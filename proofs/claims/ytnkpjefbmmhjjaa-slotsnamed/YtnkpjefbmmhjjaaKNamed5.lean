/- The walk of SlotsNamed. -/
import Derived.Test.YtnkpjefbmmhjjaaKNm5
import Derived.Test.YtnkpjefbmmhjjaaKArgs
import Derived.Deep.DeepCutAuto
import Derived.Deep.CutBlock
namespace Go.Proofs.Ytnkpjefbmmhjjaa
open Go.RowKit
set_option linter.unusedVariables false
set_option maxHeartbeats 400000 in
theorem named_long (a0 : Option Addr) (len cap : Nat) (a1 : Int) (w : World) (hl : 30 < len) :
    Calls Try.prog 7 #[.slice a0 len cap, .int .i64 a1] w fun e w' => e = .returned (.bool true) ∧ Below w.heap.size w w' := by
  have h2 : (30 : Int) < (len : Int) := by omega
  go_enter Try.func7, Try.ntmps7
  go_wp2_with fail
  refine (first_calls _).mono ?_
  rintro e W0 ⟨rfl, K0⟩
  go_wp2
  go_ret
  exact ⟨rfl, K0.below (Nat.le_refl _) (by simp)⟩
theorem Ints.cellAt {w w' : World} {a : Option Addr} {zs : List Int} (h : Ints .i64 w a zs) (k : Kp [] w w') {j : Nat} (hj : j < zs.length) : ∃ b off, a = some ⟨b, off, none⟩ ∧ w'.cell? ⟨b, off + j, none⟩ = some (.int .i64 (zs.getD j 0)) := by
  obtain ⟨_, _, hz | ⟨b, off, rfl, hc⟩⟩ := h
  · omega
  · exact ⟨b, off, rfl, k.cell (hc j hj)⟩
set_option maxRecDepth 4000 in
set_option maxHeartbeats 4000000 in
theorem named_in (a0 : Option Addr) (cap : Nat) (zs : List Int) (a1 : Int) (w : World) (hl : zs.length ≤ 30) (hI : Ints .i64 w a0 zs) :
    Calls Try.prog 7 #[.slice a0 zs.length cap, .int .i64 a1] w fun e w' => e = .returned (.bool true) ∧ Below w.heap.size w w' := by
  have h2 : decide ((30 : Int) < (zs.length : Int)) = false := by simp; omega
  have HI := hide hI
  clear hI
  obtain ⟨n, hn⟩ : ∃ n, zs.length = n := ⟨_, rfl⟩
  rw [hn] at h2 hl
  rw [hn]
  replace hn := hide hn
  go_enter Try.func7, Try.ntmps7
  go_wp2_with fail
  refine (first_calls _).mono ?_
  rintro e w1 ⟨rfl, K0⟩
  have X0 : Hid (TabIn w w1.heap.size [] (w1.alloc (.cells #[.map none] 27))) := TabIn.of (T := []) K0 rfl (Kp.refl [] _)
  obtain ⟨t, et⟩ : ∃ t, w1.heap.size = t := ⟨_, rfl⟩
  rw [et] at X0
  clear K0
  go_wp2_with fail
  generalize w1.alloc (.cells #[.map none] 27) = w2 at *
  clear et
  go_loopg [7, 8] n (fun m o i wr => ∃ j : Nat, j ≤ n ∧ m = n - j ∧ i = .int .i64 j ∧ TabIn w t (nmS zs j) wr ∧ IRow (t + 1) wr o (nobs zs j))
  case atStart => exact ⟨0, Nat.zero_le _, by omega, rfl, unhide X0, IRow.nil _ _⟩
  case round =>
    obtain ⟨j, hj, rfl, rfl, hT, hO⟩ := hrel
    clear X0
    by_cases hlt : j < n
    · have b1 : (j : Int) < (n : Int) := by omega
      obtain ⟨b, off, ea, ce⟩ := (unhide HI).cellAt hT.kp (j := j) (by have := unhide hn; omega)
      subst ea
      obtain ⟨oa, oc, eo⟩ := hO.form
      rw [nobs_len] at eo
      subst eo
      obtain ⟨ob, hob⟩ : ∃ ob, zs.getD j 0 % 5 = ob := ⟨_, rfl⟩
      have ob1 : 0 ≤ ob ∧ ob < 5 := by omega
      have hnob : Hid (nob zs j = 1 + ob) := hide (by unfold nob; rw [hob])
      obtain ⟨z, hz⟩ : ∃ z, zs.getD j 0 = z := ⟨_, rfl⟩
      rw [hz] at ce hob
      replace hz := hide hz
      replace hob := hide hob
      replace hT := hide hT
      replace hO := hide hO
      go_wp2_with fail
      refine (number_to _ _ _ _ (by omega) (by omega) (unhide hob)).mono ?_
      rintro e wx ⟨rfl, rfl⟩
      have hq1 : IntKind.i64.wrap (1 + ob) = 1 + ob := by rw [IntKind.wrap_i64]; omega
      go_wp2_with (first
        | (at_builtin; refine ilist_app rfl _ _ rfl (t + 1) (.slice oa j oc) wx.heap.size _ (nobs zs j) (1 + ob) rfl rfl ?c0 ?c1 ?c2 ?c3 ?_)
        | go_in)
      case c0 => exact own_grew (unhide hO) ((Kp.refl [] wx).alloc _)
      case c1 => exact (Bk.new wx 3 [.int .i64 (1 + ob)]).cell rfl
      case c2 => rw [nobs_len]; omega
      case c3 => have := (unhide hT).lt; simp; omega
      intro v' W3 hO3 hg3
      have hT3 := hide (((unhide hT).grew ((Kp.refl [] wx).alloc (.cells #[.int .i64 (1 + ob)] 3))).grown hg3 (own_grew (unhide hO) ((Kp.refl [] wx).alloc _)) (by omega))
      rw [← unhide hnob, ← nobs_succ] at hO3
      replace hO3 := hide hO3
      have hP := hide (nm_put zs j (by omega))
      have hIn := hide (nm_ins zs j)
      have hfit : Hid (insL (nmS zs j) ⟨1 + (j : Int) / 16, (j : Int) % 16, 0, 0, 4, 1 + ob, 0, (j : Int), (j : Int) % 8⟩ = nmS zs (j + 1)) := by
        rw [← unhide hnob]
        exact unhide hIn
      rw [unhide hnob] at hP
      clear hg3 hT hO hIn
      have j30 : j < 30 := by omega
      go_wp2_with fail
      refine (tput_yes (unhide hT3) (pin_ok (unhide hP).1) pin_zero (unhide hP) (by rw [nmS_len]; omega) (unhide hfit)).mono ?_
      rintro e W4 ⟨rfl, hT4, hC4⟩
      have hO4 := hide (hC4.own (unhide hO3) (by omega))
      replace hT4 := hide hT4
      clear hC4 hO3 hT3
      go_wp2
      go_roundg (n - (j + 1))
      case measure => omega
      case rel => exact ⟨j + 1, by omega, rfl, by go_num, unhide hT4, unhide hO4⟩
    · have b1 : decide ((j : Int) < (n : Int)) = false := by simp; omega
      obtain rfl : j = n := by omega
      obtain ⟨oa, oc, eo⟩ := hO.form
      rw [nobs_len] at eo
      subst eo
      obtain ⟨ow, how⟩ : ∃ ow, a1 % 5 = ow := ⟨_, rfl⟩
      have ow1 : 0 ≤ ow ∧ ow < 5 := by omega
      replace how := hide how
      replace hT := hide hT
      replace hO := hide hO
      go_wp2_with fail
      refine (number_to _ _ _ _ (by omega) (by omega) (unhide how)).mono ?_
      rintro e wx ⟨rfl, rfl⟩
      go_wp2_with fail
      refine (tnamed (unhide hT) _ _ _ _ _).mono ?_
      rintro e W4 ⟨vg, rfl, hP, hK⟩
      have hT4 := hide ((unhide hT).grew hK)
      have hO4 := hide (own_grew (unhide hO) hK)
      obtain ⟨G, hG⟩ : ∃ G, sel (nameF 4 (1 + ow) 0) (nmS zs j) = G := ⟨_, rfl⟩
      rw [hG] at hP
      obtain ⟨ga, gc, eg⟩ := hP.form
      subst eg
      replace hP := hide hP
      replace hG := hide hG
      clear hK hT hO
      have j30 : j ≤ 30 := hl
      go_wp2_with fail
      go_loopg [12, 13] j (fun m c i wr => ∃ l : Nat, l ≤ j ∧ m = j - l ∧ i = .int .i64 l ∧ c = .int .i64 (cnt zs j (1 + ow) l) ∧ Kp [] W4 wr)
      case atStart => exact ⟨0, Nat.zero_le _, by omega, rfl, by rw [cnt_zero]; rfl, Kp.refl _ _⟩
      case round =>
        obtain ⟨l, hl1, rfl, rfl, rfl, hK⟩ := hrel
        by_cases hlt2 : l < j
        · have b2 : (l : Int) < (j : Int) := by omega
          obtain ⟨g, eg, cg⟩ := IRow.at (unhide hO4) (nobs_get zs j l hlt2)
          subst eg
          replace cg := hK.cell cg
          have tl : ((l : Int)).toNat = l := Int.toNat_natCast l
          have l30 : l < 30 := by omega
          have hcl := cnt_le zs j (1 + ow) l
          obtain ⟨c, hc⟩ : ∃ c, cnt zs j (1 + ow) l = c := ⟨_, rfl⟩
          rw [hc] at hcl
          rw [hc]
          by_cases hq : nob zs l = 1 + ow
          · have hlt3 := cnt_lt zs j (1 + ow) l hlt2 hq
            obtain ⟨y1, y2⟩ := cnt_yes zs j (1 + ow) l hlt2 hq
            rw [unhide hG, hc] at y2 hlt3
            rw [hc] at y1
            have hadr : ∃ g2, ga = some ⟨g2, 0, none⟩ := by
              rcases (unhide hP).addr with ⟨_, e⟩ | ⟨g, cap, e, _⟩
              · rw [e] at hlt3; simp at hlt3
              · cases e; exact ⟨g, rfl⟩
            obtain ⟨g2, eg2⟩ := hadr
            subst eg2
            obtain ⟨x0, x1⟩ := (unhide hP).at y2
            simp only at x0 x1
            replace x0 := hK.cell x0
            replace x1 := hK.cell x1
            rw [hq] at cg
            have tc : ((c : Int)).toNat = c := Int.toNat_natCast c
            have b3 : (c : Int) < (G.length : Int) := by omega
            have b4 : decide ((G.length : Int) ≤ (c : Int)) = false := by simp; omega
            replace hK := hide hK
            replace hc := hide hc
            replace y1 := hide y1
            clear y2 hq
            go_wp2
            go_roundg (j - (l + 1))
            case measure => omega
            case rel => exact ⟨l + 1, by omega, rfl, by go_num, by rw [unhide y1]; go_num, unhide hK⟩
          · have hno := cnt_no zs j (1 + ow) l hlt2 hq
            rw [hc] at hno
            obtain ⟨nb, hnb⟩ : ∃ nb, nob zs l = nb := ⟨_, rfl⟩
            rw [hnb] at cg hq
            have b5 : (nb != 1 + ow) = true := by simp; exact hq
            replace hK := hide hK
            replace hc := hide hc
            replace hno := hide hno
            replace hq := hide hq
            replace hnb := hide hnb
            go_wp2
            go_roundg (j - (l + 1))
            case measure => omega
            case rel => exact ⟨l + 1, by omega, rfl, by go_num, by rw [unhide hno], unhide hK⟩
        · have b2 : decide ((l : Int) < (j : Int)) = false := by simp; omega
          obtain rfl : l = j := by omega
          have hT5 := hide ((unhide hT4).grew hK)
          have hcA := cnt_all zs l (1 + ow)
          rw [unhide hG] at hcA
          rw [hcA]
          have hnn := hide (name_not zs l (1 + ow))
          replace hcA := hide hcA
          clear hK
          go_wp2_with fail
          refine (tnamed (unhide hT5) _ _ _ _ _).mono ?_
          rintro e W6 ⟨v6, rfl, hP6, hK6⟩
          rw [unhide hnn] at hP6
          obtain ⟨a6, c6, e6⟩ := hP6.form
          have e6' : v6 = .slice a6 0 c6 := e6
          subst e6'
          have hT6 := hide ((unhide hT5).grew hK6)
          clear hP6 hK6 e6
          go_wp2
          go_ret
          exact ⟨rfl, (unhide hT6).kp.below (Nat.le_refl _) (by simp)⟩
theorem named_walk (a0 : Option Addr) (len cap : Nat) (zs : List Int) (a1 : Int) (w : World) (hl : zs.length = len) (hI : Ints .i64 w a0 zs) (_ : (Lit.int .i64 a1).wf = true) :
    Calls Try.prog 7 #[.slice a0 len cap, .int .i64 a1] w fun e w' => e = .returned (.bool true) ∧ Below w.heap.size w w' := by
  subst hl
  by_cases h : zs.length ≤ 30
  · exact named_in a0 cap zs a1 w h hI
  · exact named_long a0 _ cap a1 w (by omega)
end Go.Proofs.Ytnkpjefbmmhjjaa
