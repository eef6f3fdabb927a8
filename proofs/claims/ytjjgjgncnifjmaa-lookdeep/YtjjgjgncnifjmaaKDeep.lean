/- The walk of LookDeep. -/
import Derived.Test.YtjjgjgncnifjmaaKDeepM
import Derived.Test.YtjjgjgncnifjmaaKBox
import Derived.Test.YtjjgjgncnifjmaaKArgs
namespace Go.Proofs.Ytjjgjgncnifjmaa
open Go.RowKit
set_option linter.unusedVariables false
theorem pin_deep {n s : Int} (h1 : 0 ≤ n) (h2 : n ≤ 1000000) (h3 : 0 ≤ s) (h4 : s ≤ 1000000) : PIn (n, s) := ⟨in64_of (by show _ ≤ n; omega) (by show n ≤ _; omega), in64_of (by show _ ≤ s; omega) (by show s ≤ _; omega)⟩
/-- The table, the root's box, two places' boxes. -/
structure Dd (w : World) (t C : Nat) (L : List Sl) (k o z b r : Int) (A B : Nat) (an as1 bn bs : Int) (wx : World) : Prop where
  gd : Gd w t C L k o z b r wx
  pa : Bk wx A 40 [.int .i64 an, .int .i64 as1]
  pb : Bk wx B 40 [.int .i64 bn, .int .i64 bs]
theorem Dd.grew {w : World} {t C : Nat} {L : List Sl} {k o z b r : Int} {A B : Nat} {an as1 bn bs : Int} {wx wy : World} (h : Dd w t C L k o z b r A B an as1 bn bs wx) (q : Kp [] wx wy) : Dd w t C L k o z b r A B an as1 bn bs wy := ⟨h.gd.grew q, h.pa.kept q (by simp), h.pb.kept q (by simp)⟩
theorem Dd.tb {w : World} {t C : Nat} {L : List Sl} {k o z b r : Int} {A B : Nat} {an as1 bn bs : Int} {wx : World} (h : Dd w t C L k o z b r A B an as1 bn bs wx) : Tb w t L wx := h.gd.tb
theorem Dd.cells {w : World} {t C : Nat} {L : List Sl} {k o z b r : Int} {A B : Nat} {an as1 bn bs : Int} {wx : World} (h : Dd w t C L k o z b r A B an as1 bn bs wx) : wx.cell? ⟨C, 0, none⟩ = some (.int .i64 k) ∧ wx.cell? ⟨C, 1, none⟩ = some (.int .i64 o) ∧ wx.cell? ⟨C, 2, none⟩ = some (.int .i64 z) ∧ wx.cell? ⟨C, 3, none⟩ = some (.int .i64 b) ∧ wx.cell? ⟨C, 4, none⟩ = some (.int .i64 r) ∧ wx.cell? ⟨A, 0, none⟩ = some (.int .i64 an) ∧ wx.cell? ⟨A, 1, none⟩ = some (.int .i64 as1) ∧ wx.cell? ⟨B, 0, none⟩ = some (.int .i64 bn) ∧ wx.cell? ⟨B, 1, none⟩ = some (.int .i64 bs) := ⟨h.gd.c.cell rfl, h.gd.c.cell rfl, h.gd.c.cell rfl, h.gd.c.cell rfl, h.gd.c.cell rfl, h.pa.cell rfl, h.pa.cell rfl, h.pb.cell rfl, h.pb.cell rfl⟩
set_option maxRecDepth 4000 in
set_option maxHeartbeats 16000000 in
theorem deep_walk (slot n0 : Int) (w : World) (_ : (Lit.int .i64 slot).wf = true) (_ : (Lit.int .i64 n0).wf = true) :
    Calls Try.prog 5 #[.int .i64 slot, .int .i64 n0] w fun e w' => e = .returned (.bool true) ∧ Below w.heap.size w w' := by
  obtain ⟨s, hs⟩ : ∃ s : Nat, slot % 16 = (s : Int) := ⟨(slot % 16).toNat, by omega⟩
  have s1 : s < 16 := by omega
  obtain ⟨E, hE⟩ : ∃ x, n0 % 6 = x := ⟨_, rfl⟩
  have E1 : 0 ≤ E ∧ E < 6 := by omega
  obtain ⟨n, hn⟩ : ∃ n : Nat, 1 + E = (n : Int) := ⟨(1 + E).toNat, by omega⟩
  have n1 : 1 ≤ n ∧ n ≤ 6 := by omega
  obtain ⟨V, A1, A2, eV, j1, j2, r1, r2, f1, f2⟩ := deep_facts s n s1 n1.1 n1.2
  have hput := hide (deep_put s s1)
  have hin : Hid (PIn (3, (s : Int))) := pin_deep (by decide) (by decide) (by omega) (by omega)
  have hmore := hide (fun k hk => deep_more s k s1 hk)
  have hlk := hide (deep_look s)
  have hins : Hid (insL [] ⟨3, (s : Int), 0, 0, 2, 3, 0, 0, 7⟩ = dL s) := rfl
  have s2 : 0 ≤ (s : Int) ∧ (s : Int) < 16 := by omega
  obtain ⟨S, eS⟩ : ∃ S : Int, (s : Int) = S := ⟨_, rfl⟩
  rw [eS] at hs hput hin hlk hins s2 f1
  have eS' := hide eS
  have hmore' : Hid (∀ k : Nat, k < 6 → ∃ V Y : Int, (dv s k : Int) = V ∧ (0 ≤ V ∧ V ≤ 16777216) ∧ bits .or .i64 (V * 16) S = Y ∧ Y = (dv s (k + 1) : Int)) := by
    intro k hk
    obtain ⟨V, Y, a, b, c, d⟩ := unhide hmore k hk
    rw [eS] at c
    exact ⟨V, Y, a, b, c, d⟩
  have eN : Hid ((n : Int) ≤ 6 ∧ 1 ≤ (n : Int)) := by unfold Hid; omega
  clear hmore eS
  replace hs := hide hs
  replace hE := hide hE
  replace eV := hide eV
  replace j1 := hide j1
  replace j2 := hide j2
  replace r1 := hide r1
  replace r2 := hide r2
  replace f1 := hide f1
  replace f2 := hide f2
  replace s1 := hide s1
  go_enter Try.func5, Try.ntmps5
  go_wp2_with fail
  refine (first_calls _).mono ?_
  rintro e W0 ⟨rfl, K0⟩
  replace K0 := hide K0
  go_wp2_with fail
  refine (number_to _ _ _ _ (by omega) (by omega) (unhide hs)).mono ?_
  rintro e w' ⟨rfl, rfl⟩
  go_wp2_with fail
  refine (number_to _ _ _ _ (by omega) (by omega) (unhide hE)).mono ?_
  rintro e w' ⟨rfl, rfl⟩
  have X0 := hide (Tb.of (w := w) (unhide K0) rfl ((Kp.refl [] _).alloc (.cells #[.int .i64 3, .int .i64 S] 40)))
  have B0 := hide (Bk.next (p := w'.heap.size + 1) (w'.alloc (.cells #[.map none] 50)) 40 [.int .i64 3, .int .i64 S] (by simp))
  obtain ⟨t, et⟩ : ∃ t, w'.heap.size = t := ⟨_, rfl⟩
  rw [et] at X0 B0
  have q0 := (unhide B0).cell (i := 0) rfl
  have q1 := (unhide B0).cell (i := 1) rfl
  go_wp2_with fail
  generalize ((w'.alloc (.cells #[.map none] 50)).alloc (.cells #[.int .i64 3, .int .i64 S] 40)) = W1 at *
  clear et K0
  refine (bput_yes (unhide X0) (unhide hin) pin_zero (unhide hput) (by decide) (unhide hins)).mono ?_
  rintro e W2 ⟨rfl, X2, T2⟩
  have B2 := hide (T2.bk (unhide B0) (by omega))
  replace X2 := hide X2
  clear X0 B0 q0 q1 T2
  go_upto_block 0 with fail
  go_cut [8] (fun v wx => v = .int .i64 V ∧ Kp [] W2 wx)
  case first =>
    go_wp2_with fail
    go_loopg [8, 9] n (fun m v i wx => ∃ k : Nat, m = n - k ∧ k ≤ n ∧ v = .int .i64 (dv s k : Int) ∧ i = .int .i64 (k : Int) ∧ wx = W2)
    case atStart => exact ⟨0, rfl, by omega, rfl, rfl, rfl⟩
    case round =>
      obtain ⟨k, rfl, hk, rfl, rfl, rfl⟩ := hrel
      by_cases hlt : k < n
      · obtain ⟨v, y, ev, bv, ey, eY⟩ := unhide hmore' k (by omega)
        rw [ev]
        have b1 : (k : Int) < (n : Int) := by omega
        replace ev := hide ev
        replace eY := hide eY
        go_wp2
        go_roundg (n - (k + 1))
        case measure => omega
        case rel => exact ⟨k + 1, rfl, by omega, by rw [← unhide eY], by go_num, rfl⟩
      · have b1 : decide ((k : Int) < (n : Int)) = false := by simp; omega
        obtain rfl : k = n := by omega
        rw [unhide eV]
        go_wp2
        go_meet
        case rel => exact ⟨rfl, Kp.refl [] _⟩
  case rest =>
    obtain ⟨rfl, hG⟩ := hcut
    have X3 := hide ((unhide X2).grew hG)
    have B3 := hide ((unhide B2).kept hG (by simp))
    clear X2 B2 hG
    have Z := hide (Gd.mk ((unhide X3).grew ((Kp.refl [] wc).alloc (.cells #[.int .i64 2, .int .i64 3, .int .i64 0, .int .i64 0, .int .i64 0] 24))) (Bk.new wc 24 [.int .i64 2, .int .i64 3, .int .i64 0, .int .i64 0, .int .i64 0]))
    have B4 := hide ((unhide B3).alloc (.cells #[.int .i64 2, .int .i64 3, .int .i64 0, .int .i64 0, .int .i64 0] 24))
    obtain ⟨C, eC⟩ : ∃ t, wc.heap.size = t := ⟨_, rfl⟩
    rw [eC] at Z
    go_upto_region 17 with fail
    generalize wc.alloc (.cells #[.int .i64 2, .int .i64 3, .int .i64 0, .int .i64 0, .int .i64 0] 24) = W3 at *
    clear eC X3 B3
    go_cut [11, 12] (fun p e wx => ∃ q, p = .pointer (some ⟨q, 0, none⟩) ∧ e = .int .i64 0 ∧ Bk wx q 40 [.int .i64 3, .int .i64 S] ∧ Kp [] W3 wx)
    case first =>
      have Z0 := hide (Kp.refl [] W3).drew
      go_region_held3 (fun w' => w'.cell? ⟨C, 0, none⟩ = some (.int .i64 2) ∧ w'.cell? ⟨C, 1, none⟩ = some (.int .i64 3) ∧ w'.cell? ⟨C, 2, none⟩ = some (.int .i64 0) ∧ w'.cell? ⟨C, 3, none⟩ = some (.int .i64 0) ∧ w'.cell? ⟨C, 4, none⟩ = some (.int .i64 0)) (first | exact ((unhide Z).grew (unhide Z2)).cells | exact ((unhide Z).grew ((unhide Z2).alloc _)).cells | exact ((unhide Z).grew ((unhide Y2).kp)).cells | exact ((unhide Z).grew ((unhide Y2).put)).cells | exact ((unhide Z).grew ((unhide Y1).kp)).cells | exact ((unhide Z).grew (unhide Z1)).cells | exact ((unhide Z).grew ((unhide Z1).alloc _)).cells | exact ((unhide Z).grew (unhide Z0)).cells | exact ((unhide Z).grew ((unhide Z0).alloc _)).cells) (first
        | (go_at_call 17; refine (join_kp _ _ A1 _ (unhide j1)).mono ?_; rintro e W4 ⟨rfl, K4⟩; have Z1 := hide ((unhide Z0).then K4); clear K4)
        | (go_at_call 17; refine (join_kp _ _ A1 _ (unhide j1)).mono ?_; rintro e W4 ⟨rfl, K4⟩; have Y1 : Hid (Ge W3 W3.heap.size W4) := hide ((Ge.of (unhide Z0)).grew K4); clear K4)
        | (go_at_call 12; refine (bfind ((unhide Z).grew (unhide Z1)).tb (unhide r1) (unhide f1)).mono ?_; unfold findV; rintro e W5 ⟨rfl, K5⟩; have Z2 := hide ((unhide Z1).then K5); clear K5)
        | (go_at_call 12; refine (bfind ((unhide Z).grew (Ge.of (unhide Z1)).kp).tb (unhide r1) (unhide f1)).mono ?_; unfold findV; rintro e W5 ⟨rfl, K5⟩; have Y2 := hide ((Ge.of (unhide Z1)).grew K5); clear K5; obtain ⟨y0, y1, y2⟩ := (unhide Y2).facts)
        | (go_at_call 12; refine (bfind ((unhide Z).grew (unhide Y1).kp).tb (unhide r1) (unhide f1)).mono ?_; unfold findV; rintro e W5 ⟨rfl, K5⟩; have Y2 := hide ((unhide Y1).grew K5); clear K5; obtain ⟨y0, y1, y2⟩ := (unhide Y2).facts))
      all_goals
        go_wp2
        go_meet
        case rel => first | exact ⟨_, rfl, rfl, Bk.new W5 _ _, (unhide Z2).alloc _⟩ | exact ⟨_, rfl, rfl, (unhide Y2).boxed, (unhide Y2).put⟩
    case rest =>
      obtain ⟨q, rfl, rfl, hq, hG⟩ := hcut
      have H2 := hide ((unhide Z).grew hG)
      have B5 := hide ((unhide B4).kept hG (by simp))
      replace hq := hide hq
      clear Z hG B4
      go_upto_region 18 with fail
      go_cut [14] (fun e wx => e = .int .i64 2 ∧ Kp [] wc wx)
      case first =>
        have Z0 := hide (Kp.refl [] wc).drew
        go_region_held3 (fun w' => w'.cell? ⟨C, 0, none⟩ = some (.int .i64 2) ∧ w'.cell? ⟨C, 1, none⟩ = some (.int .i64 3) ∧ w'.cell? ⟨C, 2, none⟩ = some (.int .i64 0) ∧ w'.cell? ⟨C, 3, none⟩ = some (.int .i64 0) ∧ w'.cell? ⟨C, 4, none⟩ = some (.int .i64 0)) (first | exact ((unhide H2).grew (unhide Z2)).cells | exact ((unhide H2).grew ((unhide Z2).alloc _)).cells | exact ((unhide H2).grew ((unhide Y2).kp)).cells | exact ((unhide H2).grew ((unhide Y2).put)).cells | exact ((unhide H2).grew ((unhide Y1).kp)).cells | exact ((unhide H2).grew (unhide Z1)).cells | exact ((unhide H2).grew ((unhide Z1).alloc _)).cells | exact ((unhide H2).grew (unhide Z0)).cells | exact ((unhide H2).grew ((unhide Z0).alloc _)).cells) (first
          | (go_at_call 17; refine (join_kp _ _ A2 _ (unhide j2)).mono ?_; rintro e W4 ⟨rfl, K4⟩; have Z1 := hide ((unhide Z0).then K4); clear K4)
          | (go_at_call 17; refine (join_kp _ _ A2 _ (unhide j2)).mono ?_; rintro e W4 ⟨rfl, K4⟩; have Y1 : Hid (Ge wc wc.heap.size W4) := hide ((Ge.of (unhide Z0)).grew K4); clear K4)
          | (go_at_call 12; refine (bfind ((unhide H2).grew (unhide Z1)).tb (unhide r2) (unhide f2)).mono ?_; unfold findV; rintro e W5 ⟨rfl, K5⟩; have Z2 := hide ((unhide Z1).then K5); clear K5)
          | (go_at_call 12; refine (bfind ((unhide H2).grew (Ge.of (unhide Z1)).kp).tb (unhide r2) (unhide f2)).mono ?_; unfold findV; rintro e W5 ⟨rfl, K5⟩; have Y2 := hide ((Ge.of (unhide Z1)).grew K5); clear K5; obtain ⟨y0, y1, y2⟩ := (unhide Y2).facts)
          | (go_at_call 12; refine (bfind ((unhide H2).grew (unhide Y1).kp).tb (unhide r2) (unhide f2)).mono ?_; unfold findV; rintro e W5 ⟨rfl, K5⟩; have Y2 := hide ((unhide Y1).grew K5); clear K5; obtain ⟨y0, y1, y2⟩ := (unhide Y2).facts))
        all_goals
          go_wp2
          go_meet
          case rel => first | exact ⟨rfl, (unhide Z2).alloc _⟩ | exact ⟨rfl, (unhide Y2).put⟩
      case rest =>
        obtain ⟨rfl, hG⟩ := hcut
        have H3 := hide (Dd.mk ((unhide H2).grew hG) ((unhide B5).kept hG (by simp)) ((unhide hq).kept hG (by simp)))
        clear hG H2 B5 hq
        go_upto_region 19 with fail
        go_cut [15, 16, 17] (fun c p e wx => ∃ u q, c = .pointer (some ⟨u, 0, none⟩) ∧ p = .pointer (some ⟨q, 0, none⟩) ∧ e = .int .i64 0 ∧ (wx.cell? ⟨u, 0, none⟩ = some (.int .i64 2) ∧ wx.cell? ⟨u, 1, none⟩ = some (.int .i64 3) ∧ wx.cell? ⟨u, 2, none⟩ = some (.int .i64 0) ∧ wx.cell? ⟨u, 3, none⟩ = some (.int .i64 0) ∧ wx.cell? ⟨u, 4, none⟩ = some (.int .i64 7)) ∧ (wx.cell? ⟨q, 0, none⟩ = some (.int .i64 3) ∧ wx.cell? ⟨q, 1, none⟩ = some (.int .i64 S)) ∧ Kp [] wc wx)
        case first =>
          have Z0 := hide (Kp.refl [] wc).drew
          go_region_held3 (fun w' => w'.cell? ⟨C, 0, none⟩ = some (.int .i64 2) ∧ w'.cell? ⟨C, 1, none⟩ = some (.int .i64 3) ∧ w'.cell? ⟨C, 2, none⟩ = some (.int .i64 0) ∧ w'.cell? ⟨C, 3, none⟩ = some (.int .i64 0) ∧ w'.cell? ⟨C, 4, none⟩ = some (.int .i64 0) ∧ w'.cell? ⟨t + 1, 0, none⟩ = some (.int .i64 3) ∧ w'.cell? ⟨t + 1, 1, none⟩ = some (.int .i64 S) ∧ w'.cell? ⟨q, 0, none⟩ = some (.int .i64 3) ∧ w'.cell? ⟨q, 1, none⟩ = some (.int .i64 S)) ((refine ((unhide H3).grew ?_).cells; (repeat (with_reducible first | exact unhide Z2 | exact unhide Z1 | exact unhide Z0 | exact ((Kp.refl [] wc).alloc _).drew | exact (((Kp.refl [] wc).alloc _).alloc _).drew | refine Kp.alloc ?_ _ | refine Kp.setCell ?_ (.inr (unhide Q2).nw) _ | refine Kp.setCell ?_ (.inr (unhide P2).nw) _)))) (first
            | (go_at_call 17; refine (join_kp _ _ A1 _ (unhide j1)).mono ?_; rintro e W4 ⟨rfl, K4⟩; (with_reducible first
              | (have Z1 := hide ((unhide Z0).then K4))
              | (have P1 := hide ((BoxP.ofd wc).grew K4); have Z1 := hide (((Kp.refl [] wc).alloc _).drew.then K4))
              | (have Q1 := hide ((BoxQ.ofd wc).grew K4); have Z1 := hide (((Kp.refl [] wc).alloc _).drew.then K4))
              | (have P1 := hide ((BoxP.oldd wc).grew K4); have Q1 := hide ((BoxQ.nextd wc).grew K4); have Z1 := hide ((((Kp.refl [] wc).alloc _).alloc _).drew.then K4))
              | (have Q1 := hide ((BoxQ.oldd wc).grew K4); have P1 := hide ((BoxP.nextd wc).grew K4); have Z1 := hide ((((Kp.refl [] wc).alloc _).alloc _).drew.then K4))); (try (obtain ⟨n1, n2⟩ := (unhide P1).ne)); (try (obtain ⟨n3, n4⟩ := (unhide Q1).ne)); clear K4)
            | (go_at_call 14; (with_reducible first | refine (bcap ((unhide H3).grew (unhide Z1)).tb (unhide r1) (unhide f1) (unhide hlk)).mono ?_ | refine (bcap ((unhide H3).grew ((unhide Z1).alloc _)).tb (unhide r1) (unhide f1) (unhide hlk)).mono ?_ | refine (bcap ((unhide H3).grew (((unhide Z1).alloc _).alloc _)).tb (unhide r1) (unhide f1) (unhide hlk)).mono ?_); rintro e W5 ⟨rfl, K5⟩; (with_reducible first
              | (have Z2 := hide ((unhide Z1).then K5))
              | (have P2 := hide ((BoxP.of (unhide Z1)).grew K5); have Z2 := hide (((unhide Z1).alloc _).then K5))
              | (have Q2 := hide ((BoxQ.of (unhide Z1)).grew K5); have Z2 := hide (((unhide Z1).alloc _).then K5))
              | (have P2 := hide (((BoxP.of (unhide Z1)).grew ((Kp.refl [] _).alloc _)).grew K5); have Q2 := hide ((BoxQ.next (unhide Z1)).grew K5); have Z2 := hide ((((unhide Z1).alloc _).alloc _).then K5))
              | (have Q2 := hide (((BoxQ.of (unhide Z1)).grew ((Kp.refl [] _).alloc _)).grew K5); have P2 := hide ((BoxP.next (unhide Z1)).grew K5); have Z2 := hide ((((unhide Z1).alloc _).alloc _).then K5))); (with_reducible first | (have P2 := hide ((unhide P1).grew K5)) | (have P2 := hide (((unhide P1).grew ((Kp.refl [] _).alloc _)).grew K5)) | skip); (with_reducible first | (have Q2 := hide ((unhide Q1).grew K5)) | (have Q2 := hide (((unhide Q1).grew ((Kp.refl [] _).alloc _)).grew K5)) | skip); clear K5; (try (obtain ⟨y0, y1, y2, y3⟩ := (unhide P2).facts)); (try (obtain ⟨x0, x1, x2, x3, x4, x5, x6⟩ := (unhide Q2).facts))))
          all_goals
            go_wp2
            go_meet
            case rel =>
              with_reducible first
                | exact ⟨_, _, rfl, rfl, rfl, (cpE (unhide Z2) (unhide Q2) (unhide P2)).rel⟩
                | exact ⟨_, _, rfl, rfl, rfl, (cpC (unhide Z2) (unhide Q2)).rel⟩
                | exact ⟨_, _, rfl, rfl, rfl, (cpD (unhide Z2) (unhide P2)).rel⟩
                | exact ⟨_, _, rfl, rfl, rfl, (cpA (unhide Z2)).rel⟩
                | exact ⟨_, _, rfl, rfl, rfl, (cpB (unhide Z2)).rel⟩
        case rest =>
          obtain ⟨u, q2, rfl, rfl, rfl, ⟨hu0, hu1, hu2, hu3, hu4⟩, ⟨hq0, hq1⟩, hKK⟩ := hcut
          have H4 := hide ((unhide H3).grew hKK)
          obtain ⟨c0, c1, c2, c3, c4, p0, p1, p2, p3⟩ := (unhide H4).cells
          clear H3 hKK
          go_wp2
          go_ret
          exact ⟨rfl, (unhide H4).gd.tb.kp.below (Nat.le_refl _) (by simp)⟩
end Go.Proofs.Ytjjgjgncnifjmaa
