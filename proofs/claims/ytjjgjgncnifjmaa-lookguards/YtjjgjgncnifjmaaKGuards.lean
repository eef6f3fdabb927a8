/- The walk of LookGuards. -/
import Derived.Test.YtjjgjgncnifjmaaKGuardM
import Derived.Test.YtjjgjgncnifjmaaKGd
namespace Go.Proofs.Ytjjgjgncnifjmaa
open Go.RowKit
set_option linter.unusedVariables false
theorem pin_small {n s : Int} (h1 : 0 ≤ n) (h2 : n ≤ 1000000) (h3 : 0 ≤ s) (h4 : s ≤ 1000000) : PIn (n, s) := ⟨in64_of (by show _ ≤ n; omega) (by show n ≤ _; omega), in64_of (by show _ ≤ s; omega) (by show s ≤ _; omega)⟩
/-- The numbers' bits. -/
theorem guard_bits (z : Nat) (b s : Int) (hz : 1 ≤ z ∧ z ≤ 8) (hb : 0 ≤ b ∧ b < ((2 ^ z : Nat) : Int)) (hs : 0 ≤ s ∧ s < 16) :
    bits .or .i64 (5 * ((2 ^ z : Nat) : Int)) b = 5 * ((2 ^ z : Nat) : Int) + b ∧ bits .or .i64 ((5 * ((2 ^ z : Nat) : Int) + b) * 16) s = (5 * ((2 ^ z : Nat) : Int) + b) * 16 + s ∧ bits .or .i64 80 s = 80 + s := by
  obtain ⟨bn, rfl⟩ := Int.eq_ofNat_of_zero_le hb.1
  obtain ⟨sn, rfl⟩ := Int.eq_ofNat_of_zero_le hs.1
  have hp := pow24 (z : Int) (by omega) (by omega)
  have hp2 : ((2 ^ z : Nat) : Int) ≤ 256 := by
    have := Nat.pow_le_pow_right (show 0 < 2 by omega) hz.2
    rw [show (2 : Nat) ^ 8 = 256 from rfl] at this
    omega
  have h1 := i64_shl_or 5 z bn (by omega) (by omega)
  have h2 := i64_shl_or (5 * 2 ^ z + bn) 4 sn (by omega) (by rw [show (2 : Nat) ^ 4 = 16 from rfl]; omega)
  have h3 := i64_shl_or 5 4 sn (by omega) (by omega)
  rw [show (2 : Nat) ^ 4 = 16 from rfl] at h2 h3
  refine ⟨?_, ?_, ?_⟩
  · rw [Int.natCast_mul, Int.natCast_add, Int.natCast_mul] at h1; exact h1
  · simp only [Int.natCast_mul, Int.natCast_add] at h2; exact h2
  · exact h3
theorem guard_pow (zi : Int) (h : 1 ≤ zi ∧ zi ≤ 8) : ∃ P X : Int, wrap64 ((2 : Int) ^ zi.toNat) = P ∧ wrap64 (5 * (2 : Int) ^ zi.toNat) = X ∧ (2 ≤ P ∧ P ≤ 256) ∧ X = 5 * P ∧ ((2 ^ zi.toNat : Nat) : Int) = P := by
  have h1 := Nat.pow_le_pow_right (show 0 < 2 by omega) (show zi.toNat ≤ 8 by omega)
  have h2 := Nat.pow_le_pow_right (show 0 < 2 by omega) (show 1 ≤ zi.toNat by omega)
  rw [show (2 : Nat) ^ 8 = 256 from rfl] at h1
  rw [show (2 : Nat) ^ 1 = 2 from rfl] at h2
  have e : (2 : Int) ^ zi.toNat = ((2 ^ zi.toNat : Nat) : Int) := by simp
  refine ⟨((2 ^ zi.toNat : Nat) : Int), 5 * ((2 ^ zi.toNat : Nat) : Int), ?_, ?_, by omega, rfl, rfl⟩
  · rw [e]; unfold wrap64; omega
  · rw [e]; unfold wrap64; omega
theorem guard_way (zi P X g b s : Int) (h : 1 ≤ zi ∧ zi ≤ 8) (hX : X = 5 * P) (hP : ((2 ^ zi.toNat : Nat) : Int) = P) (hPb : 2 ≤ P ∧ P ≤ 256) (hg : 0 ≤ g ∧ g < P) (hb : 0 ≤ b ∧ b < P) (hs : 0 ≤ s ∧ s < 16) :
    ∃ A : Int, joinN (bits .or .i64 (IntKind.i64.wrap (bits .or .i64 (IntKind.i64.wrap (5 * 2 ^ min (IntKind.u64.wrap zi).toNat 64)) b * 16)) s) (IntKind.i64.wrap (8 + zi)) = A ∧ (0 ≤ A ∧ A < 4294967296) ∧ findL [⟨1, 5, 0, 0, 2, 2, zi, g, 1⟩] 2 1 0 0 0 A = if b = g then some (2, s) else none := by
  obtain ⟨z, rfl⟩ := Int.eq_ofNat_of_zero_le (show 0 ≤ zi by omega)
  have e : (z : Int).toNat = z := Int.toNat_natCast z
  change ((2 ^ (z : Int).toNat : Nat) : Int) = P at hP
  rw [e] at hP
  subst hX
  obtain ⟨u1, u2, u3⟩ := guard_bits z b s (by omega) (by rw [hP]; exact hb) hs
  obtain ⟨j, r, f⟩ := guard_find z g b s (by omega) (by rw [hP]; exact hg) (by rw [hP]; exact hb) hs
  have e1 : IntKind.u64.wrap (z : Int) = (z : Int) := IntWalk.u64_in _ ⟨by omega, by omega⟩
  have e2 : min (z : Int).toNat 64 = z := by omega
  have e3 : (5 : Int) * 2 ^ z = 5 * P := by rw [← hP]; simp
  rw [hP] at u1 u2 j r f
  refine ⟨_, ?_, r, f⟩
  show joinN (bits .or .i64 (IntKind.i64.wrap (bits .or .i64 (IntKind.i64.wrap (5 * 2 ^ min (IntKind.u64.wrap (z : Int)).toNat 64)) b * 16)) s) (IntKind.i64.wrap (8 + (z : Int))) = _
  rw [e1, e2, e3, IntWalk.i64_in (5 * P) (by omega), u1, IntWalk.i64_in ((5 * P + b) * 16) (by omega), u2, IntWalk.i64_in (8 + (z : Int)) (by omega)]
  exact j
theorem guard_short (zi g s : Int) (h : 1 ≤ zi ∧ zi ≤ 8) (hs : 0 ≤ s ∧ s < 16) :
    ∃ A : Int, joinN (bits .or .i64 80 s) 8 = A ∧ (0 ≤ A ∧ A < 4294967296) ∧ findL [⟨1, 5, 0, 0, 2, 2, zi, g, 1⟩] 2 1 0 0 0 A = none := by
  obtain ⟨z, rfl⟩ := Int.eq_ofNat_of_zero_le (show 0 ≤ zi by omega)
  obtain ⟨_, _, u3⟩ := guard_bits z 0 s (by omega) ⟨by omega, by have := Nat.two_pow_pos z; omega⟩ hs
  obtain ⟨j, r, f⟩ := guard_less z g s (by omega) hs
  rw [← u3] at j r f
  exact ⟨_, j, r, f⟩
theorem guard_put (zi P g : Int) (h : 1 ≤ zi ∧ zi ≤ 8) (hP : ((2 ^ zi.toNat : Nat) : Int) = P) (hg : 0 ≤ g ∧ g < P) : putP [] 1 5 2 2 zi g 1 0 0 := by
  have hchk : chk 2 2 zi g 1 = true := by
    rw [chk_iff]
    refine ⟨by omega, by omega, by omega, ?_⟩
    unfold fitP
    rw [if_neg (by omega), if_pos rfl, hP]
    exact ⟨by omega, by omega, hg⟩
  exact ⟨by decide, rfl, hchk, .inl ⟨rfl, rfl⟩⟩
set_option maxRecDepth 4000 in
set_option maxHeartbeats 8000000 in
theorem guards_walk (size guard slot bad : Int) (w : World) (_ : (Lit.int .i64 size).wf = true) (_ : (Lit.int .i64 guard).wf = true) (_ : (Lit.int .i64 slot).wf = true) (_ : (Lit.int .i64 bad).wf = true) :
    Calls Try.prog 6 #[.int .i64 size, .int .i64 guard, .int .i64 slot, .int .i64 bad] w fun e w' => e = .returned (.bool true) ∧ Below w.heap.size w w' := by
  obtain ⟨E, hE⟩ : ∃ x, size % 8 = x := ⟨_, rfl⟩
  have E1 : 0 ≤ E ∧ E < 8 := by omega
  obtain ⟨z, hz⟩ : ∃ z : Int, 1 + E = z := ⟨_, rfl⟩
  have z1 : 1 ≤ z ∧ z ≤ 8 := by omega
  obtain ⟨P, X, hW2, hW5, hP1, hX, hP⟩ := guard_pow z z1
  obtain ⟨g, hg⟩ : ∃ x, guard % P = x := ⟨_, rfl⟩
  obtain ⟨s, hs⟩ : ∃ x, slot % 16 = x := ⟨_, rfl⟩
  obtain ⟨b, hb⟩ : ∃ x, bad % P = x := ⟨_, rfl⟩
  have g1 : 0 ≤ g ∧ g < P := by rw [← hg]; exact ⟨Int.emod_nonneg _ (by omega), Int.emod_lt_of_pos _ (by omega)⟩
  have b1 : 0 ≤ b ∧ b < P := by rw [← hb]; exact ⟨Int.emod_nonneg _ (by omega), Int.emod_lt_of_pos _ (by omega)⟩
  have s1 : 0 ≤ s ∧ s < 16 := by omega
  obtain ⟨A1, j1, r1, f1⟩ := guard_way z P X g g s z1 hX hP hP1 g1 g1 s1
  obtain ⟨A2, j2, r2, f2⟩ := guard_way z P X g b s z1 hX hP hP1 g1 b1 s1
  obtain ⟨A3, j3, r3, f3⟩ := guard_short z g s z1 s1
  rw [if_pos rfl] at f1
  have hput := hide (guard_put z P g z1 hP g1)
  have hin : Hid (PIn (1, 5)) := pin_small (by decide) (by decide) (by decide) (by decide)
  clear hX hP
  replace r1 := hide r1
  replace r2 := hide r2
  replace r3 := hide r3
  replace hE := hide hE
  replace hg := hide hg
  replace hs := hide hs
  replace hb := hide hb
  replace j1 := hide j1
  replace j2 := hide j2
  replace j3 := hide j3
  replace f1 := hide f1
  replace f2 := hide f2
  replace f3 := hide f3
  replace g1 := hide g1
  replace b1 := hide b1
  go_enter Try.func6, Try.ntmps6
  go_wp2_with fail
  refine (first_calls _).mono ?_
  rintro e W0 ⟨rfl, K0⟩
  replace K0 := hide K0
  go_wp2_with fail
  refine (number_to _ _ _ _ (by omega) (by omega) (unhide hE)).mono ?_
  rintro e w' ⟨rfl, rfl⟩
  go_wp2_with fail
  refine (number_to _ _ _ _ (by omega) (by omega) (unhide hg)).mono ?_
  rintro e w' ⟨rfl, rfl⟩
  go_wp2_with fail
  refine (number_to _ _ _ _ (by omega) (by omega) (unhide hs)).mono ?_
  rintro e w' ⟨rfl, rfl⟩
  go_wp2_with fail
  refine (number_to _ _ _ _ (by omega) (by omega) (unhide hb)).mono ?_
  rintro e w' ⟨rfl, rfl⟩
  have X0 := hide (Tb.of (w := w) (unhide K0) rfl (Kp.refl [] _))
  obtain ⟨t, et⟩ : ∃ t, w'.heap.size = t := ⟨_, rfl⟩
  rw [et] at X0
  go_wp2_with fail
  refine (bput_yes (unhide X0) (unhide hin) pin_zero (unhide hput) (by decide) (L' := [⟨1, 5, 0, 0, 2, 2, z, g, 1⟩]) rfl).mono ?_
  rintro e W2 ⟨rfl, X2, _⟩
  replace X2 := hide X2
  clear X0 K0 et
  have Z := hide (Gd.mk ((unhide X2).grew ((Kp.refl [] W2).alloc (.cells #[.int .i64 2, .int .i64 1, .int .i64 0, .int .i64 0, .int .i64 0] 24))) (Bk.new W2 24 [.int .i64 2, .int .i64 1, .int .i64 0, .int .i64 0, .int .i64 0]))
  obtain ⟨C, eC⟩ : ∃ t, W2.heap.size = t := ⟨_, rfl⟩
  rw [eC] at Z
  go_upto_region 13 with fail
  generalize W2.alloc (.cells #[.int .i64 2, .int .i64 1, .int .i64 0, .int .i64 0, .int .i64 0] 24) = W3 at *
  clear eC X2
  replace Z := hide (unhide Z)
  go_cut [12, 13] (fun p e wx => ∃ q, p = .pointer (some ⟨q, 0, none⟩) ∧ e = .int .i64 0 ∧ Bk wx q 40 [.int .i64 2, .int .i64 s] ∧ Kp [] W3 wx)
  case first =>
    have Z0 := hide (Kp.refl [] W3).drew
    have H1 := hide (unhide Z)
    clear Z
    go_region_held3 (fun w' => w'.cell? ⟨C, 0, none⟩ = some (.int .i64 2) ∧ w'.cell? ⟨C, 1, none⟩ = some (.int .i64 1) ∧ w'.cell? ⟨C, 2, none⟩ = some (.int .i64 0) ∧ w'.cell? ⟨C, 3, none⟩ = some (.int .i64 0) ∧ w'.cell? ⟨C, 4, none⟩ = some (.int .i64 0)) (first | exact ((unhide H1).grew (unhide Z2)).cells | exact ((unhide H1).grew ((unhide Z2).alloc _)).cells | exact ((unhide H1).grew ((unhide Y2).kp)).cells | exact ((unhide H1).grew ((unhide Y2).put)).cells | exact ((unhide H1).grew ((unhide Y1).kp)).cells | exact ((unhide H1).grew (unhide Z1)).cells | exact ((unhide H1).grew ((unhide Z1).alloc _)).cells | exact ((unhide H1).grew (unhide Z0)).cells | exact ((unhide H1).grew ((unhide Z0).alloc _)).cells) (first
      | (go_at_call 17; refine (join_kp _ _ A1 _ (unhide j1)).mono ?_; rintro e W4 ⟨rfl, K4⟩; have Z1 := hide ((unhide Z0).then K4); clear K4)
      | (go_at_call 17; refine (join_kp _ _ A1 _ (unhide j1)).mono ?_; rintro e W4 ⟨rfl, K4⟩; have Y1 : Hid (Ge W3 W3.heap.size W4) := hide ((Ge.of (unhide Z0)).grew K4); clear K4)
      | (go_at_call 12; refine (bfind ((unhide H1).grew (unhide Z1)).tb (unhide r1) (unhide f1)).mono ?_; unfold findV; rintro e W5 ⟨rfl, K5⟩; have Z2 := hide ((unhide Z1).then K5); clear K5)
      | (go_at_call 12; refine (bfind ((unhide H1).grew (Ge.of (unhide Z1)).kp).tb (unhide r1) (unhide f1)).mono ?_; unfold findV; rintro e W5 ⟨rfl, K5⟩; have Y2 := hide ((Ge.of (unhide Z1)).grew K5); clear K5; obtain ⟨y0, y1, y2⟩ := (unhide Y2).facts)
      | (go_at_call 12; refine (bfind ((unhide H1).grew (unhide Y1).kp).tb (unhide r1) (unhide f1)).mono ?_; unfold findV; rintro e W5 ⟨rfl, K5⟩; have Y2 := hide ((unhide Y1).grew K5); clear K5; obtain ⟨y0, y1, y2⟩ := (unhide Y2).facts))
    all_goals
      go_wp2
      go_meet
      case rel => first | exact ⟨_, rfl, rfl, Bk.new W5 _ _, (unhide Z2).alloc _⟩ | exact ⟨_, rfl, rfl, (unhide Y2).boxed, (unhide Y2).put⟩
  case rest =>
    obtain ⟨q, rfl, rfl, hq, hG⟩ := hcut
    have H2 := hide ((unhide Z).grew hG)
    replace hq := hide hq
    clear Z hG
    obtain ⟨F2, hF2⟩ : ∃ F : Int, (if b = g then (0 : Int) else 2) = F := ⟨_, rfl⟩
    replace hF2 := hide hF2
    go_upto_region 14 with fail
    go_cut [15] (fun e wx => e = .int .i64 F2 ∧ Kp [] wc wx)
    case first =>
      have Z0 := hide (Kp.refl [] wc).drew
      by_cases hbg : b = g
      · have f2' := unhide f2
        rw [if_pos hbg] at f2'
        clear f2
        have f2 := hide f2'
        clear f2'
        replace hbg := hide hbg
        go_region_held3 (fun w' => w'.cell? ⟨C, 0, none⟩ = some (.int .i64 2) ∧ w'.cell? ⟨C, 1, none⟩ = some (.int .i64 1) ∧ w'.cell? ⟨C, 2, none⟩ = some (.int .i64 0) ∧ w'.cell? ⟨C, 3, none⟩ = some (.int .i64 0) ∧ w'.cell? ⟨C, 4, none⟩ = some (.int .i64 0)) (first | exact ((unhide H2).grew (unhide Z2)).cells | exact ((unhide H2).grew ((unhide Z2).alloc _)).cells | exact ((unhide H2).grew ((unhide Y2).kp)).cells | exact ((unhide H2).grew ((unhide Y2).put)).cells | exact ((unhide H2).grew ((unhide Y1).kp)).cells | exact ((unhide H2).grew (unhide Z1)).cells | exact ((unhide H2).grew ((unhide Z1).alloc _)).cells | exact ((unhide H2).grew (unhide Z0)).cells | exact ((unhide H2).grew ((unhide Z0).alloc _)).cells) (first
          | (go_at_call 17; refine (join_kp _ _ A2 _ (unhide j2)).mono ?_; rintro e W4 ⟨rfl, K4⟩; have Z1 := hide ((unhide Z0).then K4); clear K4)
          | (go_at_call 17; refine (join_kp _ _ A2 _ (unhide j2)).mono ?_; rintro e W4 ⟨rfl, K4⟩; have Y1 : Hid (Ge wc wc.heap.size W4) := hide ((Ge.of (unhide Z0)).grew K4); clear K4)
          | (go_at_call 12; refine (bfind ((unhide H2).grew (unhide Z1)).tb (unhide r2) (unhide f2)).mono ?_; unfold findV; rintro e W5 ⟨rfl, K5⟩; have Z2 := hide ((unhide Z1).then K5); clear K5)
          | (go_at_call 12; refine (bfind ((unhide H2).grew (Ge.of (unhide Z1)).kp).tb (unhide r2) (unhide f2)).mono ?_; unfold findV; rintro e W5 ⟨rfl, K5⟩; have Y2 := hide ((Ge.of (unhide Z1)).grew K5); clear K5; obtain ⟨y0, y1, y2⟩ := (unhide Y2).facts)
          | (go_at_call 12; refine (bfind ((unhide H2).grew (unhide Y1).kp).tb (unhide r2) (unhide f2)).mono ?_; unfold findV; rintro e W5 ⟨rfl, K5⟩; have Y2 := hide ((unhide Y1).grew K5); clear K5; obtain ⟨y0, y1, y2⟩ := (unhide Y2).facts))
        all_goals
          go_wp2
          go_meet
          case rel => first | exact ⟨by rw [← unhide hF2, if_pos (unhide hbg)], (unhide Z2).alloc _⟩ | exact ⟨by rw [← unhide hF2, if_pos (unhide hbg)], (unhide Y2).put⟩
      · have f2' := unhide f2
        rw [if_neg hbg] at f2'
        clear f2
        have f2 := hide f2'
        clear f2'
        replace hbg := hide hbg
        go_region_held3 (fun w' => w'.cell? ⟨C, 0, none⟩ = some (.int .i64 2) ∧ w'.cell? ⟨C, 1, none⟩ = some (.int .i64 1) ∧ w'.cell? ⟨C, 2, none⟩ = some (.int .i64 0) ∧ w'.cell? ⟨C, 3, none⟩ = some (.int .i64 0) ∧ w'.cell? ⟨C, 4, none⟩ = some (.int .i64 0)) (first | exact ((unhide H2).grew (unhide Z2)).cells | exact ((unhide H2).grew ((unhide Z2).alloc _)).cells | exact ((unhide H2).grew ((unhide Y2).kp)).cells | exact ((unhide H2).grew ((unhide Y2).put)).cells | exact ((unhide H2).grew ((unhide Y1).kp)).cells | exact ((unhide H2).grew (unhide Z1)).cells | exact ((unhide H2).grew ((unhide Z1).alloc _)).cells | exact ((unhide H2).grew (unhide Z0)).cells | exact ((unhide H2).grew ((unhide Z0).alloc _)).cells) (first
          | (go_at_call 17; refine (join_kp _ _ A2 _ (unhide j2)).mono ?_; rintro e W4 ⟨rfl, K4⟩; have Z1 := hide ((unhide Z0).then K4); clear K4)
          | (go_at_call 17; refine (join_kp _ _ A2 _ (unhide j2)).mono ?_; rintro e W4 ⟨rfl, K4⟩; have Y1 : Hid (Ge wc wc.heap.size W4) := hide ((Ge.of (unhide Z0)).grew K4); clear K4)
          | (go_at_call 12; refine (bfind ((unhide H2).grew (unhide Z1)).tb (unhide r2) (unhide f2)).mono ?_; unfold findV; rintro e W5 ⟨rfl, K5⟩; have Z2 := hide ((unhide Z1).then K5); clear K5)
          | (go_at_call 12; refine (bfind ((unhide H2).grew (Ge.of (unhide Z1)).kp).tb (unhide r2) (unhide f2)).mono ?_; unfold findV; rintro e W5 ⟨rfl, K5⟩; have Y2 := hide ((Ge.of (unhide Z1)).grew K5); clear K5; obtain ⟨y0, y1, y2⟩ := (unhide Y2).facts)
          | (go_at_call 12; refine (bfind ((unhide H2).grew (unhide Y1).kp).tb (unhide r2) (unhide f2)).mono ?_; unfold findV; rintro e W5 ⟨rfl, K5⟩; have Y2 := hide ((unhide Y1).grew K5); clear K5; obtain ⟨y0, y1, y2⟩ := (unhide Y2).facts))
        all_goals
          go_wp2
          go_meet
          case rel => first | exact ⟨by rw [← unhide hF2, if_neg (unhide hbg)], (unhide Z2).alloc _⟩ | exact ⟨by rw [← unhide hF2, if_neg (unhide hbg)], (unhide Y2).put⟩
    case rest =>
      obtain ⟨rfl, hG⟩ := hcut
      have H3 := hide ((unhide H2).grew hG)
      have hq3 := hide ((unhide hq).kept hG (by simp))
      clear hG H2 hq
      go_upto_region 15 with fail
      go_cut [17] (fun e wx => e = .int .i64 2 ∧ Kp [] wc wx)
      case first =>
        have Z0 := hide (Kp.refl [] wc).drew
        go_region_held3 (fun w' => w'.cell? ⟨C, 0, none⟩ = some (.int .i64 2) ∧ w'.cell? ⟨C, 1, none⟩ = some (.int .i64 1) ∧ w'.cell? ⟨C, 2, none⟩ = some (.int .i64 0) ∧ w'.cell? ⟨C, 3, none⟩ = some (.int .i64 0) ∧ w'.cell? ⟨C, 4, none⟩ = some (.int .i64 0)) (first | exact ((unhide H3).grew (unhide Z2)).cells | exact ((unhide H3).grew ((unhide Z2).alloc _)).cells | exact ((unhide H3).grew ((unhide Y2).kp)).cells | exact ((unhide H3).grew ((unhide Y2).put)).cells | exact ((unhide H3).grew ((unhide Y1).kp)).cells | exact ((unhide H3).grew (unhide Z1)).cells | exact ((unhide H3).grew ((unhide Z1).alloc _)).cells | exact ((unhide H3).grew (unhide Z0)).cells | exact ((unhide H3).grew ((unhide Z0).alloc _)).cells) (first
          | (go_at_call 17; refine (join_kp _ _ A3 _ (unhide j3)).mono ?_; rintro e W4 ⟨rfl, K4⟩; have Z1 := hide ((unhide Z0).then K4); clear K4)
          | (go_at_call 17; refine (join_kp _ _ A3 _ (unhide j3)).mono ?_; rintro e W4 ⟨rfl, K4⟩; have Y1 : Hid (Ge wc wc.heap.size W4) := hide ((Ge.of (unhide Z0)).grew K4); clear K4)
          | (go_at_call 12; refine (bfind ((unhide H3).grew (unhide Z1)).tb (unhide r3) (unhide f3)).mono ?_; unfold findV; rintro e W5 ⟨rfl, K5⟩; have Z2 := hide ((unhide Z1).then K5); clear K5)
          | (go_at_call 12; refine (bfind ((unhide H3).grew (Ge.of (unhide Z1)).kp).tb (unhide r3) (unhide f3)).mono ?_; unfold findV; rintro e W5 ⟨rfl, K5⟩; have Y2 := hide ((Ge.of (unhide Z1)).grew K5); clear K5; obtain ⟨y0, y1, y2⟩ := (unhide Y2).facts)
          | (go_at_call 12; refine (bfind ((unhide H3).grew (unhide Y1).kp).tb (unhide r3) (unhide f3)).mono ?_; unfold findV; rintro e W5 ⟨rfl, K5⟩; have Y2 := hide ((unhide Y1).grew K5); clear K5; obtain ⟨y0, y1, y2⟩ := (unhide Y2).facts))
        all_goals
          go_wp2
          go_meet
          case rel => first | exact ⟨rfl, (unhide Z2).alloc _⟩ | exact ⟨rfl, (unhide Y2).put⟩
      case rest =>
        obtain ⟨rfl, hG⟩ := hcut
        have hB := hide (((unhide H3).grew hG).tb.kp.below (Nat.le_refl _) (by simp))
        have hq4 := (unhide hq3).kept hG (by simp)
        have q0 := hq4.cell (i := 0) rfl
        have q1 := hq4.cell (i := 1) rfl
        clear hG H3 hq3 hq4 f1 f2 f3 j1 j2 j3 r1 r2 r3
        by_cases hbg : b = g
        · have e2 : F2 = 0 := by rw [← unhide hF2, if_pos hbg]
          subst e2
          have eb : (b == g) = true := beq_iff_eq.2 hbg
          replace hbg := hide hbg
          go_wp2
          go_ret
          exact ⟨rfl, unhide hB⟩
        · have e2 : F2 = 2 := by rw [← unhide hF2, if_neg hbg]
          subst e2
          have eb : (b == g) = false := beq_eq_false_iff_ne.2 hbg
          replace hbg := hide hbg
          go_wp2
          go_ret
          exact ⟨rfl, unhide hB⟩
end Go.Proofs.Ytjjgjgncnifjmaa
