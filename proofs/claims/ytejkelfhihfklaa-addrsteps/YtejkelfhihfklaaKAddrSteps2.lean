/- The walk of AddrSteps. -/
import Derived.Test.YtejkelfhihfklaaKAddrSteps
import Derived.Test.YtejkelfhihfklaaKArgs
import Derived.Test.YtejkelfhihfklaaKCapAt
import Derived.Deep.CutBlock
import Derived.Deep.DeepCutAuto
import Derived.Deep.LoopGhost
namespace Go.Proofs.Ytejkelfhihfklaa
open Go.RowKit
set_option linter.unusedVariables false
def szF (ss : List Int) (i : Nat) : Nat := (ss.getD i 0 % 4).toNat
def gdF (gs ss : List Int) (i : Nat) : Nat := (gs.getD i 0 % ((2 ^ szF ss i : Nat) : Int)).toNat
def slF (xs : List Int) (i : Nat) : Nat := (xs.getD i 0 % 16).toNat
theorem szF_lt (ss : List Int) (i : Nat) : szF ss i < 4 := by unfold szF; omega
theorem slF_lt (xs : List Int) (i : Nat) : slF xs i < 16 := by unfold slF; omega
theorem pow_posI (k : Nat) : 0 < ((2 ^ k : Nat) : Int) := by have := Nat.two_pow_pos k; omega
theorem gdF_lt (gs ss : List Int) (i : Nat) : gdF gs ss i < 2 ^ szF ss i := by
  have h := Int.emod_lt_of_pos (gs.getD i 0) (pow_posI (szF ss i))
  have h0 := Int.emod_nonneg (gs.getD i 0) (Int.ne_of_gt (pow_posI (szF ss i)))
  unfold gdF; omega
/-- What one round puts behind what was there. -/
theorem way_more (xs gs ss : List Int) (k : Nat) (h24 : wayD (szF ss) (k + 1) ≤ 24) :
    ∃ S P G T X Y Z : Int, ss.getD k 0 % 4 = S ∧ (0 ≤ S ∧ S < 4) ∧ S = (szF ss k : Int) ∧ wrap64 (2 ^ S.toNat) = P ∧ (1 ≤ P ∧ P ≤ 8) ∧ gs.getD k 0 % P = G ∧ xs.getD k 0 % 16 = T ∧ wrap64 ((wayV (szF ss) (gdF gs ss) (slF xs) k : Int) * 2 ^ S.toNat) = X ∧ bits .or .i64 X G = Y ∧ bits .or .i64 (Y * 16) T = Z ∧ (0 ≤ Y ∧ Y < 1048576) ∧ Z = (wayV (szF ss) (gdF gs ss) (slF xs) (k + 1) : Int) := by
  have hz := szF_lt ss k
  have hg := gdF_lt gs ss k
  have hs := slF_lt xs k
  have hv := wayV_lt (szF ss) (gdF gs ss) (slF xs) (gdF_lt gs ss) (slF_lt xs) (k + 1)
  have hp := Nat.pow_le_pow_right (show 0 < 2 by omega) h24
  rw [show (2 : Nat) ^ 24 = 16777216 from rfl] at hp
  have eV : wayV (szF ss) (gdF gs ss) (slF xs) (k + 1) = (wayV (szF ss) (gdF gs ss) (slF xs) k * 2 ^ szF ss k + gdF gs ss k) * 16 + slF xs k := rfl
  have hp8 := Nat.pow_le_pow_right (show 0 < 2 by omega) (show szF ss k ≤ 3 by omega)
  have hp1 := Nat.two_pow_pos (szF ss k)
  rw [show (2 : Nat) ^ 3 = 8 from rfl] at hp8
  have eS : ss.getD k 0 % 4 = (szF ss k : Int) := by unfold szF; omega
  have eG : gs.getD k 0 % ((2 ^ szF ss k : Nat) : Int) = (gdF gs ss k : Int) := by
    have h0 := Int.emod_nonneg (gs.getD k 0) (Int.ne_of_gt (pow_posI (szF ss k)))
    unfold gdF; omega
  have eT : xs.getD k 0 % 16 = (slF xs k : Int) := by unfold slF; omega
  refine ⟨(szF ss k : Int), ((2 ^ szF ss k : Nat) : Int), (gdF gs ss k : Int), (slF xs k : Int), ((wayV (szF ss) (gdF gs ss) (slF xs) k * 2 ^ szF ss k : Nat) : Int), ((wayV (szF ss) (gdF gs ss) (slF xs) k * 2 ^ szF ss k + gdF gs ss k : Nat) : Int), (wayV (szF ss) (gdF gs ss) (slF xs) (k + 1) : Int), eS, by omega, rfl, ?_, by omega, eG, eT, ?_, ?_, ?_, by omega, rfl⟩
  · rw [Int.toNat_natCast, ipow]; unfold wrap64; omega
  · rw [Int.toNat_natCast, ishl]; unfold wrap64; omega
  · exact i64_shl_or _ _ _ hg (by omega)
  · have h := i64_shl_or (wayV (szF ss) (gdF gs ss) (slF xs) k * 2 ^ szF ss k + gdF gs ss k) 4 (slF xs k) hs (by rw [show (2 : Nat) ^ 4 = 16 from rfl]; omega)
    rw [show (2 : Nat) ^ 4 = 16 from rfl] at h
    rw [eV, ← h]
    congr 1
/-- What one round takes off again. -/
theorem way_back (xs gs ss : List Int) (n k : Nat) (hlt : k < n) (h24 : wayD (szF ss) n ≤ 24) (V D : Int) (hV : (wayT (szF ss) (gdF gs ss) (slF xs) n k : Int) = V) (hD : ((wayD (szF ss) n - wayD (szF ss) k : Nat) : Int) = D) :
    ∃ S P G T E X M Q : Int, ss.getD k 0 % 4 = S ∧ (0 ≤ S ∧ S < 4) ∧ wrap64 (2 ^ S.toNat) = P ∧ (1 ≤ P ∧ P ≤ 8) ∧ gs.getD k 0 % P = G ∧ xs.getD k 0 % 16 = T ∧ (stepP 2 1 S G 0 V D ∧ V / ((2 ^ (D - S - 4).toNat : Nat) : Int) % 16 = T) ∧ D - S - 4 = E ∧ bits .xor .i64 G 1 = X ∧ ¬ stepP 2 1 S X 0 V D ∧ (0 ≤ E ∧ E ≤ 24) ∧ wrap64 (2 ^ E.toNat) = M ∧ (1 ≤ M ∧ M ≤ 16777216) ∧ bits .and .i64 V (M - 1) = Q ∧ E = ((wayD (szF ss) n - wayD (szF ss) (k + 1) : Nat) : Int) ∧ Q = (wayT (szF ss) (gdF gs ss) (slF xs) n (k + 1) : Int) := by
  have hz := szF_lt ss k
  have hg := gdF_lt gs ss k
  have hp8 := Nat.pow_le_pow_right (show 0 < 2 by omega) (show szF ss k ≤ 3 by omega)
  have hp1 := Nat.two_pow_pos (szF ss k)
  rw [show (2 : Nat) ^ 3 = 8 from rfl] at hp8
  have eS : ss.getD k 0 % 4 = (szF ss k : Int) := by unfold szF; omega
  have eG : gs.getD k 0 % ((2 ^ szF ss k : Nat) : Int) = (gdF gs ss k : Int) := by
    have h0 := Int.emod_nonneg (gs.getD k 0) (Int.ne_of_gt (pow_posI (szF ss k)))
    unfold gdF; omega
  have eT : xs.getD k 0 % 16 = (slF xs k : Int) := by unfold slF; omega
  obtain ⟨h1, h2, h3, h4⟩ := way_step (szF ss) (gdF gs ss) (slF xs) (gdF_lt gs ss) (slF_lt xs) (szF_lt ss) n k hlt h24 V D _ _ _ hV.symm hD.symm rfl rfl rfl
  obtain ⟨x, hx, hne, _⟩ := i64_xor1 (gdF gs ss k) (by omega)
  have hE : wayD (szF ss) n - wayD (szF ss) (k + 1) ≤ 24 := by omega
  have hM := pow24 ((wayD (szF ss) n - wayD (szF ss) (k + 1) : Nat) : Int) (by omega) (by omega)
  have hW := wrap_pow ((wayD (szF ss) n - wayD (szF ss) (k + 1) : Nat) : Int) (by omega) (by omega)
  have hv := wayT_lt (szF ss) (gdF gs ss) (slF xs) n k
  have hp := Nat.pow_le_pow_right (show 0 < 2 by omega) (show wayD (szF ss) n - wayD (szF ss) k ≤ 24 by omega)
  rw [show (2 : Nat) ^ 24 = 16777216 from rfl] at hp
  refine ⟨_, _, _, _, _, _, _, _, eS, by omega, ?_, ?_, eG, eT, ⟨h1, h2⟩, h3, hx, h4 _ (by omega), by omega, hW, hM, ?_, rfl, rfl⟩
  · rw [Int.toNat_natCast, ipow]; unfold wrap64; omega
  · omega
  · rw [Int.toNat_natCast, ← hV, ← wayT_next (szF ss) (gdF gs ss) (slF xs) n k hlt]
    have := i64_low (wayT (szF ss) (gdF gs ss) (slF xs) n k) (wayD (szF ss) n - wayD (szF ss) (k + 1)) (by omega) (by omega)
    rw [← this]
    congr 1
    have := Nat.two_pow_pos (wayD (szF ss) n - wayD (szF ss) (k + 1))
    omega
def SzP (w : World) (xs gs ss : List Int) (v d n : Value) (wx : World) : Prop := ∃ k : Nat, k ≤ xs.length ∧ v = .int .i64 (wayV (szF ss) (gdF gs ss) (slF xs) k : Int) ∧ d = .int .i64 (wayD (szF ss) k : Int) ∧ n = .int .i64 (k : Int) ∧ wayD (szF ss) k ≤ 24 ∧ Kp [] w wx
set_option maxHeartbeats 2000000 in
set_option maxRecDepth 20000 in
theorem steps_in (b1 o1 b2 o2 b3 o3 c1 c2 c3 : Nat) (xs gs ss : List Int) (w : World) (h1 : 1 ≤ xs.length) (h5 : xs.length ≤ 5) (hg : xs.length ≤ gs.length) (hs : xs.length ≤ ss.length) (hG : gs.length ≤ 9223372036854775807) (hS : ss.length ≤ 9223372036854775807)
    (i1 : ∀ i, i < xs.length → w.cell? ⟨b1, o1 + i, none⟩ = some (.int .i64 (xs.getD i 0))) (i2 : ∀ i, i < gs.length → w.cell? ⟨b2, o2 + i, none⟩ = some (.int .i64 (gs.getD i 0))) (i3 : ∀ i, i < ss.length → w.cell? ⟨b3, o3 + i, none⟩ = some (.int .i64 (ss.getD i 0))) :
    Calls Try.prog 5 #[.slice (some ⟨b1, o1, none⟩) xs.length c1, .slice (some ⟨b2, o2, none⟩) gs.length c2, .slice (some ⟨b3, o3, none⟩) ss.length c3] w fun e w' => e = .returned (.bool true) ∧ Below w.heap.size w w' := by
  have x1 : decide ((xs.length : Int) < 1) = false := decide_eq_false (by omega)
  have x2 : decide (5 < (xs.length : Int)) = false := decide_eq_false (by omega)
  have x3 : decide ((gs.length : Int) < (xs.length : Int)) = false := decide_eq_false (by omega)
  have x4 : decide ((ss.length : Int) < (xs.length : Int)) = false := decide_eq_false (by omega)
  have x5 : decide (gs.length < xs.length) = false := decide_eq_false (by omega)
  have x6 : decide (ss.length < xs.length) = false := decide_eq_false (by omega)
  replace i1 := hide i1
  replace i2 := hide i2
  replace i3 := hide i3
  go_enter Try.func5, Try.ntmps5
  go_wp2_with fail
  refine (first_kp _).mono ?_
  rintro e W0 ⟨rfl, K0⟩
  replace K0 := hide K0
  go_upto_block 0 with fail
  go_cut [8, 9, 10] (fun v d n wx => SzP w xs gs ss v d n wx)
  case first =>
    go_wp2_with fail
    go_loopg [8, 9, 10] xs.length (fun m v d n wx => ∃ k : Nat, m = xs.length - k ∧ k ≤ xs.length ∧ v = .int .i64 (wayV (szF ss) (gdF gs ss) (slF xs) k : Int) ∧ d = .int .i64 (wayD (szF ss) k : Int) ∧ n = .int .i64 (k : Int) ∧ wayD (szF ss) k ≤ 24 ∧ Kp [] w wx)
    case atStart => exact ⟨0, rfl, by omega, rfl, rfl, rfl, by show 0 ≤ 24; omega, unhide K0⟩
    case round =>
      obtain ⟨k, rfl, hk, rfl, rfl, rfl, h24, hK⟩ := hrel
      clear K0
      by_cases hlt : k < xs.length
      · have y1 := hK.cell (unhide i1 k hlt)
        have y2 := hK.cell (unhide i2 k (by omega))
        have y3 := hK.cell (unhide i3 k (by omega))
        obtain ⟨D, hD⟩ : ∃ D : Int, (wayD (szF ss) k : Int) = D := ⟨_, rfl⟩
        have D1 : 0 ≤ D ∧ D ≤ 24 := by omega
        obtain ⟨V, hV⟩ : ∃ V : Int, (wayV (szF ss) (gdF gs ss) (slF xs) k : Int) = V := ⟨_, rfl⟩
        have mD : wayD (szF ss) (k + 1) = wayD (szF ss) k + szF ss k + 4 := rfl
        by_cases hfit : wayD (szF ss) (k + 1) ≤ 24
        · obtain ⟨S, P, G, T, X, Y, Z, m1, m2, m3, m4, m5, m6, m7, m8, m9, m10, m11, m12⟩ := way_more xs gs ss k hfit
          have z1 : decide (24 < D + S + 4) = false := decide_eq_false (by omega)
          have HR := hide (show Z = (wayV (szF ss) (gdF gs ss) (slF xs) (k + 1) : Int) ∧ D + S + 4 = (wayD (szF ss) (k + 1) : Int) from ⟨m12, by omega⟩)
          rw [hV] at m8
          rw [hV, hD]
          generalize xs.getD k 0 = p1 at *
          generalize gs.getD k 0 = p2 at *
          generalize ss.getD k 0 = p3 at *
          replace hV := hide hV
          replace hD := hide hD
          replace m1 := hide m1
          replace m6 := hide m6
          replace m7 := hide m7
          replace hK := hide hK
          replace h24 := hide h24
          replace hfit := hide hfit
          clear m3 m12 mD
          go_wp2_with fail
          refine (number_to _ _ _ _ (by omega) (by omega) (unhide m1)).mono ?_
          rintro e w' ⟨rfl, rfl⟩
          go_wp2_with fail
          refine (number_to _ _ _ _ (by omega) (by omega) (unhide m6)).mono ?_
          rintro e w' ⟨rfl, rfl⟩
          go_wp2_with fail
          refine (number_to _ _ _ _ (by omega) (by omega) (unhide m7)).mono ?_
          rintro e w' ⟨rfl, rfl⟩
          go_wp2
          go_roundg (xs.length - (k + 1))
          case rel => exact ⟨k + 1, rfl, by omega, by rw [(unhide HR).1], by rw [(unhide HR).2], by go_num, unhide hfit, unhide hK⟩
          case measure => omega
        · obtain ⟨S, hS⟩ : ∃ S : Int, (szF ss k : Int) = S := ⟨_, rfl⟩
          have m1 : ss.getD k 0 % 4 = S := by rw [← hS]; unfold szF; omega
          have m2 : 0 ≤ S ∧ S < 4 := by omega
          have z1 : decide (24 < D + S + 4) = true := decide_eq_true (by omega)
          rw [hV, hD]
          generalize xs.getD k 0 = p1 at *
          generalize gs.getD k 0 = p2 at *
          generalize ss.getD k 0 = p3 at *
          replace hV := hide hV
          replace hD := hide hD
          replace m1 := hide m1
          replace hK := hide hK
          replace h24 := hide h24
          clear hfit mD hS
          go_wp2_with fail
          refine (number_to _ _ _ _ (by omega) (by omega) (unhide m1)).mono ?_
          rintro e w' ⟨rfl, rfl⟩
          go_wp2
          go_meet
          case rel => exact ⟨k, hk, by rw [unhide hV], by rw [unhide hD], rfl, unhide h24, unhide hK⟩
      · replace hK := hide hK
        replace h24 := hide h24
        obtain ⟨D, hD⟩ : ∃ D : Int, (wayD (szF ss) k : Int) = D := ⟨_, rfl⟩
        obtain ⟨V, hV⟩ : ∃ V : Int, (wayV (szF ss) (gdF gs ss) (slF xs) k : Int) = V := ⟨_, rfl⟩
        rw [hV, hD]
        replace hV := hide hV
        replace hD := hide hD
        go_wp2
        go_meet
        case rel => exact ⟨k, hk, by rw [unhide hV], by rw [unhide hD], rfl, unhide h24, unhide hK⟩
  case rest =>
    obtain ⟨n, hn, rfl, rfl, rfl, h24, hK⟩ := hcut
    clear K0
    have T0 := wayT_start (szF ss) (gdF gs ss) (slF xs) (gdF_lt gs ss) (slF_lt xs) n
    rw [← T0]
    clear T0
    replace hK := hide hK
    replace h24 := hide h24
    go_wp2_with fail
    go_loopg [8, 9, 12] n (fun m v d i wx => ∃ k : Nat, m = n - k ∧ k ≤ n ∧ v = .int .i64 (wayT (szF ss) (gdF gs ss) (slF xs) n k : Int) ∧ d = .int .i64 ((wayD (szF ss) n - wayD (szF ss) k : Nat) : Int) ∧ i = .int .i64 (k : Int) ∧ Kp [] w wx)
    case atStart => exact ⟨0, rfl, by omega, rfl, rfl, rfl, unhide hK⟩
    case round =>
      obtain ⟨k, rfl, hk, rfl, rfl, rfl, hX⟩ := hrel
      clear hK
      by_cases hlt : k < n
      · have y1 := hX.cell (unhide i1 k (by omega))
        have y2 := hX.cell (unhide i2 k (by omega))
        have y3 := hX.cell (unhide i3 k (by omega))
        obtain ⟨D, hD⟩ : ∃ D : Int, ((wayD (szF ss) n - wayD (szF ss) k : Nat) : Int) = D := ⟨_, rfl⟩
        obtain ⟨V, hV⟩ : ∃ V : Int, (wayT (szF ss) (gdF gs ss) (slF xs) n k : Int) = V := ⟨_, rfl⟩
        obtain ⟨S, P, G, T, E, X, M, Q, m1, m2, m3, m4, m5, m6, m7, m8, m9, m10, m11, m12, m13, m14, m15, m16⟩ := way_back xs gs ss n k hlt (unhide h24) V D hV hD
        rw [hV, hD]
        have D1 : 0 ≤ D ∧ D ≤ 24 := by have := unhide h24; omega
        have V1 : 0 ≤ V := by omega
        have kn : k < xs.length := by omega
        have kg : k < gs.length := by omega
        have ks : k < ss.length := by omega
        have l1 : (k : Int) < (n : Int) := by omega
        have l2 : decide (k < n) = true := decide_eq_true hlt
        have HR := hide (show Q = _ ∧ E = _ from ⟨m16, m15⟩)
        clear m15 m16
        generalize xs.getD k 0 = p1 at *
        generalize gs.getD k 0 = p2 at *
        generalize ss.getD k 0 = p3 at *
        replace hV := hide hV
        replace hD := hide hD
        replace m1 := hide m1
        replace m5 := hide m5
        replace m6 := hide m6
        replace m7 := hide m7
        replace m10 := hide m10
        replace hX := hide hX
        go_wp2_with fail
        refine (number_to _ _ _ _ (by omega) (by omega) (unhide m1)).mono ?_
        rintro e w' ⟨rfl, rfl⟩
        go_wp2_with fail
        refine (number_to _ _ _ _ (by omega) (by omega) (unhide m5)).mono ?_
        rintro e w' ⟨rfl, rfl⟩
        go_wp2_with fail
        refine (astep_yes 1 S G 0 V D T E _ (unhide m7).1 (unhide m7).2 m8).mono ?_
        rintro e W1 ⟨rfl, K1⟩
        have C1 := (CapAt.next w' 2 1 S G 0 rfl).kept K1 (by simp)
        have z1 := K1.cell (((Kp.refl [] w').alloc _).cell y1)
        have cc := C1.cells
        have hlt1 := C1.lt
        replace hX := hide (((unhide hX).alloc _).then K1)
        clear y1 y2 y3 C1 K1
        go_wp2_with fail
        refine (number_to _ _ _ _ (by omega) (by omega) (unhide m6)).mono ?_
        rintro e w' ⟨rfl, rfl⟩
        by_cases S0 : 0 < S
        · have S1 : decide (0 < S) = true := decide_eq_true S0
          go_wp2_with fail
          refine (astep_no 2 1 S X 0 V D _ (unhide m10)).mono ?_
          rintro e W2 ⟨rfl, K2⟩
          replace hX := hide (((unhide hX).alloc _).then K2)
          clear K2
          go_wp2
          go_roundg (n - (k + 1))
          case rel => exact ⟨k + 1, rfl, by omega, by rw [(unhide HR).1], by rw [(unhide HR).2], by go_num, unhide hX⟩
          case measure => omega
        · have S1 : decide (0 < S) = false := decide_eq_false S0
          go_wp2
          go_roundg (n - (k + 1))
          case rel => exact ⟨k + 1, rfl, by omega, by rw [(unhide HR).1], by rw [(unhide HR).2], by go_num, unhide hX⟩
          case measure => omega
      · obtain rfl : k = n := by omega
        rw [wayT_end, Nat.sub_self]
        replace hX := hide hX
        go_wp2
        go_ret
        exact ⟨rfl, (unhide hX).below (Nat.le_refl _) (by simp)⟩
set_option maxHeartbeats 1000000 in
set_option maxRecDepth 20000 in
theorem steps_out (a1 a2 a3 : Option Addr) (l1 l2 l3 c1 c2 c3 : Nat) (w : World) (h : l1 < 1 ∨ 5 < l1 ∨ l2 < l1 ∨ l3 < l1) (h1 : l1 ≤ 9223372036854775807) (h2 : l2 ≤ 9223372036854775807) (h3 : l3 ≤ 9223372036854775807) :
    Calls Try.prog 5 #[.slice a1 l1 c1, .slice a2 l2 c2, .slice a3 l3 c3] w fun e w' => e = .returned (.bool true) ∧ Below w.heap.size w w' := by
  go_enter Try.func5, Try.ntmps5
  go_wp2_with fail
  refine (first_kp _).mono ?_
  rintro e W0 ⟨rfl, K0⟩
  replace K0 := hide K0
  by_cases y1 : l1 < 1
  · have x1 : decide ((l1 : Int) < 1) = true := decide_eq_true (by omega)
    go_wp2
    go_ret
    exact ⟨rfl, (unhide K0).below (Nat.le_refl _) (by simp)⟩
  have x1 : decide ((l1 : Int) < 1) = false := decide_eq_false (by omega)
  by_cases y2 : 5 < l1
  · have x2 : decide (5 < (l1 : Int)) = true := decide_eq_true (by omega)
    clear h
    go_wp2
    go_ret
    exact ⟨rfl, (unhide K0).below (Nat.le_refl _) (by simp)⟩
  have x2 : decide (5 < (l1 : Int)) = false := decide_eq_false (by omega)
  by_cases y3 : l2 < l1
  · have x3 : decide ((l2 : Int) < (l1 : Int)) = true := decide_eq_true (by omega)
    have x4 : decide (l2 < l1) = true := decide_eq_true y3
    clear h
    go_wp2
    go_ret
    exact ⟨rfl, (unhide K0).below (Nat.le_refl _) (by simp)⟩
  have x3 : decide ((l2 : Int) < (l1 : Int)) = false := decide_eq_false (by omega)
  have x4 : decide (l2 < l1) = false := decide_eq_false y3
  have y4 : l3 < l1 := by omega
  have x5 : decide ((l3 : Int) < (l1 : Int)) = true := decide_eq_true (by omega)
  have x6 : decide (l3 < l1) = true := decide_eq_true y4
  clear h
  go_wp2
  go_ret
  exact ⟨rfl, (unhide K0).below (Nat.le_refl _) (by simp)⟩
theorem steps_law (a1 : Option Addr) (l1 c1 : Nat) (xs : List Int) (a2 : Option Addr) (l2 c2 : Nat) (gs : List Int) (a3 : Option Addr) (l3 c3 : Nat) (ss : List Int) (w : World) (h1 : xs.length = l1) (i1 : Ints .i64 w a1 xs) (h2 : gs.length = l2) (i2 : Ints .i64 w a2 gs) (h3 : ss.length = l3) (i3 : Ints .i64 w a3 ss) :
    Calls Try.prog 5 #[.slice a1 l1 c1, .slice a2 l2 c2, .slice a3 l3 c3] w fun e w' => e = .returned (.bool true) ∧ Below w.heap.size w w' := by
  subst h1; subst h2; subst h3
  by_cases h : xs.length < 1 ∨ 5 < xs.length ∨ gs.length < xs.length ∨ ss.length < xs.length
  · exact steps_out a1 a2 a3 _ _ _ c1 c2 c3 w h i1.1 i2.1 i3.1
  · obtain ⟨_, _, z1 | ⟨b1, o1, rfl, k1⟩⟩ := i1
    · omega
    obtain ⟨q2, _, z2 | ⟨b2, o2, rfl, k2⟩⟩ := i2
    · omega
    obtain ⟨q3, _, z3 | ⟨b3, o3, rfl, k3⟩⟩ := i3
    · omega
    exact steps_in b1 o1 b2 o2 b3 o3 c1 c2 c3 xs gs ss w (by omega) (by omega) (by omega) (by omega) q2 q3 k1 k2 k3
end Go.Proofs.Ytejkelfhihfklaa
