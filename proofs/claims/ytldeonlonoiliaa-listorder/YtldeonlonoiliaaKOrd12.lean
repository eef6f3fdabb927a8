/- The walk of ListOrder. -/
import Derived.Test.YtldeonlonoiliaaKOrdM12
import Derived.Test.YtldeonlonoiliaaKRef
import Derived.Deep.DeepCutAuto
import Derived.Deep.CutBlock
import Derived.Deep.RegionHeld3
namespace Go.Proofs.Ytldeonlonoiliaa
open Go.RowKit
set_option linter.unusedVariables false
set_option linter.unusedSimpArgs false
set_option maxHeartbeats 400000 in
theorem lord_long (n : Int) (a0 : Option Addr) (len cap : Nat) (w : World) (hl : 30 < len) :
    Calls Try.prog 4 #[.int .i64 n, .slice a0 len cap] w fun e w' => e = .returned (.bool true) ∧ Below w.heap.size w w' := by
  have h2 : (30 : Int) < (len : Int) := by omega
  clear hl
  go_enter Try.func4, Try.ntmps4
  go_wp2_with fail
  refine (first_calls _).mono ?_
  rintro e W0 ⟨rfl, K0⟩
  go_wp2
  go_ret
  exact ⟨rfl, K0.below (Nat.le_refl _) (by simp)⟩
theorem llen0 {w wr : World} {y : Nat} {L : List (Int × Int)} (h : LIn w y L wr) (e : L = []) :
    Calls Try.prog 14 #[.pointer (some ⟨y, 0, none⟩)] wr fun e w' => e = .returned (.int .i64 0) ∧ Kp [] wr w' := llen h (by rw [e]; rfl)
set_option maxRecDepth 10000 in
set_option maxHeartbeats 2000000 in
theorem lord_zero (n0 : Int) (a0 : Option Addr) (len cap : Nat) (w : World) (hl : len ≤ 30) (hn : n0 % 40 = 0) :
    Calls Try.prog 4 #[.int .i64 n0, .slice a0 len cap] w fun e w' => e = .returned (.bool true) ∧ Below w.heap.size w w' := by
  have h2 : decide ((30 : Int) < (len : Int)) = false := decide_eq_false (by omega)
  replace hn := hide hn
  go_enter Try.func4, Try.ntmps4
  go_wp2_with fail
  refine (first_calls _).mono ?_
  rintro e W0 ⟨rfl, K0⟩
  replace K0 := hide K0
  go_wp2_with fail
  refine (number_to _ _ _ _ (by decide) (by decide) (unhide hn)).mono ?_
  rintro e W0' ⟨rfl, hW⟩
  have K0' : Hid (Kp [] w W0') := by rw [hW]; exact unhide K0
  clear hW K0
  obtain ⟨t, et⟩ : ∃ t, W0'.heap.size = t := ⟨_, rfl⟩
  have X0 := hide (LIn.of (unhide K0') et.symm (Kp.refl [] _))
  obtain ⟨C, hC, hmk⟩ := make_bools 0 0 rfl (by omega)
  go_wp2_with fail
  generalize W0'.alloc (.cells #[.map none, .int .i64 0, .int .i64 0] 28) = W1 at *
  clear K0'
  go_loopg [7] 0 (fun m i wr => m = 0 ∧ i = .int .i64 0 ∧ LIn w t [] wr)
  case atStart => exact ⟨rfl, rfl, unhide X0⟩
  case round =>
    obtain ⟨rfl, rfl, hX⟩ := hrel
    clear X0
    have X1 := hide (hX.grew ((Kp.refl [] wr).alloc (.cells C 4)))
    clear hX
    go_wp2_with fail
    generalize wr.alloc (.cells C 4) = W2 at *
    clear hmk
    go_loopg [9] 0 (fun m i wx => m = 0 ∧ i = .int .i64 0 ∧ wx = W2)
    case atStart => exact ⟨rfl, rfl, rfl⟩
    case round =>
      obtain ⟨rfl, rfl, hW2⟩ := hrel
      have X2 : Hid (LIn w t [] wr) := by rw [hW2]; exact unhide X1
      clear hW2 X1
      by_cases hl0 : len = 0
      · subst hl0
        go_wp2_with fail
        go_loopg [11] 0 (fun m i wx => m = 0 ∧ i = .int .i64 0 ∧ LIn w t [] wx)
        case atStart => exact ⟨rfl, rfl, unhide X2⟩
        case round =>
          obtain ⟨rfl, rfl, hX3⟩ := hrel
          replace hX3 := hide hX3
          clear X2
          go_wp2_with fail
          refine (llen0 (unhide hX3) rfl).mono ?_
          rintro e W5 ⟨rfl, K5⟩
          have X5 := hide ((unhide hX3).grew K5)
          clear hX3 K5
          go_wp2
          go_ret
          exact ⟨rfl, (unhide X5).kp.below (Nat.le_refl _) (by simp)⟩
      · have hl1 : (0 : Int) < (len : Int) := by omega
        go_wp2_with fail
        go_loopg [11] 0 (fun m i wx => m = 0 ∧ i = .int .i64 0 ∧ LIn w t [] wx)
        case atStart => exact ⟨rfl, rfl, unhide X2⟩
        case round =>
          obtain ⟨rfl, rfl, hX3⟩ := hrel
          replace hX3 := hide hX3
          clear X2
          go_wp2_with fail
          refine (llen0 (unhide hX3) rfl).mono ?_
          rintro e W5 ⟨rfl, K5⟩
          have X5 := hide ((unhide hX3).grew K5)
          clear hX3 K5
          go_wp2
          go_ret
          exact ⟨rfl, (unhide X5).kp.below (Nat.le_refl _) (by simp)⟩
set_option maxRecDepth 10000 in
set_option maxHeartbeats 20000000 in
theorem lord_in (n0 : Int) (a0 : Option Addr) (len cap : Nat) (zs : List Int) (w : World) (hl : len ≤ 30) (hz : zs.length = len) (hI : Ints .i64 w a0 zs) (hp : n0 % 40 ≠ 0) :
    Calls Try.prog 4 #[.int .i64 n0, .slice a0 len cap] w fun e w' => e = .returned (.bool true) ∧ Below w.heap.size w w' := by
  have h2 : decide ((30 : Int) < (len : Int)) = false := decide_eq_false (by omega)
  have HI := hide hI
  replace hz := hide hz
  obtain ⟨n, hn⟩ : ∃ n : Nat, n0 % 40 = (n : Int) := ⟨(n0 % 40).toNat, by omega⟩
  have hn40 : n < 40 := by omega
  have hn0 : (0 : Int) < (n : Int) := by omega
  replace hn := hide hn
  clear hI hp
  go_enter Try.func4, Try.ntmps4
  go_wp2_with fail
  refine (first_calls _).mono ?_
  rintro e W0 ⟨rfl, K0⟩
  replace K0 := hide K0
  go_wp2_with fail
  refine (number_to _ _ _ _ (by decide) (by decide) (unhide hn)).mono ?_
  rintro e W0' ⟨rfl, hW⟩
  have K0' : Hid (Kp [] w W0') := by rw [hW]; exact unhide K0
  clear hW K0
  obtain ⟨t, et⟩ : ∃ t, W0'.heap.size = t := ⟨_, rfl⟩
  have X0 := hide (LIn.of (unhide K0') et.symm (Kp.refl [] _))
  go_wp2_with fail
  generalize W0'.alloc (.cells #[.map none, .int .i64 0, .int .i64 0] 28) = W1 at *
  clear K0'
  go_loopg [7] n (fun m i wr => ∃ j : Nat, j ≤ n ∧ m = n - j ∧ i = .int .i64 j ∧ LIn w t (allL j) wr)
  case atStart => exact ⟨0, Nat.zero_le _, by omega, rfl, unhide X0⟩
  case round =>
    obtain ⟨j, hj, rfl, rfl, hX⟩ := hrel
    clear X0
    by_cases hlt : j < n
    · have b1 : (j : Int) < (n : Int) := by omega
      have hi := hide (oid_in (i := j) (by omega))
      have hls : Hid ((allL j).length < 65536) := by unfold Hid; rw [allL_len]; omega
      have hnh : Hid ((!lHas (allL j) (oid j)) = true) := by unfold Hid; rw [lHas_no (allL_new j)]; rfl
      replace hX := hide hX
      go_wp2_with fail
      refine (lpush (unhide hX) (q1 := (j : Int) % 3) (q2 := (j : Int)) (unhide hi) (unhide hls) (unhide hnh) (allL_push j)).mono ?_
      rintro e W2 ⟨rfl, X2, S2⟩
      replace X2 := hide X2
      clear S2 hX
      go_wp2
      go_roundg (n - (j + 1))
      case measure => omega
      case rel => exact ⟨j + 1, by omega, rfl, by go_num, unhide X2⟩
    · have b1 : decide ((j : Int) < (n : Int)) = false := decide_eq_false (by omega)
      have ej : n = j := by omega
      subst ej
      obtain ⟨C, hC, hmk⟩ := make_bools (n : Int) n rfl (by omega)
      rw [allL_rem] at hX
      have X1 := hide (hX.grew ((Kp.refl [] wr).alloc (.cells C 4)))
      have B1 : Hid (Bk (wr.alloc (.cells C 4)) wr.heap.size 4 (bvL (fun _ => false) n)) := by
        unfold Hid
        rw [← hC]
        exact Bk.newA wr 4 C
      have htg := hX.lt
      have hwg : w.heap.size ≤ wr.heap.size := hX.kp.size
      replace htg := hide htg
      replace hwg := hide hwg
      clear hX hC
      go_wp2_with fail
      generalize wr.alloc (.cells C 4) = W2 at *
      obtain ⟨g, hg⟩ : ∃ g, wr.heap.size = g := ⟨_, rfl⟩
      rw [hg] at B1 htg hwg
      simp only [hg]
      clear hg hmk
      go_loopg [9] len (fun m i wr => ∃ (j : Nat) (G : Nat → Bool), j ≤ len ∧ m = len - j ∧ i = .int .i64 j ∧ LIn w t (remL G 0 n) wr ∧ Bk wr g 4 (bvL G n))
      case atStart => exact ⟨0, fun _ => false, Nat.zero_le _, by omega, rfl, unhide X1, unhide B1⟩
      case round =>
        obtain ⟨j, G, hj, rfl, rfl, hX, hB⟩ := hrel
        clear X1 B1
        by_cases hlt : j < len
        · have b2 : (j : Int) < (len : Int) := by omega
          have b3 : ((j : Int)).toNat = j := Int.toNat_natCast j
          obtain ⟨bb, off, rfl, cz⟩ := ints_l (unhide HI) hX.kp (j := j) (by rw [unhide hz]; exact hlt)
          obtain ⟨z, hzz⟩ : ∃ z, zs.getD j 0 = z := ⟨_, rfl⟩
          rw [hzz] at cz
          obtain ⟨k, hk⟩ : ∃ k : Nat, z % (n : Int) = (k : Int) := ⟨(z % (n : Int)).toNat, by have := Int.emod_nonneg z (show (n : Int) ≠ 0 by omega); omega⟩
          have hkn : k < n := by have := Int.emod_lt_of_pos z hn0; omega
          replace hk := hide hk
          clear hzz
          replace hX := hide hX
          replace hB := hide hB
          have hn32 : Hid ((n : Int) ≤ 4294967296) := by unfold Hid; omega
          have hn0' := hide hn0
          go_wp2_with fail
          refine (number_to _ _ _ _ (unhide hn0') (unhide hn32) (unhide hk)).mono ?_
          rintro e W3 ⟨rfl, hW⟩
          have X3 : Hid (LIn w t (remL G 0 n) W3) := by rw [hW]; exact unhide hX
          have B3 : Hid (Bk W3 g 4 (bvL G n)) := by rw [hW]; exact unhide hB
          clear hW hX hB cz
          have b4 : (k : Int) < (n : Int) := by omega
          have b5 : ((k : Int)).toNat = k := Int.toNat_natCast k
          have hi := hide (oid_in (i := k) (by omega))
          obtain ⟨gv, hgv⟩ : ∃ v, G k = v := ⟨_, rfl⟩
          have hhas : Hid (lHas (remL G 0 n) (oid k) = !gv) := by rw [← hgv]; exact remL_has hkn
          have hbk : Hid ((bvL G n)[k]? = some (.bool gv)) := by rw [← hgv]; exact bvL_get G hkn
          have hset := hide (bvL_set G hkn)
          have hdrop := hide (remL_drop G n k)
          have K0 := hide (Kp.refl [] W3).drew
          have c0 := (unhide B3).cell (unhide hbk)
          clear hgv
          go_upto_region 18 with fail
          cases gv with
          | true =>
            go_region_held3 (fun w' => w'.cell? ⟨g, k, none⟩ = some (.bool true)) (first | with_reducible exact (unhide B4).cell (unhide hbk) | with_reducible exact ((unhide B3).kept (unhide K0) (by simp)).cell (unhide hbk)) (first
              | (go_at_call 10; refine (ldrop ((unhide X3).grew (unhide K0)) (q1 := (k : Int) % 3) (q2 := (k : Int)) (unhide hi) (unhide hhas) (unhide hdrop)).mono ?_; rintro e W4 ⟨rfl, x4, s4⟩; have X4 := hide x4; have B4 := hide (s4.bk ((unhide B3).kept (unhide K0) (by simp)) (by have := unhide htg; omega)); clear x4 s4))
            all_goals
              have c4 := (unhide B4).cell (unhide hbk)
              have f4 := (unhide B4).frozen
              have k5 := (Kp.refl [g] W4).setCell (p := ⟨g, k, none⟩) (.inl (by simp)) (.bool true)
              have X5 := hide ((unhide X4).beside k5 (unhide B4) (by have := unhide htg; omega) (unhide hwg))
              have B5 : Hid (Bk (W4.setCell ⟨g, k, none⟩ (.bool true)) g 4 (bvL (setG G k) n)) := by
                unfold Hid
                rw [← unhide hset]
                exact (unhide B4).set k (.bool true)
              clear k5 B4 X4 X3 B3 K0 c0
              go_wp2
              go_roundg (len - (j + 1))
              case measure => omega
              case rel => exact ⟨j + 1, setG G k, by omega, rfl, by go_num, unhide X5, unhide B5⟩
          | false =>
            go_region_held3 (fun w' => w'.cell? ⟨g, k, none⟩ = some (.bool false)) (first | with_reducible exact (unhide B4).cell (unhide hbk) | with_reducible exact ((unhide B3).kept (unhide K0) (by simp)).cell (unhide hbk)) (first
              | (go_at_call 10; refine (ldrop ((unhide X3).grew (unhide K0)) (q1 := (k : Int) % 3) (q2 := (k : Int)) (unhide hi) (unhide hhas) (unhide hdrop)).mono ?_; rintro e W4 ⟨rfl, x4, s4⟩; have X4 := hide x4; have B4 := hide (s4.bk ((unhide B3).kept (unhide K0) (by simp)) (by have := unhide htg; omega)); clear x4 s4))
            all_goals
              have c4 := (unhide B4).cell (unhide hbk)
              have f4 := (unhide B4).frozen
              have k5 := (Kp.refl [g] W4).setCell (p := ⟨g, k, none⟩) (.inl (by simp)) (.bool true)
              have X5 := hide ((unhide X4).beside k5 (unhide B4) (by have := unhide htg; omega) (unhide hwg))
              have B5 : Hid (Bk (W4.setCell ⟨g, k, none⟩ (.bool true)) g 4 (bvL (setG G k) n)) := by
                unfold Hid
                rw [← unhide hset]
                exact (unhide B4).set k (.bool true)
              clear k5 B4 X4 X3 B3 K0 c0
              go_wp2
              go_roundg (len - (j + 1))
              case measure => omega
              case rel => exact ⟨j + 1, setG G k, by omega, rfl, by go_num, unhide X5, unhide B5⟩
        · have b2 : decide ((j : Int) < (len : Int)) = false := decide_eq_false (by omega)
          replace hX := hide hX
          replace hB := hide hB
          go_wp2_with fail
          go_loopg [11] n (fun m i wx => ∃ l : Nat, l ≤ n ∧ m = n - l ∧ i = .int .i64 l ∧ LIn w t (remL G l n) wx ∧ Bk wx g 4 (bvL G n))
          case atStart => exact ⟨0, Nat.zero_le _, by omega, rfl, unhide hX, unhide hB⟩
          case round =>
            obtain ⟨l, hl', rfl, rfl, hX1, hB1⟩ := hrel
            clear hX hB
            by_cases hln : l < n
            · have b3 : (l : Int) < (n : Int) := by omega
              have b4 : ((l : Int)).toNat = l := Int.toNat_natCast l
              have c0 := hB1.cell (bvL_get G hln)
              cases hg : G l with
              | true =>
                rw [hg] at c0
                rw [remL_gone hln hg] at hX1
                replace hX1 := hide hX1
                replace hB1 := hide hB1
                clear hg
                go_wp2
                go_roundg (n - (l + 1))
                case measure => omega
                case rel => exact ⟨l + 1, by omega, rfl, by go_num, unhide hX1, unhide hB1⟩
              | false =>
                rw [hg] at c0
                have hf : Hid (lFst (remL G l n) = ((l : Int) % 3, (l : Int))) := by rw [remL_here hln hg]; rfl
                have ht : Hid ((remL G l n).tail = remL G (l + 1) n) := by rw [remL_here hln hg]; rfl
                have he : Hid ((!(remL G l n).isEmpty) = true) := by rw [remL_here hln hg]; rfl
                replace hX1 := hide hX1
                replace hB1 := hide hB1
                clear hg
                go_wp2_with fail
                refine (lpop (unhide hX1) (unhide hf) (unhide he) (unhide ht)).mono ?_
                rintro e W6 ⟨rfl, X6, S6⟩
                have B6 := hide (S6.bk (unhide hB1) (by have := unhide htg; omega))
                have K6 := (Kp.refl [] W6).alloc (.cells #[.int .i64 ((l : Int) % 3), .int .i64 (l : Int)] 26)
                have X7 := hide (X6.grew K6)
                have B7 := hide ((unhide B6).kept K6 (by simp))
                clear X6 S6 K6 B6 hX1 hB1 c0
                go_wp2
                go_roundg (n - (l + 1))
                case measure => omega
                case rel => exact ⟨l + 1, by omega, rfl, by go_num, unhide X7, unhide B7⟩
            · have b3 : decide ((l : Int) < (n : Int)) = false := decide_eq_false (by omega)
              have el : l = n := by omega
              rw [el, remL_end] at hX1
              replace hX1 := hide hX1
              clear hB1
              go_wp2_with fail
              refine (llen0 (unhide hX1) rfl).mono ?_
              rintro e W5 ⟨rfl, K5⟩
              have X5 := hide ((unhide hX1).grew K5)
              clear hX1 K5
              go_wp2
              go_ret
              exact ⟨rfl, (unhide X5).kp.below (Nat.le_refl _) (by simp)⟩
theorem lord_walk (n : Int) (a0 : Option Addr) (len cap : Nat) (zs : List Int) (w : World) (_ : (Lit.int .i64 n).wf = true) (hz : zs.length = len) (hI : Ints .i64 w a0 zs) :
    Calls Try.prog 4 #[.int .i64 n, .slice a0 len cap] w fun e w' => e = .returned (.bool true) ∧ Below w.heap.size w w' := by
  by_cases h : len ≤ 30
  · by_cases h0 : n % 40 = 0
    · exact lord_zero n a0 len cap w h h0
    · exact lord_in n a0 len cap zs w h hz hI h0
  · exact lord_long n a0 len cap w (by omega)
end Go.Proofs.Ytldeonlonoiliaa
