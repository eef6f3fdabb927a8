/- The walk of EpDrops. -/
import Derived.Test.YthnpkojfkhndoaaKDropM14
import Derived.Test.YthnpkojfkhndoaaKRef
import Derived.Deep.DeepCutAuto
namespace Go.Proofs.Ythnpkojfkhndoaa
open Go.RowKit
set_option linter.unusedVariables false
set_option linter.unusedSimpArgs false
set_option maxRecDepth 4000 in
set_option maxHeartbeats 400000 in
theorem edrops_long (n0 : Int) (a0 : Option Addr) (len cap : Nat) (b : Bool) (w : World) (hl : 20 < len) :
    Calls Try.prog 5 #[.int .i64 n0, .slice a0 len cap, .bool b] w fun e w' => e = .returned (.bool true) ∧ Below w.heap.size w w' := by
  have h2 : (20 : Int) < (len : Int) := by omega
  clear hl
  go_enter Try.func5, Try.ntmps5
  go_wp2_with fail
  refine (first_calls _).mono ?_
  rintro e W0 ⟨rfl, K0⟩
  go_wp2
  go_ret
  exact ⟨rfl, K0.below (Nat.le_refl _) (by simp)⟩
set_option maxRecDepth 10000 in
set_option maxHeartbeats 20000000 in
theorem edrops_in (n0 : Int) (a0 : Option Addr) (len cap : Nat) (b : Bool) (zs : List Int) (w : World) (hl : len ≤ 20) (hz : zs.length = len) (hI : Ints .i64 w a0 zs) :
    Calls Try.prog 5 #[.int .i64 n0, .slice a0 len cap, .bool b] w fun e w' => e = .returned (.bool true) ∧ Below w.heap.size w w' := by
  have h2 : decide ((20 : Int) < (len : Int)) = false := decide_eq_false (by omega)
  have HI := hide hI
  replace hz := hide hz
  obtain ⟨m, hm⟩ : ∃ m : Nat, n0 % 16 = (m : Int) := ⟨(n0 % 16).toNat, by omega⟩
  have hm16 : m < 16 := by omega
  obtain ⟨n, hn⟩ : ∃ n : Nat, n = m + 1 := ⟨_, rfl⟩
  have hnm : (m : Int) + 1 = (n : Int) := by omega
  have hn16 : n ≤ 16 := by omega
  have hn0 : (0 : Int) < (n : Int) := by omega
  replace hm := hide hm
  clear hI hn
  go_enter Try.func5, Try.ntmps5
  go_wp2_with fail
  refine (first_calls _).mono ?_
  rintro e W0 ⟨rfl, K0⟩
  replace K0 := hide K0
  go_wp2_with fail
  refine (number_to _ _ _ _ (by decide) (by decide) (unhide hm)).mono ?_
  rintro e W0' ⟨rfl, hW⟩
  have K0' : Hid (Kp [] w W0') := by rw [hW]; exact unhide K0
  clear hW K0
  obtain ⟨t, et⟩ : ∃ t, W0'.heap.size = t := ⟨_, rfl⟩
  have X0 := hide (Tp.start (unhide K0') et)
  obtain ⟨C, hC, hmk⟩ := make_bools (n : Int) n rfl (by omega)
  clear K0'
  go_upto_region 8 with fail
  generalize W0'.alloc (.cells #[.slice none 0 0, .int .i64 0, .slice none 0 0, .int .i64 0] 31) = W1 at *
  obtain ⟨g, hg⟩ : ∃ g, W1.heap.size = g := ⟨_, rfl⟩
  have X1 : Hid (Tp w t [] [] [(g, 4, bvL (fun _ => false) n)] (W1.alloc (.cells C 4))) := by
    have h := (unhide X0).box 4 (bvL (fun _ => false) n)
    rw [← hC, Array.toArray_toList, hg] at h
    rw [← hC]
    exact h
  have htg : Hid (w.heap.size ≤ g) := by rw [← hg]; exact (unhide X0).kp.size
  rw [← eS_zero b, ← eR_zero b] at X1
  clear X0 hC
  go_wp2_with fail
  generalize W1.alloc (.cells C 4) = W2 at *
  try simp only [hg]
  clear hg hmk
  go_loopg [10] n (fun m i wr => ∃ j : Nat, j ≤ n ∧ m = n - j ∧ i = .int .i64 j ∧ Tp w t (eS b (fun _ => false) 0 j) (eR b (fun _ => false) 0 j) [(g, 4, bvL (fun _ => false) n)] wr)
  case atStart => exact ⟨0, Nat.zero_le _, by omega, rfl, unhide X1⟩
  case round =>
    obtain ⟨j, hj, rfl, rfl, hX⟩ := hrel
    clear X1
    by_cases hlt : j < n
    · have b1 : (j : Int) < (n : Int) := by omega
      have hi : Hid (IdW 1 (j : Int)) := idW_of (by decide) (by omega)
      have hls : Hid ((eS b (fun _ => false) 0 j).length < 65536 ∧ (eR b (fun _ => false) 0 j).length < 65536) := by
        have := eS_len b (fun _ => false) 0 j
        have := eR_len b (fun _ => false) 0 j
        exact ⟨by omega, by omega⟩
      cases b with
      | true =>
        rw [eR_not] at hX
        replace hX := hide hX
        go_wp2_with fail
        refine (Tp.prog (unhide hX) (fun F h => esend_no h (unhide hls).1 (unhide hi) (j : Int) (j : Int) false)).mono ?_
        rintro e W3 ⟨rfl, X3⟩
        have X4 : Hid (Tp w t (eS true (fun _ => false) 0 (j + 1)) (eR true (fun _ => false) 0 (j + 1)) [(g, 4, bvL (fun _ => false) n)] W3) := by unfold Hid; rw [eS_more]; exact X3
        clear hX X3
        go_wp2
        go_roundg (n - (j + 1))
        case measure => omega
        case rel => exact ⟨j + 1, by omega, rfl, by go_num, unhide X4⟩
      | false =>
        rw [eS_not] at hX
        replace hX := hide hX
        go_wp2_with fail
        refine (Tp.prog (unhide hX) (fun F h => erecv_no h (unhide hls).2 (unhide hi) (j : Int))).mono ?_
        rintro e W3 ⟨rfl, X3⟩
        have X4 : Hid (Tp w t (eS false (fun _ => false) 0 (j + 1)) (eR false (fun _ => false) 0 (j + 1)) [(g, 4, bvL (fun _ => false) n)] W3) := by unfold Hid; rw [eR_more]; exact X3
        clear hX X3
        go_wp2
        go_roundg (n - (j + 1))
        case measure => omega
        case rel => exact ⟨j + 1, by omega, rfl, by go_num, unhide X4⟩
    · have b1 : decide ((j : Int) < (n : Int)) = false := decide_eq_false (by omega)
      have ej : n = j := by omega
      subst ej
      replace hX := hide hX
      go_wp2_with fail
      go_loopg [11] len (fun m i wr => ∃ (j : Nat) (G : Nat → Bool), j ≤ len ∧ m = len - j ∧ i = .int .i64 j ∧ Tp w t (eS b G 0 n) (eR b G 0 n) [(g, 4, bvL G n)] wr)
      case atStart => exact ⟨0, fun _ => false, Nat.zero_le _, by omega, rfl, unhide hX⟩
      case round =>
        obtain ⟨j, G, hj, rfl, rfl, hX⟩ := hrel
        by_cases hlt : j < len
        · have b2 : (j : Int) < (len : Int) := by omega
          have b3 : ((j : Int)).toNat = j := Int.toNat_natCast j
          obtain ⟨bb, off, rfl, cz⟩ := ints_l (unhide HI) hX.kp (j := j) (by rw [unhide hz]; exact hlt)
          obtain ⟨z, hzz⟩ : ∃ z, zs.getD j 0 = z := ⟨_, rfl⟩
          rw [hzz] at cz
          obtain ⟨k, hk⟩ : ∃ k : Nat, z % (n : Int) = (k : Int) := ⟨(z % (n : Int)).toNat, by have := Int.emod_nonneg z (show (n : Int) ≠ 0 by omega); omega⟩
          have hkn : k < n := by have := Int.emod_lt_of_pos z hn0; omega
          replace hk := hide hk
          clear hzz
          replace hX := hide hX
          have hn32 : Hid ((n : Int) ≤ 4294967296) := by unfold Hid; omega
          have hn0' := hide hn0
          go_wp2_with fail
          refine (number_to _ _ _ _ (unhide hn0') (unhide hn32) (unhide hk)).mono ?_
          rintro e W3 ⟨rfl, hW⟩
          have X3 : Hid (Tp w t (eS b G 0 n) (eR b G 0 n) [(g, 4, bvL G n)] W3) := by rw [hW]; exact unhide hX
          clear hW hX cz
          have b4 : (k : Int) < (n : Int) := by omega
          have b5 : ((k : Int)).toNat = k := Int.toNat_natCast k
          have hi : Hid (IdW 1 (k : Int)) := idW_of (by decide) (by omega)
          obtain ⟨gv, hgv⟩ : ∃ v, G k = v := ⟨_, rfl⟩
          have hless : Hid ((decide ((eS b (setG G k) 0 n).length < (eS b G 0 n).length) || decide ((eR b (setG G k) 0 n).length < (eR b G 0 n).length)) = !gv) := by rw [← hgv]; exact e_less hkn
          have hbk : Hid ((bvL G n)[k]? = some (.bool gv)) := by rw [← hgv]; exact bvL_get G hkn
          have hset := hide (bvL_set G hkn)
          have hdS := hide (eS_drop b G n k)
          have hdR := hide (eR_drop b G n k)
          have Z1 := hide ((unhide X3).grew ((Kp.refl [] W3).drew))
          have c0 := ((unhide X3).bk (List.mem_cons_self ..)).cell (unhide hbk)
          clear hgv
          go_upto_region 19 with fail
          cases gv with
          | true =>
            go_region_held3 (fun w' => w'.cell? ⟨g, k, none⟩ = some (.bool true)) (first | with_reducible exact ((unhide Z4).bk (List.mem_cons_self ..)).cell (unhide hbk) | with_reducible exact ((unhide Z1).bk (List.mem_cons_self ..)).cell (unhide hbk)) (first
              | (go_at_call 10; refine (Tp.prog (unhide Z1) (fun F h => edrop h (unhide hi) (unhide hdS) (unhide hdR) (unhide hless))).mono ?_; rintro e W4 ⟨rfl, x4⟩; have Z4 := hide x4; clear x4))
            all_goals
              have B4 := (unhide Z4).bk (List.mem_cons_self ..)
              have c4 := B4.cell (unhide hbk)
              have f4 := B4.frozen
              have k5 := (Kp.refl [g] W4).setCell (p := ⟨g, k, none⟩) (.inl (by simp)) (.bool true)
              have Z5 := hide ((unhide Z4).put (unhide htg) (by simp) k5 (vs' := bvL (setG G k) n) (by rw [← unhide hset]; exact B4.set k (.bool true)))
              clear k5 B4 Z4 X3 Z1 c0
              go_wp2
              go_roundg (len - (j + 1))
              case measure => omega
              case rel => exact ⟨j + 1, setG G k, by omega, rfl, by go_num, unhide Z5⟩
          | false =>
            go_region_held3 (fun w' => w'.cell? ⟨g, k, none⟩ = some (.bool false)) (first | with_reducible exact ((unhide Z4).bk (List.mem_cons_self ..)).cell (unhide hbk) | with_reducible exact ((unhide Z1).bk (List.mem_cons_self ..)).cell (unhide hbk)) (first
              | (go_at_call 10; refine (Tp.prog (unhide Z1) (fun F h => edrop h (unhide hi) (unhide hdS) (unhide hdR) (unhide hless))).mono ?_; rintro e W4 ⟨rfl, x4⟩; have Z4 := hide x4; clear x4))
            all_goals
              have B4 := (unhide Z4).bk (List.mem_cons_self ..)
              have c4 := B4.cell (unhide hbk)
              have f4 := B4.frozen
              have k5 := (Kp.refl [g] W4).setCell (p := ⟨g, k, none⟩) (.inl (by simp)) (.bool true)
              have Z5 := hide ((unhide Z4).put (unhide htg) (by simp) k5 (vs' := bvL (setG G k) n) (by rw [← unhide hset]; exact B4.set k (.bool true)))
              clear k5 B4 Z4 X3 Z1 c0
              go_wp2
              go_roundg (len - (j + 1))
              case measure => omega
              case rel => exact ⟨j + 1, setG G k, by omega, rfl, by go_num, unhide Z5⟩
        · have b2 : decide ((j : Int) < (len : Int)) = false := decide_eq_false (by omega)
          replace hX := hide hX
          go_wp2_with fail
          go_loopg [13] n (fun m i wx => ∃ l : Nat, l ≤ n ∧ m = n - l ∧ i = .int .i64 l ∧ Tp w t (eS b G l n) (eR b G l n) [(g, 4, bvL G n)] wx)
          case atStart => exact ⟨0, Nat.zero_le _, by omega, rfl, unhide hX⟩
          case round =>
            obtain ⟨l, hl', rfl, rfl, hX1⟩ := hrel
            clear hX
            by_cases hln : l < n
            · have b3 : (l : Int) < (n : Int) := by omega
              have b4 : ((l : Int)).toNat = l := Int.toNat_natCast l
              have c0 := (hX1.bk (List.mem_cons_self ..)).cell (bvL_get G hln)
              cases hg : G l with
              | true =>
                rw [hg] at c0
                rw [eS_gone b hln hg, eR_gone b hln hg] at hX1
                replace hX1 := hide hX1
                clear hg
                go_wp2
                go_roundg (n - (l + 1))
                case measure => omega
                case rel => exact ⟨l + 1, by omega, rfl, by go_num, unhide hX1⟩
              | false =>
                rw [hg] at c0
                have hi : Hid (IdW 2 (l : Int)) := idW_of (by decide) (by omega)
                have hne : ∀ w', (binOp .neq 39 (.agg #[.int .i64 1, .int .i64 (l : Int)]) (.agg #[.int .i64 1, .int .i64 (l : Int)])).run Try.prog w' = .ok (.bool false) w' := fun w' => by rw [neqi]; simp
                cases b with
                | true =>
                  rw [eS_here hln hg, eR_not] at hX1
                  replace hX1 := hide hX1
                  clear hg
                  go_wp2_with fail
                  refine (Tp.prog (unhide hX1) (fun F h => erecv_yes h (unhide hi) 0)).mono ?_
                  rintro e W6 ⟨rfl, X6⟩
                  have Z6 := hide (X6.box 47 [.int .i64 1, .int .i64 (l : Int), .int .u32 (l : Int), .int .i64 (l : Int), .bool false])
                  have p0 := ((unhide Z6).bk (List.mem_cons_self ..)).cell (i := 0) rfl
                  have p1 := ((unhide Z6).bk (List.mem_cons_self ..)).cell (i := 1) rfl
                  have p3 := ((unhide Z6).bk (List.mem_cons_self ..)).cell (i := 3) rfl
                  clear X6 hX1 c0
                  go_wp2
                  go_roundg (n - (l + 1))
                  case measure => omega
                  case rel => exact ⟨l + 1, by omega, rfl, by go_num, (unhide Z6).sub (fun _ m => List.mem_cons_of_mem _ m)⟩
                | false =>
                  rw [eR_here hln hg, eS_not] at hX1
                  replace hX1 := hide hX1
                  clear hg
                  go_wp2_with fail
                  refine (Tp.prog (unhide hX1) (fun F h => esend_yes h (unhide hi) 0 0 false)).mono ?_
                  rintro e W6 ⟨rfl, X6⟩
                  have Z6 := hide (X6.box 42 [.int .i64 1, .int .i64 (l : Int), .int .i64 (l : Int)])
                  have p0 := ((unhide Z6).bk (List.mem_cons_self ..)).cell (i := 0) rfl
                  have p1 := ((unhide Z6).bk (List.mem_cons_self ..)).cell (i := 1) rfl
                  have p2 := ((unhide Z6).bk (List.mem_cons_self ..)).cell (i := 2) rfl
                  clear X6 hX1 c0
                  go_wp2
                  go_roundg (n - (l + 1))
                  case measure => omega
                  case rel => exact ⟨l + 1, by omega, rfl, by go_num, (unhide Z6).sub (fun _ m => List.mem_cons_of_mem _ m)⟩
            · have b3 : decide ((l : Int) < (n : Int)) = false := decide_eq_false (by omega)
              have el : l = n := by omega
              rw [el, eS_end, eR_end] at hX1
              replace hX1 := hide hX1
              go_wp2_with fail
              refine (Tp.ask (unhide hX1) (fun F h => esenders h)).mono ?_
              rintro e W4 ⟨v, rfl, hS4, K4⟩
              obtain ⟨a4, c4, rfl⟩ := hS4.form
              have Z4 := hide ((unhide hX1).grew K4)
              clear hX1 hS4 K4
              go_wp2_with fail
              refine (Tp.ask (unhide Z4) (fun F h => ereceivers h)).mono ?_
              rintro e W5 ⟨v, rfl, hR5, K5⟩
              obtain ⟨a5, c5, rfl⟩ := hR5.form
              have Z5 := hide ((unhide Z4).grew K5)
              clear Z4 hR5 K5
              go_wp2
              go_ret
              exact ⟨rfl, (unhide Z5).kp.below (Nat.le_refl _) (by simp)⟩
theorem edrops_walk (n : Int) (a0 : Option Addr) (len cap : Nat) (zs : List Int) (b : Bool) (w : World) (_ : (Lit.int .i64 n).wf = true) (hz : zs.length = len) (hI : Ints .i64 w a0 zs) :
    Calls Try.prog 5 #[.int .i64 n, .slice a0 len cap, .bool b] w fun e w' => e = .returned (.bool true) ∧ Below w.heap.size w w' := by
  by_cases h : len ≤ 20
  · exact edrops_in n a0 len cap b zs w h hz hI
  · exact edrops_long n a0 len cap b w (by omega)
end Go.Proofs.Ythnpkojfkhndoaa
