/- The walk of PhysZero. -/
import Derived.Test.YtidbnbdijjhmgaaKLaw2
import Derived.Test.YtidbnbdijjhmgaaKArgs
namespace Go.Proofs.Ytidbnbdijjhmgaa
open Go.RowKit
set_option linter.unusedVariables false
set_option maxHeartbeats 400000 in
theorem zero_out (a : Option Addr) (len cap : Nat) (u v off : Int) (w : World) (hl : len = 0 ∨ 60 < len) :
    Calls Try.prog 6 #[.int .i64 u, .int .i64 v, .int .i64 off, .slice a len cap] w fun e w' => e = .returned (.bool true) ∧ Below w.heap.size w w' := by
  rcases hl with rfl | hl
  · go_enter Try.func6, Try.ntmps6
    go_wp2_with fail
    refine (first_calls _).mono ?_
    rintro e W0 ⟨rfl, K0⟩
    go_wp2
    go_ret
    exact ⟨rfl, K0.below (Nat.le_refl _) (by simp)⟩
  · have h1 : ((len : Int) == 0) = false := by simp; omega
    have h2 : (60 : Int) < (len : Int) := by omega
    go_enter Try.func6, Try.ntmps6
    go_wp2_with fail
    refine (first_calls _).mono ?_
    rintro e W0 ⟨rfl, K0⟩
    go_wp2
    go_ret
    exact ⟨rfl, K0.below (Nat.le_refl _) (by simp)⟩
/-- Units 1 to j have cs at off. -/
def Laid (m : List Nat) (off : Nat) (cs : List Nat) (j : Nat) : Prop := ∀ i, i < j → seg m (i * 512 + off) cs.length = cs
theorem Laid.step {m : List Nat} {off : Nat} {cs : List Nat} {j : Nat} (h : Laid m off cs j) (hl : m.length = 6 * 512) (hj : j < 6) (ho : off + cs.length ≤ 512) : Laid (splice m (j * 512 + off) cs) off cs (j + 1) := by
  intro i hi
  by_cases e : i = j
  · subst e; exact seg_splice_in _ _ _ (by omega)
  · rw [seg_splice_out _ _ _ _ _ (by omega) (by omega) (by omega)]
    exact h i (by omega)
theorem at_one (x o : Nat) : at_ (1 + (x : Int)) (o : Int) = x * 512 + o := by unfold at_; omega
theorem at_one0 (x : Nat) : at_ (1 + (x : Int)) 0 = x * 512 := by unfold at_; omega
/-- What is left of them where a unit was cleared. -/
theorem Laid.cleared {m : List Nat} {off : Nat} {cs zs : List Nat} (h : Laid m off cs 6) (hl : m.length = 6 * 512) (hz : zs.length = 512) (x : Nat) (hx : x < 6) (ho : off + cs.length ≤ 512) :
    ∀ i, i < 6 → i ≠ x → seg (splice m (x * 512) zs) (i * 512 + off) cs.length = cs := fun i hi hne => by
  rw [seg_splice_out _ _ _ _ _ (by omega) (by omega) (by omega)]
  exact h i hi
theorem seg_zeros (m zs : List Nat) (x off n k : Nat) (hk : k = 512) (hz : List.replicate k 0 = zs) (hl : x * 512 + 512 ≤ m.length) (ho : off + n ≤ 512) : seg (splice m (x * 512) zs) (x * 512 + off) n = List.replicate n 0 := by
  have hzl : zs.length = k := by rw [← hz]; exact List.length_replicate
  have hf : x * 512 + zs.length ≤ m.length := by omega
  have hsl := splice_len m (x * 512) zs hf
  have hsg := seg_len (splice m (x * 512) zs) (x * 512 + off) n (by rw [hsl, Nat.add_assoc]; exact Nat.le_trans (Nat.add_le_add_left ho _) hl)
  clear hsl
  refine list_ext (hsg.trans List.length_replicate.symm) (fun i hi => ?_)
  rw [hsg] at hi
  have hc : x * 512 ≤ x * 512 + off + i ∧ x * 512 + off + i < x * 512 + zs.length := by omega
  have hd : x * 512 + off + i - x * 512 < k := by omega
  rw [seg_get _ _ _ _ hi, splice_get _ _ _ hf, if_pos hc, ← hz, List.getD_eq_getElem?_getD, List.getD_eq_getElem?_getD, List.getElem?_replicate, List.getElem?_replicate, if_pos hd, if_pos hi]
theorem made_row (n : Nat) : ∃ C : Array Value, madeCells #[Value.int .u8 0] n = C ∧ C.toList = vals (List.replicate n 0) := ⟨_, rfl, by rw [toList_madeCells_one, vals_zeros]⟩
set_option maxHeartbeats 2000000 in
theorem zero_in (a : Option Addr) (cap : Nat) (cs : List Nat) (u v off : Int) (w : World) (hr : Row w a cs) (hl0 : 0 < cs.length) (hl : cs.length ≤ 60) :
    Calls Try.prog 6 #[.int .i64 u, .int .i64 v, .int .i64 off, .slice a cs.length cap] w fun e w' => e = .returned (.bool true) ∧ Below w.heap.size w w' := by
  have d1 : ((cs.length : Int) == 0) = false := beq_eq_false_iff_ne.2 (by omega)
  have d2 : decide ((60 : Int) < (cs.length : Int)) = false := by simp; omega
  obtain ⟨x, hx⟩ : ∃ x : Nat, u % 6 = (x : Int) := ⟨(u % 6).toNat, by omega⟩
  obtain ⟨y, hy⟩ : ∃ y : Nat, v % 6 = (y : Int) := ⟨(v % 6).toNat, by omega⟩
  obtain ⟨o, ho⟩ : ∃ o : Nat, off % (512 - (cs.length : Int) + 1) = (o : Int) := by
    have := Int.emod_nonneg off (show 512 - (cs.length : Int) + 1 ≠ 0 by omega)
    exact ⟨(off % (512 - (cs.length : Int) + 1)).toNat, by omega⟩
  have x1 : (x : Int) < 6 := by omega
  have y1 : (y : Int) < 6 := by omega
  have o1 : (o : Int) + (cs.length : Int) ≤ 512 := by
    have := Int.emod_lt_of_pos off (show 0 < 512 - (cs.length : Int) + 1 by omega)
    omega
  replace hx := hide hx
  replace hy := hide hy
  replace ho := hide ho
  have HR := hide hr
  have hsm := hide hr.1
  clear hr
  go_enter Try.func6, Try.ntmps6
  go_wp2_with fail
  refine (first_calls _).mono ?_
  rintro e W0 ⟨rfl, K0⟩
  go_wp2_with fail
  refine (new_to _ 6 6 (by decide)).mono ?_
  rintro e W1 ⟨p, g, rfl, hm, hp, hg, hk⟩
  have K1 : Kp [] w W1 := K0.then hk
  have hp : w.heap.size ≤ p := Nat.le_trans K0.size hp
  have hg : w.heap.size ≤ g := Nat.le_trans K0.size hg
  replace hm := hide hm
  clear hk K0
  go_wp2_with fail
  refine (number_to _ _ _ _ (by omega) (by omega) (unhide hx)).mono ?_
  rintro e w' ⟨rfl, rfl⟩
  go_wp2_with fail
  refine (number_to _ _ _ _ (by omega) (by omega) (unhide hy)).mono ?_
  rintro e w' ⟨rfl, rfl⟩
  go_wp2_with fail
  refine (number_to _ _ _ _ (by omega) (by omega) (unhide ho)).mono ?_
  rintro e w' ⟨rfl, rfl⟩
  go_wp2
  go_loopw [11] (fun i wr => ∃ (j : Nat) (m : List Nat), j ≤ 6 ∧ i = .int .i64 ((j : Int) + 1) ∧ PMem wr p g 6 m ∧ Laid m o cs j ∧ Kp [] w wr) (fun i _ => (7 - intOf i).toNat)
  case atStart => exact ⟨0, _, Nat.zero_le _, rfl, unhide hm, fun i hi => by omega, K1⟩
  case round =>
    obtain ⟨j, m, hj, rfl, hmr, hla, hkr⟩ := hrel
    replace hmr := hide hmr
    replace hla := hide hla
    by_cases hlt : j < 6
    · have hrr := hide ((unhide HR).below (hkr.below (Nat.le_refl _) (by simp)) (Nat.le_refl _))
      go_wp2_with fail
      refine (write_yes (unhide hmr) _ _ _ cs.length cap cs rfl (unhide hrr) (by omega) (by rw [inside_iff]; omega)).mono ?_
      rintro e W3 ⟨rfl, hm3, hk⟩
      rw [at_nat] at hm3
      have K3 : Kp [] w W3 := hkr.trans hk (by simp) (by simpa using hg)
      have hl3 := hide ((unhide hla).step (unhide hmr).len hlt (by omega))
      replace hm3 := hide hm3
      clear hk hmr hla hrr hkr
      go_wp2
      go_roundw
      case rel => exact ⟨j + 1, _, by omega, by go_num, unhide hm3, unhide hl3, K3⟩
      case measure => simp [intOf]; omega
    · obtain rfl : j = 6 := by omega
      have HZL : ∃ zs : List Nat, List.replicate 512 0 = zs := ⟨_, rfl⟩
      obtain ⟨zs, hzs⟩ := HZL
      have hzl : zs.length = 512 := by rw [← hzs]; exact List.length_replicate
      have hml := (unhide hmr).len
      have F1 := hide ((unhide hla).cleared hml hzl x (by omega) (by omega))
      have F2 := hide (seg_zeros m zs x o cs.length 512 rfl hzs (by omega) (by omega))
      replace hzs := hide hzs
      clear hzl hml
      go_wp2_with fail
      refine (zero_yes (unhide hmr) _ (by omega)).mono ?_
      rintro e W4 ⟨rfl, hm4, hk⟩
      rw [at_one0, unhide hzs] at hm4
      have K4 : Kp [] w W4 := hkr.trans hk (by simp) (by simpa using hg)
      obtain ⟨m2, hm2⟩ : ∃ m2, splice m (x * 512) zs = m2 := ⟨_, rfl⟩
      rw [hm2] at hm4 F1 F2
      replace hm4 := hide hm4
      clear hk hmr hla hkr hzs hm2
      go_wp2
      go_loopw [12] (fun i wr => ∃ (j : Nat), j ≤ 6 ∧ i = .int .i64 ((j : Int) + 1) ∧ PMem wr p g 6 m2 ∧ Kp [] w wr) (fun i _ => (7 - intOf i).toNat)
      case atStart => exact ⟨0, Nat.zero_le _, rfl, unhide hm4, K4⟩
      case round =>
        obtain ⟨j, hj, rfl, hm5, K5⟩ := hrel
        replace hm5 := hide hm5
        clear hm4
        by_cases hlt : j < 6
        · go_wp2_with fail
          refine (read_yes (unhide hm5) _ _ _ (by omega) (by rw [inside_iff]; omega)).mono ?_
          rintro e W6 ⟨h6, rfl, hl6, hb6, hh6, hk⟩
          rw [Int.toNat_natCast, at_nat] at hb6
          rw [Int.toNat_natCast]
          have K6 : Kp [] w W6 := K5.then hk
          have hm6 := hide ((unhide hm5).kept hk (by simp) (by simp))
          have hr6 := hide ((unhide HR).below (K6.below (Nat.le_refl _) (by simp)) (Nat.le_refl _))
          clear hk hm5 hl6 K5
          by_cases hjx : j = x
          · subst hjx
            rw [unhide F2] at hb6
            have e1 : (((j : Int) + 1) != (1 + (j : Int))) = false := by simp; omega
            have e2 : (((j : Int) + 1) == (1 + (j : Int))) = true := by simp; omega
            obtain ⟨C, hC1, hC2⟩ := made_row cs.length
            have hmk := run_make_row' (P := Try.prog) 35 5 (.int .u8 0) 1 Try.underlying35 Try.info5' rfl .i64 .i64 cs.length (by omega) (by omega)
            rw [hC1] at hmk
            have hb7 := hide (hb6.alloc (.cells C 5))
            have hb8 : Bk (W6.alloc (.cells C 5)) W6.heap.size 5 (vals (List.replicate cs.length 0)) := hC2 ▸ Bk.newA W6 5 C
            replace hb8 := hide hb8
            have hm7 := hide ((unhide hm6).kept ((Kp.refl [] W6).alloc (.cells C 5)) (by simp) (by simp))
            have K7 := K6.alloc (.cells C 5)
            have hzl : (List.replicate cs.length 0).length = cs.length := List.length_replicate
            obtain ⟨zz, hzz, hzs⟩ : ∃ zz : List Nat, List.replicate cs.length 0 = zz ∧ Small zz := ⟨_, rfl, Small.zeros _⟩
            rw [hzz] at hb7 hb8 hzl
            replace hzl := hide hzl
            clear hC1 hC2 hb6 hm6 hzz K6
            go_wp2_with fail
            refine (same_len _ _ _ _ zz cs.length (unhide hzl) _ ((unhide hb7).rowAll hzs (by rw [unhide hzl]; omega)) ((unhide hb8).rowAll hzs (by rw [unhide hzl]; omega))).mono ?_
            rintro e w' ⟨rfl, k9, rfl⟩
            have K9 := K7.drewN k9
            have hm9 := hide ((unhide hm7).drewN k9)
            clear K7 hm7 hb7 hb8 hmk e1 e2
            go_wp2
            go_roundw
            case rel => exact ⟨j + 1, by omega, by go_num, unhide hm9, K9⟩
            case measure => simp [intOf]; omega
          · rw [unhide F1 j hlt hjx] at hb6
            have e1 : (((j : Int) + 1) != (1 + (x : Int))) = true := by simp; omega
            have e2 : (((j : Int) + 1) == (1 + (x : Int))) = false := by simp; omega
            replace hb6 := hide hb6
            go_wp2_with fail
            refine (same_len _ _ _ _ cs cs.length rfl _ ((unhide hb6).rowAll (unhide hsm) (by omega)) (unhide hr6)).mono ?_
            rintro e w' ⟨rfl, k9, rfl⟩
            have K9 := K6.drewN k9
            have hm9 := hide ((unhide hm6).drewN k9)
            clear K6 hm6 hb6 e1 e2
            go_wp2
            go_roundw
            case rel => exact ⟨j + 1, by omega, by go_num, unhide hm9, K9⟩
            case measure => simp [intOf]; omega
        · obtain rfl : j = 6 := by omega
          go_wp2_with fail
          have hm6 := hide ((unhide hm5).kept ((Kp.refl [] wr).alloc (.cells #[.int .u8 9] 5)) (by simp) (by simp))
          have hb6 : Bk (wr.alloc (.cells #[.int .u8 9] 5)) wr.heap.size 5 (vals [9]) := Bk.newA _ _ _
          refine (write_yes (unhide hm6) _ 0 _ 1 1 [9] rfl (hb6.rowAll (by rw [small_iff]; simp) (by simp)) (by omega) (by rw [inside_iff]; omega)).mono ?_
          rintro e W7 ⟨rfl, hm7, hk7⟩
          have K7 : Kp [] w W7 := (K5.alloc _).trans hk7 (by simp) (by simpa using hg)
          replace hm7 := hide hm7
          have hml := (unhide hm6).len
          clear hm5 hm6 hb6 hk7 K5
          go_wp2_with fail
          refine (read_yes (unhide hm7) _ 0 1 (by omega) (by rw [inside_iff]; omega)).mono ?_
          rintro e W8 ⟨h, rfl, hl8, hb8, hh8, hk8⟩
          have e1 : (1 : Int).toNat = 1 := rfl
          have hc : W8.cell? ⟨h, 0, none⟩ = some (.int .u8 9) := by
            rw [e1, at_one0] at hb8
            rw [hb8.cell (vals_get _ 0 (by rw [seg_len _ _ _ (by rw [splice_len _ _ _ (by simp; omega)]; omega)]; omega)), seg_get _ _ _ _ (by omega), splice_get _ _ _ (by simp; omega), if_pos (by simp)]
            simp
          have K8 : Kp [] w W8 := K7.then hk8
          have hm8 := hide ((unhide hm7).kept hk8 (by simp) (by simp))
          clear hm7 hl8 hb8 hk8 K7 hml
          go_wp2_with fail
          refine (zero_no (unhide hm8) 0 (by omega)).mono ?_
          rintro e w' ⟨rfl, rfl⟩
          go_wp2_with fail
          refine (zero_no (unhide hm8) 7 (by omega)).mono ?_
          rintro e w' ⟨rfl, rfl⟩
          go_wp2
          go_ret
          exact ⟨rfl, K8.below (Nat.le_refl _) (by simp)⟩
theorem zero_walk (u v off : Int) (a : Option Addr) (len cap : Nat) (zs : List Int) (w : World) (w0 : (Lit.int .i64 u).wf = true) (w1 : (Lit.int .i64 v).wf = true) (w2 : (Lit.int .i64 off).wf = true) (hl : zs.length = len) (hz : Ints .u8 w a zs) :
    Calls Try.prog 6 #[.int .i64 u, .int .i64 v, .int .i64 off, .slice a len cap] w fun e w' => e = .returned (.bool true) ∧ Below w.heap.size w w' := by
  by_cases h : len = 0 ∨ 60 < len
  · exact zero_out a len cap u v off w h
  · obtain ⟨bs, hb, hr⟩ := hz.bytes (by omega)
    rw [hl] at hb
    subst hb
    exact zero_in a cap bs u v off w hr (by omega) (by omega)
end Go.Proofs.Ytidbnbdijjhmgaa
