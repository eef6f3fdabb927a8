/- The walk of PhysApart. -/
import Derived.Test.YtidbnbdijjhmgaaKZero
import Derived.Test.YtidbnbdijjhmgaaKRMem
import Derived.Deep.RegionWith
import Derived.BigRegion
import Derived.Deep.DeepCutAuto
namespace Go.Proofs.Ytidbnbdijjhmgaa
open Go.RowKit
set_option linter.unusedVariables false
set_option maxHeartbeats 400000 in
theorem apart_out (a : Option Addr) (len cap : Nat) (u v off : Int) (w : World) (hl : len = 0 ∨ 100 < len) :
    Calls Try.prog 4 #[.int .i64 u, .int .i64 v, .int .i64 off, .slice a len cap] w fun e w' => e = .returned (.bool true) ∧ Below w.heap.size w w' := by
  rcases hl with rfl | hl
  · go_enter Try.func4, Try.ntmps4
    go_wp2_with fail
    refine (first_calls _).mono ?_
    rintro e W0 ⟨rfl, K0⟩
    go_wp2
    go_ret
    exact ⟨rfl, K0.below (Nat.le_refl _) (by simp)⟩
  · have h1 : ((len : Int) == 0) = false := beq_eq_false_iff_ne.2 (by omega)
    have h2 : (100 : Int) < (len : Int) := by omega
    go_enter Try.func4, Try.ntmps4
    go_wp2_with fail
    refine (first_calls _).mono ?_
    rintro e W0 ⟨rfl, K0⟩
    go_wp2
    go_ret
    exact ⟨rfl, K0.below (Nat.le_refl _) (by simp)⟩
theorem Owns.bk {base : Nat} {w : World} {g c : Nat} {bs : List Nat} (h : Owns base w g c bs) : ∃ vs, Bk w g 5 vs := by
  rcases h.2 with ⟨h, _⟩ | ⟨g', cap, cur, hv, _, hh, _⟩
  · cases h
  · cases hv; exact ⟨cur.toList, hh⟩
/-- The memory and what was handed in, in the midst of the statement. -/
structure Mid (w : World) (p g : Nat) (a : Option Addr) (cs : List Nat) (wr : World) (bs : List Nat) : Prop where
  pm : PMem wr p g 8 bs
  kp : Kp [] w wr
  row : Row wr a cs
theorem Mid.new {w : World} {p g : Nat} {a : Option Addr} {cs : List Nat} {wr w' : World} {bs : List Nat} (m : Mid w p g a cs wr bs) (h0 : Row w a cs) (k : Kp [] wr w') : Mid w p g a cs w' bs :=
  ⟨m.pm.kept k (by simp) (by simp), m.kp.then k, h0.below ((m.kp.then k).below (Nat.le_refl _) (by simp)) (Nat.le_refl _)⟩
theorem Mid.stored {w : World} {p g : Nat} {a : Option Addr} {cs : List Nat} {wr : World} {bs : List Nat} (m : Mid w p g a cs wr bs) (h0 : Row w a cs) {B : Nat} {vs : List Value} (hB : Bk wr B 5 vs) (hf : w.heap.size ≤ B) (i : Nat) (v : Value) : Mid w p g a cs (wr.setCell ⟨B, i, none⟩ v) bs :=
  have k : Kp [B] wr (wr.setCell ⟨B, i, none⟩ v) := (Kp.refl [B] wr).setCell (p := ⟨B, i, none⟩) (.inl (by simp)) _
  have k2 : Kp [] w (wr.setCell ⟨B, i, none⟩ v) := m.kp.setCell (.inr hf) _
  ⟨m.pm.kept k (by simpa using m.pm.head.apart hB (by decide)) (by simpa using m.pm.body.apart hB (by decide)), k2, h0.below (k2.below (Nat.le_refl _) (by simp)) (Nat.le_refl _)⟩
theorem Mid.wrote {w : World} {p g : Nat} {a : Option Addr} {cs : List Nat} {wr w' : World} {bs bs' : List Nat} (m : Mid w p g a cs wr bs) (h0 : Row w a cs) (hg : w.heap.size ≤ g) (k : Kp [g] wr w') (hm : PMem w' p g 8 bs') : Mid w p g a cs w' bs' :=
  have k2 : Kp [] w w' := m.kp.trans k (by simp) (by simpa using hg)
  ⟨hm, k2, h0.below (k2.below (Nat.le_refl _) (by simp)) (Nat.le_refl _)⟩
theorem Bk.drew {w : World} {g : Nat} {T : TypeId} {vs : List Value} (h : Bk w g T vs) : Bk w.drew g T vs := h
theorem Bk.made (w : World) (T : TypeId) {C : Array Value} {vs : List Value} (hC : C.toList = vs) : Bk (w.alloc (.cells C T)) w.heap.size T vs := hC ▸ Bk.newA w T C
theorem Mid.drew {w : World} {p g : Nat} {a : Option Addr} {cs : List Nat} {wr : World} {bs : List Nat} (m : Mid w p g a cs wr bs) (h0 : Row w a cs) : Mid w p g a cs wr.drew bs := m.new h0 (Kp.refl [] wr).drew
theorem Mid.drewN {w : World} {p g : Nat} {a : Option Addr} {cs : List Nat} {wr : World} {bs : List Nat} (m : Mid w p g a cs wr bs) (h0 : Row w a cs) (k : Nat) : Mid w p g a cs (wr.drewN k) bs := m.new h0 ((Kp.refl [] wr).drewN k)
theorem Mid.alloc {w : World} {p g : Nat} {a : Option Addr} {cs : List Nat} {wr : World} {bs : List Nat} (m : Mid w p g a cs wr bs) (h0 : Row w a cs) (o : Obj) : Mid w p g a cs (wr.alloc o) bs := m.new h0 ((Kp.refl [] wr).alloc o)
set_option maxRecDepth 100000 in
set_option maxHeartbeats 4000000 in
theorem apart_in (a : Option Addr) (cap : Nat) (cs : List Nat) (u v off : Int) (w : World) (hr : Row w a cs) (hl0 : 0 < cs.length) (hl : cs.length ≤ 100) :
    Calls Try.prog 4 #[.int .i64 u, .int .i64 v, .int .i64 off, .slice a cs.length cap] w fun e w' => e = .returned (.bool true) ∧ Below w.heap.size w w' := by
  have d1 : ((cs.length : Int) == 0) = false := beq_eq_false_iff_ne.2 (by omega)
  have d2 : decide ((100 : Int) < (cs.length : Int)) = false := by simp; omega
  obtain ⟨x, hx⟩ : ∃ x : Nat, u % 8 = (x : Int) := ⟨(u % 8).toNat, by omega⟩
  obtain ⟨y, hy⟩ : ∃ y : Nat, v % 8 = (y : Int) := ⟨(v % 8).toNat, by omega⟩
  obtain ⟨o, ho⟩ : ∃ o : Nat, off % (512 - (cs.length : Int) + 1) = (o : Int) := by
    have := Int.emod_nonneg off (show 512 - (cs.length : Int) + 1 ≠ 0 by omega)
    exact ⟨(off % (512 - (cs.length : Int) + 1)).toNat, by omega⟩
  have x1 : (x : Int) < 8 := by omega
  have y1 : (y : Int) < 8 := by omega
  have o1 : (o : Int) + (cs.length : Int) ≤ 512 := by
    have := Int.emod_lt_of_pos off (show 0 < 512 - (cs.length : Int) + 1 by omega)
    omega
  have o2 : ¬ 512 = o := by omega
  replace hx := hide hx
  replace hy := hide hy
  replace ho := hide ho
  have hsm := hide hr.1
  have HR := hide hr
  clear hr
  go_enter Try.func4, Try.ntmps4
  go_wp2_with fail
  refine (first_calls _).mono ?_
  rintro e W0 ⟨rfl, K0⟩
  go_wp2_with fail
  refine (new_to _ 8 8 (by decide)).mono ?_
  rintro e W1 ⟨p, g, rfl, hm, hp, hg, hk⟩
  replace hp : w.heap.size ≤ p := Nat.le_trans K0.size hp
  replace hg : w.heap.size ≤ g := Nat.le_trans K0.size hg
  have hM : Hid (Mid w p g a cs W1 _) := ⟨hm, K0.then hk, (unhide HR).below ((K0.then hk).below (Nat.le_refl _) (by simp)) (Nat.le_refl _)⟩
  clear hk K0 hm
  go_wp2_with fail
  refine (number_to _ _ _ _ (by omega) (by omega) (unhide hx)).mono ?_
  rintro e w' ⟨rfl, rfl⟩
  go_wp2_with fail
  refine (number_to _ _ _ _ (by omega) (by omega) (unhide hy)).mono ?_
  rintro e w' ⟨rfl, rfl⟩
  go_wp2_with fail
  refine (number_to _ _ _ _ (by omega) (by omega) (unhide ho)).mono ?_
  rintro e w' ⟨rfl, rfl⟩
  go_wp2_with fail
  refine (bytes_calls _ _ cs _ (unhide hM).row (by omega)).mono ?_
  rintro e W2 ⟨gc, cc, rfl, hown, hbel⟩
  have hM2 := hide ((unhide hM).new (unhide HR) (Kp.ofBelow hbel _))
  have hgc : w.heap.size ≤ gc := Nat.le_trans (unhide hM).kp.size hown.le.1
  have hrc := hide (hown.row (unhide hsm) (by omega))
  replace hown := hide hown
  clear hbel hM
  go_wp2_with fail
  refine (write_yes (unhide hM2).pm _ _ _ cs.length cc cs rfl (unhide hrc) (by omega) (by rw [inside_iff]; omega)).mono ?_
  rintro e W3 ⟨rfl, hm3, hk3⟩
  obtain ⟨vs, hbc⟩ := (unhide hown).bk
  have hgg : gc ∉ [g] := by simpa using hbc.apart (unhide hM2).pm.body (by decide)
  have hbc3 := hide (hbc.kept hk3 hgg)
  have hown3 := (unhide hown).kept hk3 hgg
  have hcc : W3.cell? ⟨gc, 0, none⟩ = some (.int .u8 ((cs.getD 0 0 : Nat) : Int)) := by rw [World.ownsRow.cellAt hown3 0 (by omega), vals_get cs 0 hl0]
  have hfc : W3.frozen? ⟨gc, 0, none⟩ = false := World.ownsRow.frozenAt hown3 _
  rw [at_one] at hm3
  have hM3 := hide ((unhide hM2).wrote (unhide HR) hg hk3 hm3)
  obtain ⟨z0, hz0⟩ : ∃ z : Nat, cs.getD 0 0 = z := ⟨_, rfl⟩
  rw [hz0] at hcc
  clear hm3 hk3 hbc hown3 hown hrc hM2 hgg hz0
  have hM4 := hide ((unhide hM3).stored (unhide HR) (unhide hbc3) hgc 0 (.int .u8 (((z0 : Int) + 1) % 256)))
  have hml := (unhide hM3).pm.len
  have hsgc : seg (splice (List.replicate (8 * 512) 0) (x * 512 + o) cs) (x * 512 + o) cs.length = cs := seg_splice_in _ _ _ (by rw [List.length_replicate]; omega)
  have hsgz : ∀ i, i < 8 → i ≠ x → seg (splice (List.replicate (8 * 512) 0) (x * 512 + o) cs) (i * 512) 512 = List.replicate 512 0 := fun i hi hne => by
    rw [seg_splice_out _ _ _ _ _ (by rw [List.length_replicate]; omega) (by rw [List.length_replicate]; omega) (by omega)]
    unfold seg
    rw [List.drop_replicate, List.take_replicate, Nat.min_eq_left (by omega)]
  obtain ⟨m1, hm1⟩ : ∃ m1, splice (List.replicate (8 * 512) 0) (x * 512 + o) cs = m1 := ⟨_, rfl⟩
  rw [hm1] at hsgc hsgz hM3 hM4 hml
  replace hsgc := hide hsgc
  replace hsgz := hide hsgz
  clear hm1 hM3 hbc3
  go_wp2_with fail
  refine (read_yes (unhide hM4).pm _ _ _ (by omega) (by rw [inside_iff]; omega)).mono ?_
  rintro e W5 ⟨h5, rfl, hl5, hb5, hf5, hk5⟩
  rw [Int.toNat_natCast, at_one, unhide hsgc] at hb5
  rw [Int.toNat_natCast]
  have hM5 := hide ((unhide hM4).new (unhide HR) hk5)
  have hf5' : w.heap.size ≤ h5 := Nat.le_trans (unhide hM4).kp.size hf5
  have hc5 : W5.cell? ⟨h5, 0, none⟩ = some (.int .u8 ((cs.getD 0 0 : Nat) : Int)) := hb5.cell (vals_get cs 0 hl0)
  have hz5 : W5.frozen? ⟨h5, 0, none⟩ = false := hb5.frozen 0
  obtain ⟨z5, hz5e⟩ : ∃ z : Nat, cs.getD 0 0 = z := ⟨_, rfl⟩
  rw [hz5e] at hc5
  replace hb5 := hide hb5
  clear hk5 hl5 hM4 hz5e hf5
  go_wp2_with fail
  refine (same_len _ _ _ _ cs cs.length rfl _ ((unhide hb5).rowAll (unhide hsm) (by omega)) (unhide hM5).row).mono ?_
  rintro e w' ⟨rfl, k5, rfl⟩
  have hM6 := hide (((unhide hM5).new (unhide HR) ((Kp.refl [] W5).drewN k5)).stored (unhide HR) ((unhide hb5).drewN k5) hf5' 0 (.int .u8 (((z5 : Int) + 1) % 256)))
  clear hM5
  go_wp2_with fail
  refine (bytes_yes (unhide hM6).pm _ (by omega)).mono ?_
  rintro e W7 ⟨h7, rfl, hl7, hb7, hf7, hk7⟩
  rw [at_one0] at hb7 hl7
  have hM7 := hide ((unhide hM6).new (unhide HR) hk7)
  have hf7' : w.heap.size ≤ h7 := Nat.le_trans (unhide hM6).kp.size hf7
  have hyr : Hid (Row W7 (some ⟨h7, o, none⟩) cs) := by
    have := hb7.row (seg_small (unhide hM6).pm.small (x * 512) 512) o cs.length (by omega) (by omega)
    rwa [seg_seg _ _ _ _ _ (by omega), unhide hsgc] at this
  have hc7 : W7.cell? ⟨h7, o, none⟩ = some (.int .u8 (((seg m1 (x * 512) 512).getD o 0 : Nat) : Int)) := hb7.cell (vals_get _ o (by omega))
  have hz7 : W7.frozen? ⟨h7, o, none⟩ = false := hb7.frozen o
  obtain ⟨z7, hz7e⟩ : ∃ z : Nat, (seg m1 (x * 512) 512).getD o 0 = z := ⟨_, rfl⟩
  rw [hz7e] at hc7
  replace hb7 := hide hb7
  clear hk7 hl7 hM6 hz7e hf7 hb5
  go_wp2_with fail
  refine (same_len _ _ _ _ cs cs.length rfl _ (unhide hyr) (unhide hM7).row).mono ?_
  rintro e w' ⟨rfl, k7, rfl⟩
  have hM8 := hide (((unhide hM7).new (unhide HR) ((Kp.refl [] W7).drewN k7)).stored (unhide HR) ((unhide hb7).drewN k7) hf7' o (.int .u8 (((z7 : Int) + 1) % 256)))
  clear hM7 hyr
  go_wp2_with fail
  refine (read_yes (unhide hM8).pm _ _ _ (by omega) (by rw [inside_iff]; omega)).mono ?_
  rintro e W9 ⟨h9, rfl, hl9, hb9, hf9, hk9⟩
  rw [Int.toNat_natCast, at_one, unhide hsgc] at hb9
  rw [Int.toNat_natCast]
  have hM9 := hide ((unhide hM8).new (unhide HR) hk9)
  replace hb9 := hide hb9
  clear hk9 hl9 hM8 hf9 hb7
  obtain ⟨C, hC, hmk⟩ := make_bytes 512 512 (by rfl) (by omega)
  obtain ⟨zs, hzs, hzl, hzm, _⟩ := zeros_of 512
  rw [hzs] at hC hsgz
  replace hC := hide hC
  replace hzs := hide hzs
  replace hzl := hide hzl
  replace hzm := hide hzm
  go_upto_region 25 with fail
  go_cut [126] (fun c wx => c = .bool false ∧ Mid w p g a cs wx m1 ∧ Bk wx h9 5 (vals cs))
  case first =>
    by_cases hxy : y = x
    · subst hxy
      go_big_region
      go_wp2
      go_meet
      case rel => exact ⟨rfl, (unhide hM9).drew (unhide HR), (unhide hb9).drew⟩
    · have e1 : ((1 + (y : Int)) != (1 + (x : Int))) = true := by simp; omega
      have hsy := hide (unhide hsgz y (by omega) hxy)
      have hyu : Hid (1 ≤ 1 + (y : Int) ∧ 1 + (y : Int) ≤ ((8 : Nat) : Int)) := by unfold Hid; omega
      have hzb : Hid (zs.length ≤ 1152921504606846976) := by unfold Hid; rw [unhide hzl]; omega
      have hMd := hide ((unhide hM9).drew (unhide HR))
      have hbd := hide (unhide hb9).drew
      have hMa := hide (((unhide hM9).alloc (unhide HR) (.cells C 5)).drew (unhide HR))
      have hba := hide ((unhide hb9).alloc (.cells C 5)).drew
      have hza := hide (Bk.made W9 5 (unhide hC)).drew
      clear hM9 hb9
      go_region_held3 (fun w' => True) (go_keep) (first
        | (go_at_call 20; (with_reducible refine (bytes_yes (unhide hMd).pm (1 + (y : Int)) (unhide hyu)).mono ?_); rintro e W10 ⟨h10, rfl, _, hb10, _, hk10⟩; rw [at_one0, unhide hsy] at hb10; have hMA := hide (((unhide hMd).new (unhide HR) hk10).alloc (unhide HR) (.cells C 5)); have hbA := hide (((unhide hbd).kept hk10 (by simp)).alloc (.cells C 5)); have hb10A := hide (hb10.alloc (.cells C 5)); have hzA := hide (Bk.made W10 5 (unhide hC)); clear hb10 hk10)
        | (go_at_call 20; (with_reducible refine (bytes_yes (unhide hMa).pm (1 + (y : Int)) (unhide hyu)).mono ?_); rintro e W10 ⟨h10, rfl, _, hb10, _, hk10⟩; rw [at_one0, unhide hsy] at hb10; have hMB := hide ((unhide hMa).new (unhide HR) hk10); have hbB := hide ((unhide hba).kept hk10 (by simp)); have hb10B := hide hb10; have hzB := hide ((unhide hza).kept hk10 (by simp)); clear hb10 hk10)
        | (go_at_call 14; refine (same_len _ _ _ _ zs 512 (unhide hzl) _ ((unhide hb10A).rowAll (unhide hzm) (unhide hzb)) ((unhide hzA).rowAll (unhide hzm) (unhide hzb))).mono ?_; rintro e w' ⟨rfl, k10, rfl⟩; have hF := hide ((unhide hMA).drewN (unhide HR) k10); have hbF := hide ((unhide hbA).drewN k10))
        | (go_at_call 14; refine (same_len _ _ _ _ zs 512 (unhide hzl) _ ((unhide hb10B).rowAll (unhide hzm) (unhide hzb)) ((unhide hzB).rowAll (unhide hzm) (unhide hzb))).mono ?_; rintro e w' ⟨rfl, k10, rfl⟩; have hF := hide ((unhide hMB).drewN (unhide HR) k10); have hbF := hide ((unhide hbB).drewN k10)))
      all_goals
        go_wp2
        go_meet
        case rel => exact ⟨rfl, unhide hF, unhide hbF⟩
  case rest =>
    obtain ⟨rfl, hM, hb⟩ := hcut
    replace hM := hide hM
    replace hb := hide hb
    clear hM9 hb9 hsgz
    go_upto_region 27 with fail
    have hM0 := hide ((unhide hM).drew (unhide HR))
    have hb0 := hide (unhide hb).drew
    have hxu : Hid (1 ≤ 1 + (x : Int) ∧ 1 + (x : Int) ≤ ((8 : Nat) : Int)) := by unfold Hid; omega
    have hn9 : Hid (¬ (1 ≤ (9 : Int) ∧ (9 : Int) ≤ ((8 : Nat) : Int))) := by unfold Hid; omega
    have hn0 : Hid (¬ (1 ≤ (0 : Int) ∧ (0 : Int) ≤ ((8 : Nat) : Int))) := by unfold Hid; omega
    have hzb : Hid (zs.length ≤ 1152921504606846976) := by unfold Hid; rw [unhide hzl]; omega
    have hcb : Hid (cs.length ≤ 1152921504606846976) := by unfold Hid; omega
    have hsu : Hid (seg (splice m1 (x * 512) zs) (x * 512) 512 = zs) := by
      have := seg_splice_in m1 zs (x * 512) (by rw [unhide hzl]; omega)
      rwa [unhide hzl] at this
    clear hb
    go_region_held3 (fun w' => True) (go_keep) (first
      | (go_at_call 15; (with_reducible refine (zero_no (unhide hP4) 9 (unhide hn9)).mono ?_); rintro e w' ⟨rfl, rfl⟩)
      | (go_at_call 20; (with_reducible refine (bytes_no (unhide hP4) 0 (unhide hn0)).mono ?_); rintro e w' ⟨rfl, rfl⟩)
      | (go_at_call 14; (with_reducible refine (same_len _ _ _ _ zs 512 (unhide hzl) _ ((unhide hb10A).rowAll (unhide hzm) (unhide hzb)) ((unhide hzA).rowAll (unhide hzm) (unhide hzb))).mono ?_); rintro e w' ⟨rfl, k10, rfl⟩; have hP4 := hide ((unhide hMA).drewN k10); have hKF := hide ((unhide hKA).drewN k10))
      | (go_at_call 14; (with_reducible refine (same_len _ _ _ _ zs 512 (unhide hzl) _ ((unhide hb10B).rowAll (unhide hzm) (unhide hzb)) ((unhide hzB).rowAll (unhide hzm) (unhide hzb))).mono ?_); rintro e w' ⟨rfl, k10, rfl⟩; have hP4 := hide ((unhide hMB).drewN k10); have hKF := hide ((unhide hKB).drewN k10))
      | (go_at_call 20; (with_reducible refine (bytes_yes (unhide hP2) (1 + (x : Int)) (unhide hxu)).mono ?_); rintro e W12 ⟨h10, rfl, _, hb10, _, hk10⟩; rw [at_one0, unhide hsu] at hb10; have hMA := hide (((unhide hP2).kept hk10 (by simp) (by simp)).kept ((Kp.refl [] W12).alloc (.cells C 5)) (by simp) (by simp)); have hKA := hide (((unhide hK2).then hk10).alloc (.cells C 5)); have hb10A := hide (hb10.alloc (.cells C 5)); have hzA := hide (Bk.made W12 5 (unhide hC)); clear hb10 hk10)
      | (go_at_call 20; (with_reducible refine (bytes_yes (unhide hP2a) (1 + (x : Int)) (unhide hxu)).mono ?_); rintro e W12 ⟨h10, rfl, _, hb10, _, hk10⟩; rw [at_one0, unhide hsu] at hb10; have hMB := hide ((unhide hP2a).kept hk10 (by simp) (by simp)); have hKB := hide ((unhide hK2a).then hk10); have hb10B := hide hb10; have hzB := hide ((unhide hz2a).kept hk10 (by simp)); clear hb10 hk10)
      | (go_at_call 15; (with_reducible refine (zero_yes (unhide hP1) (1 + (x : Int)) (unhide hxu)).mono ?_); rintro e W11 ⟨rfl, hm11, hk11⟩; rw [at_one0, unhide hzs] at hm11; have hP2 := hide hm11; have hK2 : Hid (Kp [] w W11) := (unhide hK1).trans hk11 (by simp) (by simpa using hg); have hP2a := hide (hm11.kept ((Kp.refl [] W11).alloc (.cells C 5)) (by simp) (by simp)); have hK2a := hide ((unhide hK2).alloc (.cells C 5)); have hz2a := hide (Bk.made W11 5 (unhide hC)); clear hm11 hk11)
      | (go_at_call 14; (with_reducible refine (same_len _ _ _ _ cs cs.length rfl _ ((unhide hb0).rowAll (unhide hsm) (unhide hcb)) (unhide hM0).row).mono ?_); rintro e w' ⟨rfl, k11, rfl⟩; have hP1 := hide ((unhide hM).pm.drewN (1 + k11)); have hK1 := hide ((unhide hM).kp.drewN (1 + k11))))
    all_goals
      go_wp2
      go_ret
      exact ⟨rfl, (unhide hKF).below (Nat.le_refl _) (by simp)⟩
theorem apart_walk (u v off : Int) (a : Option Addr) (len cap : Nat) (zs : List Int) (w : World) (w0 : (Lit.int .i64 u).wf = true) (w1 : (Lit.int .i64 v).wf = true) (w2 : (Lit.int .i64 off).wf = true) (hl : zs.length = len) (hz : Ints .u8 w a zs) :
    Calls Try.prog 4 #[.int .i64 u, .int .i64 v, .int .i64 off, .slice a len cap] w fun e w' => e = .returned (.bool true) ∧ Below w.heap.size w w' := by
  by_cases h : len = 0 ∨ 100 < len
  · exact apart_out a len cap u v off w h
  · obtain ⟨bs, hb, hr⟩ := hz.bytes (by omega)
    rw [hl] at hb
    subst hb
    exact apart_in a cap bs u v off w hr (by omega) (by omega)
end Go.Proofs.Ytidbnbdijjhmgaa
