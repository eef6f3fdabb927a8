/- Addresses: the document's Join, Split, Step, in plain numbers. -/
import Derived.Test.YtjjgjgncnifjmaaKCaps3
namespace Go.Proofs.Ytjjgjgncnifjmaa
open Go.RowKit
set_option linter.unusedVariables false
/-- An address, put together. -/
def joinN (v d : Int) : Int := v % 16777216 * 256 + d % 256
/-- Taken apart. -/
def splitOk (a : Int) : Bool := decide (4 ≤ a % 256 ∧ a % 256 ≤ 24 ∧ a / 256 < ((2 ^ (a % 256).toNat : Nat) : Int))
def splitV (a : Int) : Int := if splitOk a = true then a / 256 else 0
def splitD (a : Int) : Int := if splitOk a = true then a % 256 else 0
theorem pow24 (g : Int) (h0 : 0 ≤ g) (h1 : g ≤ 24) : 1 ≤ ((2 ^ g.toNat : Nat) : Int) ∧ ((2 ^ g.toNat : Nat) : Int) ≤ 16777216 := by
  have h := Nat.pow_le_pow_right (show 0 < 2 by omega) (show g.toNat ≤ 24 by omega)
  have hp := Nat.pow_pos (n := g.toNat) (show 0 < 2 by omega)
  rw [show (2 : Nat) ^ 24 = 16777216 from rfl] at h
  omega
theorem wrap_pow (g : Int) (h0 : 0 ≤ g) (h1 : g ≤ 24) : wrap64 ((2 : Int) ^ g.toNat) = ((2 ^ g.toNat : Nat) : Int) := by
  have := pow24 g h0 h1
  rw [ipow]; unfold wrap64; omega
set_option maxHeartbeats 400000 in
set_option maxRecDepth 4000 in
theorem rsplit_calls (a : Int) (w : World) (h : 0 ≤ a ∧ a < 4294967296) :
    Calls Try.prog 25 #[.int .u32 a] w fun e w' => e = .returned (.tuple #[.int .i64 (splitV a), .int .i64 (splitD a), .bool (splitOk a)]) ∧ w' = w := by
  obtain ⟨g, hg⟩ : ∃ g, a % 256 = g := ⟨_, rfl⟩
  obtain ⟨d, hd⟩ : ∃ d, a / 256 = d := ⟨_, rfl⟩
  have hd0 : 0 ≤ d ∧ d < 16777216 := by omega
  have hg0 : 0 ≤ g ∧ g < 256 := by omega
  have HF : bits .and .u32 a 255 = g := by rw [low8 a h.1 h.2]; exact hg
  obtain ⟨v, hv⟩ : ∃ v, splitOk a = v := ⟨_, rfl⟩
  have HV := hide (show splitV a = (if v = true then d else 0) ∧ splitD a = (if v = true then g else 0) from by unfold splitV splitD; rw [hv, hd, hg]; exact ⟨rfl, rfl⟩)
  have HO : v = decide (4 ≤ g ∧ g ≤ 24 ∧ d < ((2 ^ g.toNat : Nat) : Int)) := by rw [← hv]; unfold splitOk; rw [hd, hg]
  rw [hv, (unhide HV).1, (unhide HV).2]
  clear hg HV hv
  by_cases h4 : 4 ≤ g
  · by_cases h24 : g ≤ 24
    · have hW := wrap_pow g hg0.1 h24
      obtain ⟨P, hP⟩ : ∃ P : Int, ((2 ^ g.toNat : Nat) : Int) = P := ⟨_, rfl⟩
      rw [hP] at hW HO
      have g4 : decide (g < 4) = false := decide_eq_false (by omega)
      have g24 : decide (24 < g) = false := decide_eq_false (by omega)
      obtain ⟨q, hq⟩ : ∃ q, decide (P ≤ d) = q := ⟨_, rfl⟩
      obtain rfl : v = !q := by rw [HO, ← hq]; refine Bool.eq_iff_iff.2 ?_; simp; omega
      clear HO hP
      cases q
      · go_enter Try.func25, Try.ntmps25
        go_wp2
        exact bodyPost_ret (v := .tuple #[.int .i64 d, .int .i64 g, .bool true]) (by simp [results, Try.results25, go_sem]) rfl ⟨rfl, rfl⟩
      · go_enter Try.func25, Try.ntmps25
        go_wp2
        exact bodyPost_ret (v := .tuple #[.int .i64 0, .int .i64 0, .bool false]) (by simp [results, Try.results25, go_sem]) rfl ⟨rfl, rfl⟩
    · obtain rfl : v = false := by rw [HO]; exact decide_eq_false (by omega)
      have g4 : decide (g < 4) = false := decide_eq_false (by omega)
      have g24 : decide (24 < g) = true := decide_eq_true (by omega)
      clear HO
      go_enter Try.func25, Try.ntmps25
      go_wp2
      exact bodyPost_ret (v := .tuple #[.int .i64 0, .int .i64 0, .bool false]) (by simp [results, Try.results25, go_sem]) rfl ⟨rfl, rfl⟩
  · obtain rfl : v = false := by rw [HO]; exact decide_eq_false (by omega)
    have g4 : decide (g < 4) = true := decide_eq_true (by omega)
    clear HO
    go_enter Try.func25, Try.ntmps25
    go_wp2
    exact bodyPost_ret (v := .tuple #[.int .i64 0, .int .i64 0, .bool false]) (by simp [results, Try.results25, go_sem]) rfl ⟨rfl, rfl⟩
theorem join_bits (v d : Int) : bits .or .u32 (v % 4294967296 * 256 % 4294967296) (bits .and .u32 (d % 4294967296) 255) = joinN v d := by
  rw [low8 (d % 4294967296) (by omega) (by omega)]
  obtain ⟨m, hm⟩ : ∃ m : Nat, v % 16777216 = (m : Int) := ⟨(v % 16777216).toNat, by omega⟩
  obtain ⟨l, hl⟩ : ∃ l : Nat, d % 256 = (l : Int) := ⟨(d % 256).toNat, by omega⟩
  have e1 : v % 4294967296 * 256 % 4294967296 = ((m * 256 : Nat) : Int) := by omega
  have e2 : d % 4294967296 % 256 = ((l : Nat) : Int) := by omega
  rw [e1, e2, u32_or_nat _ _ (by omega) (by omega)]
  unfold joinN
  rw [hm, hl]
  have hl8 : l < 2 ^ 8 := by omega
  have := Nat.two_pow_add_eq_or_of_lt (i := 8) hl8 m
  rw [show m * 256 = 2 ^ 8 * m by omega, ← this]
  omega
set_option maxHeartbeats 400000 in
theorem rjoin_calls (v d : Int) (w : World) :
    Calls Try.prog 10 #[.int .i64 v, .int .i64 d] w fun e w' => e = .returned (.int .u32 (joinN v d)) ∧ w' = w := by
  have HJ := hide (join_bits v d)
  go_enter Try.func10, Try.ntmps10
  go_wp2
  go_ret
  exact ⟨ret_int (unhide HJ), rfl⟩
/-- A step in a node: may it be? -/
def stepP (k o s b r v d : Int) : Prop := k = 2 ∧ chkP k o s b r ∧ (0 ≤ d ∧ d ≤ 24) ∧ (0 ≤ v ∧ v < ((2 ^ d.toNat : Nat) : Int)) ∧ s + 4 ≤ d ∧ v / ((2 ^ (d - s).toNat : Nat) : Int) = b
def stepOk (k o s b r v d : Int) : Bool := chk k o s b r && decide (k = 2 ∧ (0 ≤ d ∧ d ≤ 24) ∧ (0 ≤ v ∧ v < ((2 ^ d.toNat : Nat) : Int)) ∧ s + 4 ≤ d ∧ v / ((2 ^ (d - s).toNat : Nat) : Int) = b)
def stepS (k o s b r v d : Int) : Int := if stepOk k o s b r v d = true then v / ((2 ^ (d - s - 4).toNat : Nat) : Int) % 16 else 0
def stepL (k o s b r v d : Int) : Int := if stepOk k o s b r v d = true then d - s - 4 else 0
theorem stepOk_iff (k o s b r v d : Int) : stepOk k o s b r v d = true ↔ stepP k o s b r v d := by
  unfold stepOk stepP
  rw [Bool.and_eq_true, chk_iff, decide_eq_true_iff]
  exact ⟨fun h => ⟨h.2.1, h.1, h.2.2⟩, fun h => ⟨h.2.1, h.1, h.2.2⟩⟩
theorem step_no {k o s b r v d : Int} (h : ¬ stepP k o s b r v d) : stepOk k o s b r v d = false ∧ stepS k o s b r v d = 0 ∧ stepL k o s b r v d = 0 := by
  have e : stepOk k o s b r v d = false := Bool.eq_false_iff.2 fun H => h ((stepOk_iff ..).1 H)
  exact ⟨e, by unfold stepS; rw [e]; rfl, by unfold stepL; rw [e]; rfl⟩
theorem step_yes {k o s b r v d : Int} (h : stepP k o s b r v d) : stepOk k o s b r v d = true ∧ stepS k o s b r v d = v / ((2 ^ (d - s - 4).toNat : Nat) : Int) % 16 ∧ stepL k o s b r v d = d - s - 4 := by
  have e : stepOk k o s b r v d = true := (stepOk_iff ..).2 h
  exact ⟨e, by unfold stepS; rw [e]; rfl, by unfold stepL; rw [e]; rfl⟩
theorem low15 (x : Int) (h : 0 ≤ x) (h1 : x < 16777216) : bits .and .i64 x 15 = x % 16 := by
  obtain ⟨m, rfl⟩ := Int.eq_ofNat_of_zero_le h
  show IntKind.i64.wrap ((BitVec.ofInt 64 (m : Int) &&& BitVec.ofInt 64 ((15 : Nat) : Int)).toNat : Int) = _
  have e1 : (BitVec.ofInt 64 (m : Int)).toNat = m := by rw [BitVec.ofInt_natCast, BitVec.toNat_ofNat]; exact Nat.mod_eq_of_lt (by omega)
  have e2 : (BitVec.ofInt 64 ((15 : Nat) : Int)).toNat = 15 := by rw [BitVec.ofInt_natCast, BitVec.toNat_ofNat]
  rw [BitVec.toNat_and, e1, e2, show (15 : Nat) = 2 ^ 4 - 1 from rfl, Nat.and_two_pow_sub_one_eq_mod, show (2 : Nat) ^ 4 = 16 from rfl]
  have hx : ((m % 16 : Nat) : Int) % 18446744073709551616 = (m : Int) % 16 := by omega
  show (if (true && decide (((m % 16 : Nat) : Int) % 18446744073709551616 ≥ 9223372036854775808)) = true then ((m % 16 : Nat) : Int) % 18446744073709551616 - 18446744073709551616 else ((m % 16 : Nat) : Int) % 18446744073709551616) = (m : Int) % 16
  rw [hx]
  rw [if_neg (by simp; omega)]
theorem CapBk.next (w : World) (k o s b r : Int) {p : Nat} (hp : w.heap.size = p) : Bk (w.alloc (.cells #[.int .i64 k, .int .i64 o, .int .i64 s, .int .i64 b, .int .i64 r] 24)) p 24 [.int .i64 k, .int .i64 o, .int .i64 s, .int .i64 b, .int .i64 r] := Bk.next w _ [.int .i64 k, .int .i64 o, .int .i64 s, .int .i64 b, .int .i64 r] hp
theorem Bk.cells {w w' : World} {p : Nat} {k o s b r : Int} (h0 : Bk w p 24 [.int .i64 k, .int .i64 o, .int .i64 s, .int .i64 b, .int .i64 r]) (kp : Kp [] w w') :
    w'.cell? ⟨p, 0, none⟩ = some (.int .i64 k) ∧ w'.cell? ⟨p, 1, none⟩ = some (.int .i64 o) ∧ w'.cell? ⟨p, 2, none⟩ = some (.int .i64 s) ∧ w'.cell? ⟨p, 3, none⟩ = some (.int .i64 b) ∧ w'.cell? ⟨p, 4, none⟩ = some (.int .i64 r) :=
  have h := h0.kept kp (by simp)
  ⟨h.cell rfl, h.cell rfl, h.cell rfl, h.cell rfl, h.cell rfl⟩
set_option maxHeartbeats 1000000 in
set_option maxRecDepth 4000 in
theorem rstep_calls (k o s b r v d : Int) (w : World) :
    Calls Try.prog 26 #[capV k o s b r, .int .i64 v, .int .i64 d] w fun e w' => e = .returned (.tuple #[.int .i64 (stepS k o s b r v d), .int .i64 (stepL k o s b r v d), .bool (stepOk k o s b r v d)]) ∧ Kp [] w w' := by
  by_cases hk : k = 2
  · subst hk
    obtain ⟨c, hc⟩ : ∃ c, chk 2 o s b r = c := ⟨_, rfl⟩
    cases c
    · have hn : ¬ stepP 2 o s b r v d := fun H => by rw [(chk_iff ..).2 H.2.1] at hc; cases hc
      rw [(step_no hn).1, (step_no hn).2.1, (step_no hn).2.2]
      clear hn
      replace hc := hide hc
      go_enter Try.func26, Try.ntmps26
      go_wp2_with fail
      refine (rcheck_calls 2 o s b r _).mono ?_
      rintro e W1 ⟨rfl, K1⟩
      rw [unhide hc]
      replace K1 := hide (((Kp.refl [] w).alloc _).then K1)
      go_wp2
      exact bodyPost_ret (v := .tuple #[.int .i64 0, .int .i64 0, .bool false]) (by simp [results, Try.results26, go_sem]) rfl ⟨rfl, unhide K1⟩
    have hb := ((chk_iff ..).1 hc).2.2.2
    unfold fitP at hb
    rw [if_neg (by decide), if_pos rfl] at hb
    obtain ⟨s0, s8, _, _⟩ := hb
    have HC := hc
    replace hc := hide hc
    by_cases d0 : d < 0
    · have hn : ¬ stepP 2 o s b r v d := fun H => by obtain ⟨_, _, ⟨_, _⟩, ⟨_, _⟩, _, _⟩ := H; omega
      rw [(step_no hn).1, (step_no hn).2.1, (step_no hn).2.2]
      have x1 : decide (d < 0) = true := decide_eq_true d0
      clear HC
      clear hn
      go_enter Try.func26, Try.ntmps26
      go_wp2_with fail
      refine (rcheck_calls 2 o s b r _).mono ?_
      rintro e W1 ⟨rfl, K1⟩
      rw [unhide hc]
      have c1 := (CapBk.next w 2 o s b r rfl).cells K1
      replace K1 := hide (((Kp.refl [] w).alloc _).then K1)
      go_wp2
      exact bodyPost_ret (v := .tuple #[.int .i64 0, .int .i64 0, .bool false]) (by simp [results, Try.results26, go_sem]) rfl ⟨rfl, unhide K1⟩
    have x1 : decide (d < 0) = false := decide_eq_false d0
    by_cases d1 : 24 < d
    · have hn : ¬ stepP 2 o s b r v d := fun H => by obtain ⟨_, _, ⟨_, _⟩, ⟨_, _⟩, _, _⟩ := H; omega
      rw [(step_no hn).1, (step_no hn).2.1, (step_no hn).2.2]
      have x2 : decide (24 < d) = true := decide_eq_true d1
      clear HC
      clear hn
      go_enter Try.func26, Try.ntmps26
      go_wp2_with fail
      refine (rcheck_calls 2 o s b r _).mono ?_
      rintro e W1 ⟨rfl, K1⟩
      rw [unhide hc]
      have c1 := (CapBk.next w 2 o s b r rfl).cells K1
      replace K1 := hide (((Kp.refl [] w).alloc _).then K1)
      go_wp2
      exact bodyPost_ret (v := .tuple #[.int .i64 0, .int .i64 0, .bool false]) (by simp [results, Try.results26, go_sem]) rfl ⟨rfl, unhide K1⟩
    have x2 : decide (24 < d) = false := decide_eq_false d1
    by_cases v0 : v < 0
    · have hn : ¬ stepP 2 o s b r v d := fun H => by obtain ⟨_, _, ⟨_, _⟩, ⟨_, _⟩, _, _⟩ := H; omega
      rw [(step_no hn).1, (step_no hn).2.1, (step_no hn).2.2]
      have x3 : decide (v < 0) = true := decide_eq_true v0
      clear HC
      clear hn
      go_enter Try.func26, Try.ntmps26
      go_wp2_with fail
      refine (rcheck_calls 2 o s b r _).mono ?_
      rintro e W1 ⟨rfl, K1⟩
      rw [unhide hc]
      have c1 := (CapBk.next w 2 o s b r rfl).cells K1
      replace K1 := hide (((Kp.refl [] w).alloc _).then K1)
      go_wp2
      exact bodyPost_ret (v := .tuple #[.int .i64 0, .int .i64 0, .bool false]) (by simp [results, Try.results26, go_sem]) rfl ⟨rfl, unhide K1⟩
    have x3 : decide (v < 0) = false := decide_eq_false v0
    have hW := wrap_pow d (by omega) (by omega)
    have hPb := pow24 d (by omega) (by omega)
    obtain ⟨P, hP⟩ : ∃ P : Int, ((2 ^ d.toNat : Nat) : Int) = P := ⟨_, rfl⟩
    rw [hP] at hW hPb
    by_cases v1 : P ≤ v
    · have hn : ¬ stepP 2 o s b r v d := fun H => by obtain ⟨_, _, ⟨_, _⟩, ⟨_, _⟩, _, _⟩ := H; omega
      rw [(step_no hn).1, (step_no hn).2.1, (step_no hn).2.2]
      have x4 : decide (P ≤ v) = true := decide_eq_true v1
      replace hP := hide hP
      clear HC
      clear hn
      go_enter Try.func26, Try.ntmps26
      go_wp2_with fail
      refine (rcheck_calls 2 o s b r _).mono ?_
      rintro e W1 ⟨rfl, K1⟩
      rw [unhide hc]
      have c1 := (CapBk.next w 2 o s b r rfl).cells K1
      replace K1 := hide (((Kp.refl [] w).alloc _).then K1)
      go_wp2
      exact bodyPost_ret (v := .tuple #[.int .i64 0, .int .i64 0, .bool false]) (by simp [results, Try.results26, go_sem]) rfl ⟨rfl, unhide K1⟩
    have x4 : decide (P ≤ v) = false := decide_eq_false v1
    by_cases d4 : d < s + 4
    · have hn : ¬ stepP 2 o s b r v d := fun H => by obtain ⟨_, _, ⟨_, _⟩, ⟨_, _⟩, _, _⟩ := H; omega
      rw [(step_no hn).1, (step_no hn).2.1, (step_no hn).2.2]
      have x5 : decide (d < s + 4) = true := decide_eq_true d4
      replace hP := hide hP
      clear HC
      clear hn
      go_enter Try.func26, Try.ntmps26
      go_wp2_with fail
      refine (rcheck_calls 2 o s b r _).mono ?_
      rintro e W1 ⟨rfl, K1⟩
      rw [unhide hc]
      have c1 := (CapBk.next w 2 o s b r rfl).cells K1
      replace K1 := hide (((Kp.refl [] w).alloc _).then K1)
      go_wp2
      exact bodyPost_ret (v := .tuple #[.int .i64 0, .int .i64 0, .bool false]) (by simp [results, Try.results26, go_sem]) rfl ⟨rfl, unhide K1⟩
    have x5 : decide (d < s + 4) = false := decide_eq_false d4
    have hQ : v / (2 : Int) ^ (d - s).toNat = v / ((2 ^ (d - s).toNat : Nat) : Int) := by rw [ipow]
    obtain ⟨q, hq⟩ : ∃ q : Int, v / ((2 ^ (d - s).toNat : Nat) : Int) = q := ⟨_, rfl⟩
    rw [hq] at hQ
    by_cases hb : q = b
    · have hy : stepP 2 o s b r v d := ⟨rfl, (chk_iff ..).1 HC, by omega, by omega, by omega, by rw [hq, hb]⟩
      rw [(step_yes hy).1, (step_yes hy).2.1, (step_yes hy).2.2]
      obtain ⟨t, ht⟩ : ∃ t : Int, v / ((2 ^ (d - s - 4).toNat : Nat) : Int) = t := ⟨_, rfl⟩
      have hT : v / (2 : Int) ^ (d - s - 4).toNat = t := by rw [ipow, ht]
      have ht0 : 0 ≤ t := by rw [← ht]; exact Int.ediv_nonneg (by omega) (Int.natCast_nonneg _)
      have ht1 : t ≤ v := by rw [← ht]; exact Int.ediv_le_self _ (by omega)
      have h15 : bits .and .i64 t 15 = t % 16 := low15 t ht0 (by omega)
      obtain ⟨u, hu⟩ : ∃ u, t % 16 = u := ⟨_, rfl⟩
      rw [ht, hu]
      rw [hu] at h15
      have y1 : (q != b) = false := by simp [hb]
      replace hP := hide hP
      replace hq := hide hq
      replace ht := hide ht
      replace hu := hide hu
      clear hy HC hb
      go_enter Try.func26, Try.ntmps26
      go_wp2_with fail
      refine (rcheck_calls 2 o s b r _).mono ?_
      rintro e W1 ⟨rfl, K1⟩
      rw [unhide hc]
      have c1 := (CapBk.next w 2 o s b r rfl).cells K1
      replace K1 := hide (((Kp.refl [] w).alloc _).then K1)
      go_wp2
      exact bodyPost_ret (v := .tuple #[.int .i64 u, .int .i64 (d - s - 4), .bool true]) (by simp [results, Try.results26, go_sem]) rfl ⟨rfl, unhide K1⟩
    · have hn : ¬ stepP 2 o s b r v d := fun H => by obtain ⟨_, _, ⟨_, _⟩, ⟨_, _⟩, _, _⟩ := H; exact hb (hq.symm.trans (by assumption))
      rw [(step_no hn).1, (step_no hn).2.1, (step_no hn).2.2]
      have y1 : (q != b) = true := by simp [hb]
      replace hP := hide hP
      replace hq := hide hq
      clear HC
      clear hn
      go_enter Try.func26, Try.ntmps26
      go_wp2_with fail
      refine (rcheck_calls 2 o s b r _).mono ?_
      rintro e W1 ⟨rfl, K1⟩
      rw [unhide hc]
      have c1 := (CapBk.next w 2 o s b r rfl).cells K1
      replace K1 := hide (((Kp.refl [] w).alloc _).then K1)
      go_wp2
      exact bodyPost_ret (v := .tuple #[.int .i64 0, .int .i64 0, .bool false]) (by simp [results, Try.results26, go_sem]) rfl ⟨rfl, unhide K1⟩
  · have hn : ¬ stepP k o s b r v d := fun H => hk H.1
    rw [(step_no hn).1, (step_no hn).2.1, (step_no hn).2.2]
    have hk' : (k != 2) = true := by simp [hk]
    clear hn hk
    go_enter Try.func26, Try.ntmps26
    go_wp2
    exact bodyPost_ret (v := .tuple #[.int .i64 0, .int .i64 0, .bool false]) (by simp [results, Try.results26, go_sem]) rfl ⟨rfl, (Kp.refl _ _).alloc _⟩
end Go.Proofs.Ytjjgjgncnifjmaa
