/- Package caps, the rest: fewer rights, a badge, one object, its units. -/
import Derived.Test.YtndbmhdkckmfcaaKCaps
namespace Go.Proofs.Ytndbmhdkckmfcaa
open Go.RowKit
set_option linter.unusedVariables false
/-- The bits that two numbers have, of the lowest three. -/
def lessR (r m : Int) : Int := (((r % 8).toNat &&& (m % 8).toNat : Nat) : Int)
theorem mod8_of (X r : Int) (h : X = r % 18446744073709551616) : X.toNat % 8 = (r % 8).toNat := by subst h; omega
theorem and_low (r : Int) (a : Nat) (ha : a < 8) : bits .and .i64 r (a : Int) = (((r % 8).toNat &&& a : Nat) : Int) := by
  show IntKind.i64.wrap ((BitVec.ofInt 64 r &&& BitVec.ofInt 64 (a : Int)).toNat : Int) = _
  have e1 : (BitVec.ofInt 64 (a : Int)).toNat = a := by rw [BitVec.ofInt_natCast, BitVec.toNat_ofNat]; exact Nat.mod_eq_of_lt (by omega)
  have e2 : (BitVec.ofInt 64 r).toNat % 8 = (r % 8).toNat := by rw [BitVec.toNat_ofInt]; exact mod8_of _ r rfl
  have e3 : a = 7 &&& a := by
    have : ∀ a : Fin 8, (a : Nat) = 7 &&& (a : Nat) := by decide
    exact this ⟨a, ha⟩
  have e4 : (BitVec.ofInt 64 r).toNat &&& a = (r % 8).toNat &&& a := by
    rw [e3, ← Nat.and_assoc, show (7 : Nat) = 2 ^ 3 - 1 from rfl, Nat.and_two_pow_sub_one_eq_mod, ← Nat.and_assoc, Nat.and_two_pow_sub_one_eq_mod, show (2 : Nat) ^ 3 = 8 from rfl, e2, Nat.mod_eq_of_lt (show (r % 8).toNat < 8 by omega)]
  have e5 : (r % 8).toNat &&& a < 8 := Nat.lt_of_le_of_lt Nat.and_le_right ha
  rw [BitVec.toNat_and, e1, e4]
  generalize (r % 8).toNat &&& a = x at e5
  unfold IntKind.wrap
  have hx : ((x : Int) % 2 ^ IntKind.i64.bits) = x := by
    show (x : Int) % 18446744073709551616 = x
    omega
  rw [hx]
  have : ¬ ((x : Int) ≥ 2 ^ (IntKind.i64.bits - 1)) := by
    show ¬ ((x : Int) ≥ 9223372036854775808)
    omega
  simp [this]
theorem and_7 (m : Int) : bits .and .i64 m 7 = (((m % 8).toNat : Nat) : Int) := by
  rw [show (7 : Int) = ((7 : Nat) : Int) from rfl, and_low m 7 (by omega), show (7 : Nat) = 2 ^ 3 - 1 from rfl, Nat.and_two_pow_sub_one_eq_mod, Nat.mod_eq_of_lt (show (m % 8).toNat < 2 ^ 3 by omega)]
theorem less_walk (r m : Int) : bits .and .i64 r (bits .and .i64 m 7) = lessR r m := by
  rw [and_7, and_low r _ (by omega)]; rfl
theorem and_lt8 (a b : Nat) (hb : b < 8) : a &&& b < 8 := Nat.lt_of_le_of_lt Nat.and_le_right hb
theorem lessR_bd (r m : Int) : 0 ≤ lessR r m ∧ lessR r m < 8 := by
  have := and_lt8 (r % 8).toNat (m % 8).toNat (by omega)
  unfold lessR; omega
/-- The document's own order of it. -/
theorem rless_walk (r m : Int) : bits .and .i64 (bits .and .i64 r m) 7 = lessR r m := by
  rw [and_7]
  unfold lessR
  congr 1
  show ((IntKind.i64.wrap ((BitVec.ofInt 64 r &&& BitVec.ofInt 64 m).toNat : Int)) % 8).toNat = _
  have e1 : (BitVec.ofInt 64 r).toNat % 8 = (r % 8).toNat := by rw [BitVec.toNat_ofInt]; exact mod8_of _ r rfl
  have e2 : (BitVec.ofInt 64 m).toNat % 8 = (m % 8).toNat := by rw [BitVec.toNat_ofInt]; exact mod8_of _ m rfl
  have e3 : ∀ x : Nat, (IntKind.i64.wrap (x : Int) % 8).toNat = x % 8 := by
    intro x
    unfold IntKind.wrap
    show ((if (true && decide (((x : Int) % 18446744073709551616) ≥ 9223372036854775808)) = true then (x : Int) % 18446744073709551616 - 18446744073709551616 else (x : Int) % 18446744073709551616) % 8).toNat = x % 8
    split <;> omega
  rw [e3, BitVec.toNat_and, ← e1, ← e2, show (8 : Nat) = 2 ^ 3 from rfl, Nat.and_mod_two_pow]
set_option maxHeartbeats 400000 in
theorem less_calls (k o s b r m : Int) (w : World) :
    Calls Try.prog 14 #[capV k o s b r, .int .i64 m] w fun e w' => e = .returned (capV k o s b (lessR r m)) ∧ Kp [] w w' := by
  have HL := hide (less_walk r m)
  go_enter Try.func14, Try.ntmps14
  go_wp2
  exact bodyPost_ret (v := capV k o s b (lessR r m)) (by simp [results, Try.results14, go_sem, unhide HL]) rfl ⟨rfl, ((Kp.refl _ _).alloc _).alloc _⟩
set_option maxHeartbeats 400000 in
theorem rless_calls (k o s b r m : Int) (w : World) :
    Calls Try.prog 15 #[capV k o s b r, .int .i64 m] w fun e w' => e = .returned (capV k o s b (lessR r m)) ∧ Kp [] w w' := by
  have HL := hide (rless_walk r m)
  go_enter Try.func15, Try.ntmps15
  go_wp2
  exact bodyPost_ret (v := capV k o s b (lessR r m)) (by simp [results, Try.results15, go_sem, unhide HL]) rfl ⟨rfl, ((Kp.refl _ _).alloc _).alloc _⟩
def namesP (k o s k' o' s' : Int) : Bool := decide (k = k' ∧ o = o' ∧ (k = 1 → s = s'))
set_option maxHeartbeats 400000 in
theorem names_calls (k o s b r k' o' s' b' r' : Int) (w : World) :
    Calls Try.prog 18 #[capV k o s b r, capV k' o' s' b' r'] w fun e w' => e = .returned (.bool (namesP k o s k' o' s')) ∧ Kp [] w w' := by
  obtain ⟨v1, h1⟩ : ∃ v, (k == k') = v := ⟨_, rfl⟩
  obtain ⟨v2, h2⟩ : ∃ v, (o == o') = v := ⟨_, rfl⟩
  obtain ⟨v3, h3⟩ : ∃ v, (k != 1) = v := ⟨_, rfl⟩
  have HE := hide (show (v1 && (v2 && (v3 || (s == s')))) = namesP k o s k' o' s' from by rw [← h1, ← h2, ← h3]; refine Bool.eq_iff_iff.2 ?_; simp [namesP, Classical.or_iff_not_imp_left])
  cases v1
  · clear h2 h3
    go_enter Try.func18, Try.ntmps18
    go_wp2
    go_ret
    exact ⟨ret_bool (unhide HE), ((Kp.refl _ _).alloc _).alloc _⟩
  cases v2
  · clear h3
    go_enter Try.func18, Try.ntmps18
    go_wp2
    go_ret
    exact ⟨ret_bool (unhide HE), ((Kp.refl _ _).alloc _).alloc _⟩
  cases v3 <;>
  · go_enter Try.func18, Try.ntmps18
    go_wp2
    go_ret
    exact ⟨ret_bool (unhide HE), ((Kp.refl _ _).alloc _).alloc _⟩
set_option maxHeartbeats 400000 in
theorem rnames_calls (k o s b r k' o' s' b' r' : Int) (w : World) :
    Calls Try.prog 19 #[capV k o s b r, capV k' o' s' b' r'] w fun e w' => e = .returned (.bool (namesP k o s k' o' s')) ∧ Kp [] w w' := by
  obtain ⟨v1, h1⟩ : ∃ v, (k == k') = v := ⟨_, rfl⟩
  obtain ⟨v2, h2⟩ : ∃ v, (o == o') = v := ⟨_, rfl⟩
  obtain ⟨v3, h3⟩ : ∃ v, (k != 1) = v := ⟨_, rfl⟩
  have HE := hide (show (v1 && (v2 && (v3 || (s == s')))) = namesP k o s k' o' s' from by rw [← h1, ← h2, ← h3]; refine Bool.eq_iff_iff.2 ?_; simp [namesP, Classical.or_iff_not_imp_left])
  cases v1
  · clear h2 h3
    go_enter Try.func19, Try.ntmps19
    go_wp2
    go_ret
    exact ⟨ret_bool (unhide HE), ((Kp.refl _ _).alloc _).alloc _⟩
  cases v2
  · clear h3
    go_enter Try.func19, Try.ntmps19
    go_wp2
    go_ret
    exact ⟨ret_bool (unhide HE), ((Kp.refl _ _).alloc _).alloc _⟩
  cases v3 <;>
  · go_enter Try.func19, Try.ntmps19
    go_wp2
    go_ret
    exact ⟨ret_bool (unhide HE), ((Kp.refl _ _).alloc _).alloc _⟩
set_option maxHeartbeats 400000 in
theorem range_calls (k o s b r : Int) (w : World) (x y : Int) (hx : (if k = 1 then o else 0) = x) (hy : (if k = 1 then s else 0) = y) :
    Calls Try.prog 16 #[capV k o s b r] w fun e w' => e = .returned (.agg #[.int .i64 x, .int .i64 y]) ∧ Kp [] w w' := by
  by_cases k1 : k = 1
  · subst k1
    rw [if_pos rfl] at hx hy
    subst hx hy
    go_enter Try.func16, Try.ntmps16
    go_wp2
    exact bodyPost_ret (v := .agg #[.int .i64 o, .int .i64 s]) (by simp [results, Try.results16, go_sem]) rfl ⟨rfl, ((Kp.refl _ _).alloc _).alloc _⟩
  · rw [if_neg k1] at hx hy
    subst hx hy
    have k1' : (k != 1) = true := by simp [k1]
    clear k1
    go_enter Try.func16, Try.ntmps16
    go_wp2
    exact bodyPost_ret (v := .agg #[.int .i64 0, .int .i64 0]) (by simp [results, Try.results16, go_sem]) rfl ⟨rfl, ((Kp.refl _ _).alloc _).alloc _⟩
set_option maxHeartbeats 400000 in
theorem rrange_calls (k o s b r : Int) (w : World) (x y : Int) (hx : (if k = 1 then o else 0) = x) (hy : (if k = 1 then s else 0) = y) :
    Calls Try.prog 17 #[capV k o s b r] w fun e w' => e = .returned (.agg #[.int .i64 x, .int .i64 y]) ∧ Kp [] w w' := by
  by_cases k1 : k = 1
  · subst k1
    rw [if_pos rfl] at hx hy
    subst hx hy
    go_enter Try.func17, Try.ntmps17
    go_wp2
    exact bodyPost_ret (v := .agg #[.int .i64 o, .int .i64 s]) (by simp [results, Try.results17, go_sem]) rfl ⟨rfl, ((Kp.refl _ _).alloc _).alloc _⟩
  · rw [if_neg k1] at hx hy
    subst hx hy
    have k1' : (k != 1) = true := by simp [k1]
    clear k1
    go_enter Try.func17, Try.ntmps17
    go_wp2
    exact bodyPost_ret (v := .agg #[.int .i64 0, .int .i64 0]) (by simp [results, Try.results17, go_sem]) rfl ⟨rfl, ((Kp.refl _ _).alloc _).alloc _⟩
/-- With a badge, or a guard: the capability's numbers, and the code. -/
def bdg (k o s b r n : Int) : Int × Int × Int × Int × Int × Int :=
  if k = 4 ∨ k = 5 then (if b ≠ 0 ∨ n = 0 then (0, 0, 0, 0, 0, 12) else if 2147483647 < n then (0, 0, 0, 0, 0, 7) else (k, o, s, n, r, 0))
  else if k = 2 then (if chk 2 o (n % 256) (n / 256) r = true then (2, o, n % 256, n / 256, r, 0) else (0, 0, 0, 0, 0, 7))
  else (0, 0, 0, 0, 0, 5)
set_option maxHeartbeats 400000 in
theorem mark_calls (k o s b r n : Int) (w : World) (k' o' s' b' r' c : Int) (hk : k = 4 ∨ k = 5) (h : bdg k o s b r n = (k', o', s', b', r', c)) (h0 : 0 ≤ n) :
    Calls Try.prog 22 #[capV k o s b r, .int .u32 n] w fun e w' => e = .returned (.tuple #[capV k' o' s' b' r', .int .i64 c]) ∧ Kp [] w w' := by
  unfold bdg at h
  rw [if_pos hk] at h
  clear hk
  by_cases hb : b ≠ 0
  · rw [if_pos (.inl hb)] at h
    simp only [Prod.mk.injEq] at h
    obtain ⟨rfl, rfl, rfl, rfl, rfl, rfl⟩ := h
    have hb' : (b != 0) = true := by simp [hb]
    clear hb
    go_enter Try.func22, Try.ntmps22
    go_wp2
    exact bodyPost_ret (v := .tuple #[capV 0 0 0 0 0, .int .i64 12]) (by simp [results, Try.results22, go_sem]) rfl ⟨rfl, ((Kp.refl _ _).alloc _).alloc _⟩
  obtain rfl : b = 0 := by omega
  by_cases hn : n = 0
  · subst hn
    rw [if_pos (.inr rfl)] at h
    simp only [Prod.mk.injEq] at h
    obtain ⟨rfl, rfl, rfl, rfl, rfl, rfl⟩ := h
    go_enter Try.func22, Try.ntmps22
    go_wp2
    exact bodyPost_ret (v := .tuple #[capV 0 0 0 0 0, .int .i64 12]) (by simp [results, Try.results22, go_sem]) rfl ⟨rfl, ((Kp.refl _ _).alloc _).alloc _⟩
  rw [if_neg (by omega)] at h
  have hn' : (n == 0) = false := beq_eq_false_iff_ne.2 hn
  by_cases hg : 2147483647 < n
  · rw [if_pos hg] at h
    simp only [Prod.mk.injEq] at h
    obtain ⟨rfl, rfl, rfl, rfl, rfl, rfl⟩ := h
    go_enter Try.func22, Try.ntmps22
    go_wp2
    exact bodyPost_ret (v := .tuple #[capV 0 0 0 0 0, .int .i64 7]) (by simp [results, Try.results22, go_sem]) rfl ⟨rfl, ((Kp.refl _ _).alloc _).alloc _⟩
  · rw [if_neg hg] at h
    simp only [Prod.mk.injEq] at h
    obtain ⟨rfl, rfl, rfl, rfl, rfl, rfl⟩ := h
    have hg' : decide (2147483647 < n) = false := decide_eq_false hg
    go_enter Try.func22, Try.ntmps22
    go_wp2
    exact bodyPost_ret (v := .tuple #[capV k o s n r, .int .i64 0]) (by simp [results, Try.results22, go_sem]) rfl ⟨rfl, ((Kp.refl _ _).alloc _).alloc _⟩
theorem field8 (n : Int) (h0 : 0 ≤ n) : ((fldN n.toNat (0 : Int).toNat (widthOf 0 8).toNat : Nat) : Int) = n % 256 := by
  rw [show (widthOf 0 8).toNat = 8 from rfl, show (0 : Int).toNat = 0 from rfl]
  unfold fldN
  simp
  omega
theorem five {S : List Nat} {w w' : World} (h : Kp S w w') {p : Nat} (hp : w.heap.size ≤ p) (a b c d e : Value) :
    Kp S w (((((w'.setCell ⟨p, 0, none⟩ a).setCell ⟨p, 1, none⟩ b).setCell ⟨p, 2, none⟩ c).setCell ⟨p, 3, none⟩ d).setCell ⟨p, 4, none⟩ e) :=
  ((((h.setCell (.inr hp) _).setCell (.inr hp) _).setCell (.inr hp) _).setCell (.inr hp) _).setCell (.inr hp) _
theorem Bk.next (w : World) (T : TypeId) (vs : List Value) {p : Nat} (hp : w.heap.size = p) : Bk (w.alloc (.cells vs.toArray T)) p T vs := by subst hp; exact Bk.new w T vs
theorem Bk.setOther {w : World} {g : Nat} {T : TypeId} {vs : List Value} (h : Bk w g T vs) {p : Addr} (hp : p.block ≠ g) (v : Value) : Bk (w.setCell p v) g T vs := by
  unfold Bk at *
  rw [Below.heap_setCell _ _ _ _ (fun e => hp e.symm)]
  exact h
set_option maxHeartbeats 400000 in
theorem guard_calls (k o s b r n : Int) (w : World) (k' o' s' b' r' c : Int) (hk : k = 2) (h : bdg k o s b r n = (k', o', s', b', r', c)) (h0 : 0 ≤ n) (h1 : n < 4294967296) :
    Calls Try.prog 23 #[capV k o s b r, .int .u32 n] w fun e w' => e = .returned (.tuple #[capV k' o' s' b' r', .int .i64 c]) ∧ Kp [] w w' := by
  subst hk
  unfold bdg at h
  rw [if_neg (by decide), if_pos rfl] at h
  have HF := hide (field8 n h0)
  obtain ⟨g, hg⟩ : ∃ g, n % 256 = g := ⟨_, rfl⟩
  obtain ⟨d, hd⟩ : ∃ d, n / 256 = d := ⟨_, rfl⟩
  have hd0 : 0 ≤ d ∧ d < 16777216 := by omega
  have hg0 : 0 ≤ g ∧ g < 256 := by omega
  rw [hg] at HF
  rw [hg, hd] at h
  replace hg := hide hg
  replace hd := hide hd
  obtain ⟨v, hv⟩ : ∃ v, chk 2 o g d r = v := ⟨_, rfl⟩
  rw [hv] at h
  replace hv := hide hv
  go_enter Try.func23, Try.ntmps23
  go_wp2_with fail
  refine (field_calls n 0 8 _ h0 h1).mono ?_
  rintro e w' ⟨rfl, kk, rfl⟩
  rw [unhide HF]
  go_wp2_with fail
  rw [unhide hd]
  refine (check_calls 2 o g d r _).mono ?_
  rintro e W1 ⟨rfl, K1⟩
  rw [unhide hv]
  have B1 : Bk W1 w.heap.size 23 [.int .i64 2, .int .i64 o, .int .i64 g, .int .i64 d, .int .i64 r] :=
    Bk.kept (((((Bk.new w 23 [.int .i64 2, .int .i64 o, .int .i64 s, .int .i64 b, .int .i64 r]).alloc _).drewN kk).set 2 (.int .i64 g)).set 3 (.int .i64 d)) K1 (by simp)
  have B2 : Bk W1 (w.heap.size + 1) 23 [.int .i64 0, .int .i64 0, .int .i64 0, .int .i64 0, .int .i64 0] :=
    Bk.kept ((((Bk.next (w.alloc (.cells #[.int .i64 2, .int .i64 o, .int .i64 s, .int .i64 b, .int .i64 r] 23)) 23 [.int .i64 0, .int .i64 0, .int .i64 0, .int .i64 0, .int .i64 0] (by simp)).drewN kk).setOther (by simp) _).setOther (by simp) _) K1 (by simp)
  have K2 : Kp [] w W1 := ((((((Kp.refl [] w).alloc _).alloc _).drewN kk).setCell (.inr (Nat.le_refl _)) _).setCell (.inr (Nat.le_refl _)) _).then K1
  clear K1
  have c0 := B1.cell (i := 0) rfl
  have c1 := B1.cell (i := 1) rfl
  have c2 := B1.cell (i := 2) rfl
  have c3 := B1.cell (i := 3) rfl
  have c4 := B1.cell (i := 4) rfl
  have e0 := B2.cell (i := 0) rfl
  have e1 := B2.cell (i := 1) rfl
  have e2 := B2.cell (i := 2) rfl
  have e3 := B2.cell (i := 3) rfl
  have e4 := B2.cell (i := 4) rfl
  have f0 := B2.frozen
  clear B1 B2
  replace K2 := hide K2
  cases v
  · simp only [Bool.false_eq_true, if_false, Prod.mk.injEq] at h
    obtain ⟨rfl, rfl, rfl, rfl, rfl, rfl⟩ := h
    go_wp2
    exact bodyPost_ret (v := .tuple #[capV 0 0 0 0 0, .int .i64 7]) (by simp [results, Try.results23, go_sem, *]) rfl ⟨rfl, five (unhide K2) (by simp) _ _ _ _ _⟩
  · simp only [if_true, Prod.mk.injEq] at h
    obtain ⟨rfl, rfl, rfl, rfl, rfl, rfl⟩ := h
    go_wp2
    exact bodyPost_ret (v := .tuple #[capV 2 o g d r, .int .i64 0]) (by simp [results, Try.results23, go_sem, *]) rfl ⟨rfl, five (unhide K2) (by simp) _ _ _ _ _⟩
end Go.Proofs.Ytndbmhdkckmfcaa
