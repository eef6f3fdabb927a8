/- Package caps: Badge, and the document's own. -/
import Derived.Test.YtndbmhdkckmfcaaKCaps2
namespace Go.Proofs.Ytndbmhdkckmfcaa
open Go.RowKit
set_option linter.unusedVariables false
theorem box_two {w W1 : World} {T : TypeId} {a : Array Value} {vs : List Value} (K1 : Kp [] ((w.alloc (.cells a T)).alloc (.cells vs.toArray T)) W1) : Bk W1 (w.heap.size + 1) T vs ∧ Kp [] w W1 :=
  ⟨Bk.kept (Bk.next (w.alloc (.cells a T)) T vs (by simp)) K1 (by simp), (((Kp.refl [] w).alloc _).alloc _).then K1⟩
set_option maxHeartbeats 400000 in
theorem badge_calls (k o s b r n : Int) (w : World) (k' o' s' b' r' c : Int) (h : bdg k o s b r n = (k', o', s', b', r', c)) (h0 : 0 ≤ n) (h1 : n < 4294967296) :
    Calls Try.prog 10 #[capV k o s b r, .int .u32 n] w fun e w' => e = .returned (.tuple #[capV k' o' s' b' r', .int .i64 c]) ∧ Kp [] w w' := by
  by_cases hk : k = 4 ∨ k = 5
  · replace h := hide h
    have hk' := hide hk
    rcases hk with rfl | rfl <;>
    · go_enter Try.func10, Try.ntmps10
      go_wp2_with fail
      refine (mark_calls _ o s b r n _ k' o' s' b' r' c (by first | exact .inl rfl | exact .inr rfl) (unhide h) h0).mono ?_
      rintro e W1 ⟨rfl, K1⟩
      obtain ⟨B2, K2⟩ := box_two (vs := [.int .i64 0, .int .i64 0, .int .i64 0, .int .i64 0, .int .i64 0]) K1
      clear K1
      have e0 := B2.cell (i := 0) rfl
      have e1 := B2.cell (i := 1) rfl
      have e2 := B2.cell (i := 2) rfl
      have e3 := B2.cell (i := 3) rfl
      have e4 := B2.cell (i := 4) rfl
      have f0 := B2.frozen
      clear B2
      replace K2 := hide K2
      go_wp2
      exact bodyPost_ret (v := .tuple #[capV k' o' s' b' r', .int .i64 c]) (by simp [results, Try.results10, go_sem, *]) rfl ⟨rfl, five (unhide K2) (by simp) _ _ _ _ _⟩
  have k4 : (k == 4) = false := beq_eq_false_iff_ne.2 (by omega)
  have k5 : (k == 5) = false := beq_eq_false_iff_ne.2 (by omega)
  by_cases k2 : k = 2
  · subst k2
    clear hk
    replace h := hide h
    go_enter Try.func10, Try.ntmps10
    go_wp2_with fail
    refine (guard_calls 2 o s b r n _ k' o' s' b' r' c rfl (unhide h) h0 h1).mono ?_
    rintro e W1 ⟨rfl, K1⟩
    obtain ⟨B2, K2⟩ := box_two (vs := [.int .i64 0, .int .i64 0, .int .i64 0, .int .i64 0, .int .i64 0]) K1
    clear K1
    have e0 := B2.cell (i := 0) rfl
    have e1 := B2.cell (i := 1) rfl
    have e2 := B2.cell (i := 2) rfl
    have e3 := B2.cell (i := 3) rfl
    have e4 := B2.cell (i := 4) rfl
    have f0 := B2.frozen
    clear B2
    replace K2 := hide K2
    go_wp2
    exact bodyPost_ret (v := .tuple #[capV k' o' s' b' r', .int .i64 c]) (by simp [results, Try.results10, go_sem, *]) rfl ⟨rfl, five (unhide K2) (by simp) _ _ _ _ _⟩
  have k2' : (k == 2) = false := beq_eq_false_iff_ne.2 k2
  unfold bdg at h
  rw [if_neg hk, if_neg k2] at h
  simp only [Prod.mk.injEq] at h
  obtain ⟨rfl, rfl, rfl, rfl, rfl, rfl⟩ := h
  clear hk k2
  go_enter Try.func10, Try.ntmps10
  go_wp2
  exact bodyPost_ret (v := .tuple #[capV 0 0 0 0 0, .int .i64 5]) (by simp [results, Try.results10, go_sem]) rfl ⟨rfl, ((Kp.refl _ _).alloc _).alloc _⟩
theorem low8 (n : Int) (h0 : 0 ≤ n) (h1 : n < 4294967296) : bits .and .u32 n 255 = n % 256 := by
  obtain ⟨m, rfl⟩ := Int.eq_ofNat_of_zero_le h0
  rw [show (255 : Int) = ((255 : Nat) : Int) from rfl, u32_and_nat _ _ (by omega) (by omega), show (255 : Nat) = 2 ^ 8 - 1 from rfl, Nat.and_two_pow_sub_one_eq_mod]
  omega
set_option maxHeartbeats 400000 in
theorem rbadge_calls (k o s b r n : Int) (w : World) (k' o' s' b' r' c : Int) (h : bdg k o s b r n = (k', o', s', b', r', c)) (h0 : 0 ≤ n) (h1 : n < 4294967296) :
    Calls Try.prog 11 #[capV k o s b r, .int .u32 n] w fun e w' => e = .returned (.tuple #[capV k' o' s' b' r', .int .i64 c]) ∧ Kp [] w w' := by
  unfold bdg at h
  by_cases hk : k = 4 ∨ k = 5
  · rw [if_pos hk] at h
    by_cases hb : b ≠ 0
    · rw [if_pos (.inl hb)] at h
      simp only [Prod.mk.injEq] at h
      obtain ⟨rfl, rfl, rfl, rfl, rfl, rfl⟩ := h
      have hb' : (b != 0) = true := by simp [hb]
      clear hb
      rcases hk with rfl | rfl <;>
      · go_enter Try.func11, Try.ntmps11
        go_wp2
        exact bodyPost_ret (v := .tuple #[capV 0 0 0 0 0, .int .i64 12]) (by simp [results, Try.results11, go_sem]) rfl ⟨rfl, ((Kp.refl _ _).alloc _).alloc _⟩
    obtain rfl : b = 0 := by omega
    by_cases hn : n = 0
    · subst hn
      rw [if_pos (.inr rfl)] at h
      simp only [Prod.mk.injEq] at h
      obtain ⟨rfl, rfl, rfl, rfl, rfl, rfl⟩ := h
      rcases hk with rfl | rfl <;>
      · go_enter Try.func11, Try.ntmps11
        go_wp2
        exact bodyPost_ret (v := .tuple #[capV 0 0 0 0 0, .int .i64 12]) (by simp [results, Try.results11, go_sem]) rfl ⟨rfl, ((Kp.refl _ _).alloc _).alloc _⟩
    rw [if_neg (by omega)] at h
    have hn' : (n == 0) = false := beq_eq_false_iff_ne.2 hn
    by_cases hg : 2147483647 < n
    · rw [if_pos hg] at h
      simp only [Prod.mk.injEq] at h
      obtain ⟨rfl, rfl, rfl, rfl, rfl, rfl⟩ := h
      rcases hk with rfl | rfl <;>
      · go_enter Try.func11, Try.ntmps11
        go_wp2
        exact bodyPost_ret (v := .tuple #[capV 0 0 0 0 0, .int .i64 7]) (by simp [results, Try.results11, go_sem]) rfl ⟨rfl, ((Kp.refl _ _).alloc _).alloc _⟩
    · rw [if_neg hg] at h
      simp only [Prod.mk.injEq] at h
      obtain ⟨rfl, rfl, rfl, rfl, rfl, rfl⟩ := h
      have hg' : decide (2147483647 < n) = false := decide_eq_false hg
      clear hg hn
      rcases hk with rfl | rfl
      · go_enter Try.func11, Try.ntmps11
        go_wp2
        exact bodyPost_ret (v := .tuple #[capV 4 o s n r, .int .i64 0]) (by simp [results, Try.results11, go_sem]) rfl ⟨rfl, ((Kp.refl _ _).alloc _).alloc _⟩
      · go_enter Try.func11, Try.ntmps11
        go_wp2
        exact bodyPost_ret (v := .tuple #[capV 5 o s n r, .int .i64 0]) (by simp [results, Try.results11, go_sem]) rfl ⟨rfl, ((Kp.refl _ _).alloc _).alloc _⟩
  rw [if_neg hk] at h
  have k4 : (k == 4) = false := beq_eq_false_iff_ne.2 (by omega)
  have k5 : (k == 5) = false := beq_eq_false_iff_ne.2 (by omega)
  by_cases k2 : k = 2
  · subst k2
    rw [if_pos rfl] at h
    clear hk k4 k5
    have HF := hide (low8 n h0 h1)
    obtain ⟨g, hg⟩ : ∃ g, n % 256 = g := ⟨_, rfl⟩
    obtain ⟨d, hd⟩ : ∃ d, n / 256 = d := ⟨_, rfl⟩
    have hd0 : 0 ≤ d ∧ d < 16777216 := by omega
    have hg0 : 0 ≤ g ∧ g < 256 := by omega
    have HW := hide (show wrap64 g = g from by unfold wrap64; omega)
    rw [hg] at HF
    rw [hg, hd] at h
    replace hg := hide hg
    replace hd := hide hd
    obtain ⟨v, hv⟩ : ∃ v, chk 2 o g d r = v := ⟨_, rfl⟩
    rw [hv] at h
    replace hv := hide hv
    go_enter Try.func11, Try.ntmps11
    go_wp2_with fail
    rw [unhide hd, unhide HF, unhide HW]
    refine (rcheck_calls 2 o g d r _).mono ?_
    rintro e W1 ⟨rfl, K1⟩
    rw [unhide hv]
    have B1 : Bk W1 w.heap.size 23 [.int .i64 2, .int .i64 o, .int .i64 g, .int .i64 d, .int .i64 r] := Bk.kept ((Bk.new w 23 [.int .i64 2, .int .i64 o, .int .i64 g, .int .i64 d, .int .i64 r]).alloc _) K1 (by simp)
    obtain ⟨B2, K2⟩ := box_two (vs := [.int .i64 0, .int .i64 0, .int .i64 0, .int .i64 0, .int .i64 0]) K1
    clear K1
    have c0 := B1.cell (i := 0) rfl
    have c1 := B1.cell (i := 1) rfl
    have c2 := B1.cell (i := 2) rfl
    have c3 := B1.cell (i := 3) rfl
    have c4 := B1.cell (i := 4) rfl
    have e0 := B2.cell (i := 0) rfl
    have e1 := B2.cell (i := 1) rfl
    have e2 := B2.cell (i := 2) rfl
    have e3 := B2.cell (i := 3) rfl
    have e4 := B2.cell (i := 4) rfl
    have f0 := B2.frozen
    clear B1 B2
    replace K2 := hide K2
    cases v
    · simp only [Bool.false_eq_true, if_false, Prod.mk.injEq] at h
      obtain ⟨rfl, rfl, rfl, rfl, rfl, rfl⟩ := h
      go_wp2
      exact bodyPost_ret (v := .tuple #[capV 0 0 0 0 0, .int .i64 7]) (by simp [results, Try.results11, go_sem, *]) rfl ⟨rfl, five (unhide K2) (by simp) _ _ _ _ _⟩
    · simp only [if_true, Prod.mk.injEq] at h
      obtain ⟨rfl, rfl, rfl, rfl, rfl, rfl⟩ := h
      go_wp2
      exact bodyPost_ret (v := .tuple #[capV 2 o g d r, .int .i64 0]) (by simp [results, Try.results11, go_sem, *]) rfl ⟨rfl, five (unhide K2) (by simp) _ _ _ _ _⟩
  have k2' : (k == 2) = false := beq_eq_false_iff_ne.2 k2
  rw [if_neg k2] at h
  simp only [Prod.mk.injEq] at h
  obtain ⟨rfl, rfl, rfl, rfl, rfl, rfl⟩ := h
  clear hk k2
  go_enter Try.func11, Try.ntmps11
  go_wp2
  exact bodyPost_ret (v := .tuple #[capV 0 0 0 0 0, .int .i64 5]) (by simp [results, Try.results11, go_sem]) rfl ⟨rfl, ((Kp.refl _ _).alloc _).alloc _⟩
end Go.Proofs.Ytndbmhdkckmfcaa
