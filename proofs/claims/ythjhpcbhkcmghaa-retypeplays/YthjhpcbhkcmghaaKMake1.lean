/- The program's Make: whether something may be made, of how many units. -/
import Derived.Test.YthjhpcbhkcmghaaKMakeM
import Derived.Test.YthjhpcbhkcmghaaKFree2
import Derived.Test.YthjhpcbhkcmghaaKDup0
import Derived.Deep.RegionHeld3
namespace Go.Proofs.Ythjhpcbhkcmghaa
open Go.RowKit
set_option linter.unusedVariables false
set_option linter.unusedSimpArgs false
set_option maxHeartbeats 400000 in
theorem tcanbe_calls (n s : Int) (w : World) :
    Calls Try.prog 52 #[.agg #[.int .i64 n, .int .i64 s]] w fun e w' => e = .returned (.bool (placeOk n s)) ∧ Kp [] w w' := by
  obtain ⟨v1, h1⟩ : ∃ v, decide (1 ≤ n) = v := ⟨_, rfl⟩
  obtain ⟨v2, h2⟩ : ∃ v, decide (n ≤ 64) = v := ⟨_, rfl⟩
  obtain ⟨v3, h3⟩ : ∃ v, decide (0 ≤ s) = v := ⟨_, rfl⟩
  have HE := hide (show (v1 && (v2 && (v3 && decide (s < 16)))) = placeOk n s from by rw [← h1, ← h2, ← h3]; refine Bool.eq_iff_iff.2 ?_; rw [placeOk_iff]; simp [placeP, and_assoc])
  cases v1
  · clear h2 h3
    go_enter Try.func52, Try.ntmps52
    go_wp2
    go_ret
    exact ⟨ret_bool (unhide HE), (Kp.refl _ _).alloc _⟩
  cases v2
  · clear h3
    go_enter Try.func52, Try.ntmps52
    go_wp2
    go_ret
    exact ⟨ret_bool (unhide HE), (Kp.refl _ _).alloc _⟩
  cases v3 <;>
  · go_enter Try.func52, Try.ntmps52
    go_wp2
    go_ret
    exact ⟨ret_bool (unhide HE), (Kp.refl _ _).alloc _⟩
theorem tcanbe_at (n s : Int) (v : Bool) (w : World) (h : placeOk n s = v) :
    Calls Try.prog 52 #[.agg #[.int .i64 n, .int .i64 s]] w fun e w' => e = .returned (.bool v) ∧ Kp [] w w' := by subst h; exact tcanbe_calls n s w
def rd9C (L : List Sl) (n s n' s' : Int) : Int := match lkS L n s with | none => 4 | some y => if y.k ≠ 1 then 5 else bothC L n s n' s'
def rd9V (L : List Sl) (n s n' s' : Int) : Value := if rd9C L n s n' s' = 0 then capOf (lkS L n s) else capOf none
set_option maxRecDepth 4000 in
set_option maxHeartbeats 2000000 in
theorem tready_calls {w0 w : World} {x : Nat} {L : List Sl} (h : TabIn w0 x L w) {n s n' s' : Int} (hi : PIn (n, s)) (hi' : PIn (n', s')) :
    Calls Try.prog 39 #[.pointer (some ⟨x, 0, none⟩), .agg #[.int .i64 n, .int .i64 s], .agg #[.int .i64 n', .int .i64 s']] w fun e w' => e = .returned (.tuple #[rd9V L n s n' s', .int .i64 (rd9C L n s n' s')]) ∧ Kp [] w w' := by
  obtain ⟨R, hR⟩ : ∃ R, Value.tuple #[rd9V L n s n' s', .int .i64 (rd9C L n s n' s')] = R := ⟨_, rfl⟩
  rw [hR]
  unfold rd9V rd9C bothC at hR
  have R0 := hide (db_start w n s n' s')
  obtain ⟨t, et⟩ : ∃ t, w.heap.size = t := ⟨_, rfl⟩
  rw [et] at R0
  have hsz : Hid (w.heap.size ≤ t) := by unfold Hid; omega
  have H := hide h
  have hN := tget_lk (h.grew (unhide R0).kp) hi
  clear h
  rcases hN with ⟨hn, hc⟩ | ⟨y, hy, hc⟩
  · rw [hn] at hR
    simp only [capOf] at hR
    rw [if_neg (by decide)] at hR
    subst hR
    replace hn := hide hn
    replace hc := hide hc
    go_enter Try.func39, Try.ntmps39
    go_wp2_with fail
    refine (unhide hc).mono ?_
    rintro e W1 ⟨rfl, K1⟩
    have R1 := hide ((unhide R0).grew (K1.alloc (.cells #[.int .i64 0, .int .i64 0, .int .i64 0, .int .i64 0, .int .i64 0] 38)))
    obtain ⟨f1, ⟨u0, u1, u2, u3, u4⟩, v0, v1⟩ := (unhide R1).facts
    clear et hc R0 K1
    go_wp2
    refine bodyPost_ret (v := .tuple #[.agg #[.int .i64 0, .int .i64 0, .int .i64 0, .int .i64 0, .int .i64 0], .int .i64 4]) (by simp [results, Try.results39, go_sem, *]) rfl ⟨rfl, ?_⟩
    exact kp_put5 (unhide R1).kp (.inr (by have := unhide hsz; omega)) _ _ _ _ _
  · rw [hy] at hR
    obtain ⟨yn, ys, yu, yv, yk, yo, yz, yb, yr⟩ := y
    simp only [capOf] at hR
    simp only at hc
    replace hy := hide hy
    replace hc := hide hc
    by_cases hk : yk = 1
    · subst hk
      simp only [ne_eq, not_true_eq_false, if_false] at hR
      replace hR := hide hR
      cases hp : placeOk n' s'
      · have hR2 := unhide hR
        simp only [hp, if_true, show ¬ ((7:Int) = 0) from by decide, if_false] at hR2
        subst hR2
        replace hp := hide hp
        clear hR
        go_enter Try.func39, Try.ntmps39
        go_wp2_with fail
        refine (unhide hc).mono ?_
        rintro e W1 ⟨rfl, K1⟩
        have R1 := hide ((unhide R0).grew (K1.alloc (.cells #[.int .i64 1, .int .i64 yo, .int .i64 yz, .int .i64 yb, .int .i64 yr] 38)))
        have C1 := hide (Bk.new W1 38 [.int .i64 1, .int .i64 yo, .int .i64 yz, .int .i64 yb, .int .i64 yr])
        obtain ⟨f1, ⟨u0, u1, u2, u3, u4⟩, v0, v1⟩ := (unhide R1).facts
        clear et hc R0 K1
        go_wp2_with fail
        refine (tcanbe_at n' s' false _ (unhide hp)).mono ?_
        rintro e W2 ⟨rfl, K2⟩
        have R2 := hide ((unhide R1).grew K2)
        have C2 := (unhide C1).kept K2 (by simp)
        have k0 := C2.cell (i := 0) rfl
        have k1 := C2.cell (i := 1) rfl
        have k2 := C2.cell (i := 2) rfl
        have k3 := C2.cell (i := 3) rfl
        have k4 := C2.cell (i := 4) rfl
        clear f1 u0 u1 u2 u3 u4 v0 v1
        obtain ⟨f1, ⟨u0, u1, u2, u3, u4⟩, v0, v1⟩ := (unhide R2).facts
        clear R1 C1 C2 K2
        go_wp2
        refine bodyPost_ret (v := .tuple #[.agg #[.int .i64 0, .int .i64 0, .int .i64 0, .int .i64 0, .int .i64 0], .int .i64 7]) (by simp [results, Try.results39, go_sem, *]) rfl ⟨rfl, ?_⟩
        exact kp_put5 (unhide R2).kp (.inr (by have := unhide hsz; omega)) _ _ _ _ _
      · have hR2 := unhide hR
        simp only [hp, show ¬ (true = false) from by decide, if_false] at hR2
        replace hR2 := hide hR2
        replace hp := hide hp
        clear hR
        go_enter Try.func39, Try.ntmps39
        go_wp2_with fail
        refine (unhide hc).mono ?_
        rintro e W1 ⟨rfl, K1⟩
        have R1 := hide ((unhide R0).grew (K1.alloc (.cells #[.int .i64 1, .int .i64 yo, .int .i64 yz, .int .i64 yb, .int .i64 yr] 38)))
        have C1 := hide (Bk.new W1 38 [.int .i64 1, .int .i64 yo, .int .i64 yz, .int .i64 yb, .int .i64 yr])
        obtain ⟨f1, ⟨u0, u1, u2, u3, u4⟩, v0, v1⟩ := (unhide R1).facts
        clear et hc R0 K1
        go_wp2_with fail
        refine (tcanbe_at n' s' true _ (unhide hp)).mono ?_
        rintro e W2 ⟨rfl, K2⟩
        have R2 := hide ((unhide R1).grew K2)
        have C2 := hide ((unhide C1).kept K2 (by simp))
        clear f1 u0 u1 u2 u3 u4 v0 v1
        obtain ⟨f1, ⟨u0, u1, u2, u3, u4⟩, v0, v1⟩ := (unhide R2).facts
        clear R1 C1 K2
        rcases tget_lk ((unhide H).grew (unhide R2).kp) hi' with ⟨hn2, hc2⟩ | ⟨y2, hy2, hc2⟩
        · have hR3 := unhide hR2
          simp only [hn2, Option.isSome_none, show ¬ (false = true) from by decide, if_false, if_true] at hR3
          subst hR3
          clear hR2
          replace hc2 := hide hc2
          replace hn2 := hide hn2
          go_wp2_with fail
          refine (unhide hc2).mono ?_
          rintro e W3 ⟨rfl, K3⟩
          replace K3 := K3.alloc (.cells #[.int .i64 0, .int .i64 0, .int .i64 0, .int .i64 0, .int .i64 0] 38)
          have R3 := hide ((unhide R2).grew K3)
          have C3 := (unhide C2).kept K3 (by simp)
          have k0 := C3.cell (i := 0) rfl
          have k1 := C3.cell (i := 1) rfl
          have k2 := C3.cell (i := 2) rfl
          have k3 := C3.cell (i := 3) rfl
          have k4 := C3.cell (i := 4) rfl
          clear f1 u0 u1 u2 u3 u4 v0 v1
          obtain ⟨f1, ⟨u0, u1, u2, u3, u4⟩, v0, v1⟩ := (unhide R3).facts
          clear R2 C2 C3 K3 hc2
          go_wp2
          refine bodyPost_ret (v := .tuple #[.agg #[.int .i64 1, .int .i64 yo, .int .i64 yz, .int .i64 yb, .int .i64 yr], .int .i64 0]) (by simp [results, Try.results39, go_sem, *]) rfl ⟨rfl, ?_⟩
          exact kp_put5 (unhide R3).kp (.inr (by have := unhide hsz; omega)) _ _ _ _ _
        · have hR3 := unhide hR2
          simp only [hy2, Option.isSome_some, if_true, show ¬ ((3:Int) = 0) from by decide, if_false] at hR3
          subst hR3
          clear hR2
          obtain ⟨qn, qs, qu, qv, qk, qo, qz, qb, qr⟩ := y2
          simp only at hc2
          replace hc2 := hide hc2
          replace hy2 := hide hy2
          go_wp2_with fail
          refine (unhide hc2).mono ?_
          rintro e W3 ⟨rfl, K3⟩
          replace K3 := K3.alloc (.cells #[.int .i64 qk, .int .i64 qo, .int .i64 qz, .int .i64 qb, .int .i64 qr] 38)
          have R3 := hide ((unhide R2).grew K3)
          have C3 := (unhide C2).kept K3 (by simp)
          have k0 := C3.cell (i := 0) rfl
          have k1 := C3.cell (i := 1) rfl
          have k2 := C3.cell (i := 2) rfl
          have k3 := C3.cell (i := 3) rfl
          have k4 := C3.cell (i := 4) rfl
          clear f1 u0 u1 u2 u3 u4 v0 v1
          obtain ⟨f1, ⟨u0, u1, u2, u3, u4⟩, v0, v1⟩ := (unhide R3).facts
          clear R2 C2 C3 K3 hc2
          go_wp2
          refine bodyPost_ret (v := .tuple #[.agg #[.int .i64 0, .int .i64 0, .int .i64 0, .int .i64 0, .int .i64 0], .int .i64 3]) (by simp [results, Try.results39, go_sem, *]) rfl ⟨rfl, ?_⟩
          exact kp_put5 (unhide R3).kp (.inr (by have := unhide hsz; omega)) _ _ _ _ _
    · simp only [ne_eq, hk, not_false_eq_true, if_true, show ¬ ((5:Int) = 0) from by decide, if_false] at hR
      subst hR
      have hk' : (yk != 1) = true := by simp [hk]
      clear hk
      go_enter Try.func39, Try.ntmps39
      go_wp2_with fail
      refine (unhide hc).mono ?_
      rintro e W1 ⟨rfl, K1⟩
      have R1 := hide ((unhide R0).grew (K1.alloc (.cells #[.int .i64 yk, .int .i64 yo, .int .i64 yz, .int .i64 yb, .int .i64 yr] 38)))
      obtain ⟨f1, ⟨u0, u1, u2, u3, u4⟩, v0, v1⟩ := (unhide R1).facts
      clear et hc R0 K1
      go_wp2
      refine bodyPost_ret (v := .tuple #[.agg #[.int .i64 0, .int .i64 0, .int .i64 0, .int .i64 0, .int .i64 0], .int .i64 5]) (by simp [results, Try.results39, go_sem, *]) rfl ⟨rfl, ?_⟩
      exact kp_put5 (unhide R1).kp (.inr (by have := unhide hsz; omega)) _ _ _ _ _
theorem tready_to {w wr : World} {t : Nat} {L : List Sl} (h : TabIn w t L wr) {n s n' s' : Int} (hi : PIn (n, s)) (hi' : PIn (n', s')) {v : Value} {c : Int} (hv : rd9V L n s n' s' = v) (hc : rd9C L n s n' s' = c) :
    Calls Try.prog 39 #[.pointer (some ⟨t, 0, none⟩), .agg #[.int .i64 n, .int .i64 s], .agg #[.int .i64 n', .int .i64 s']] wr fun e w' => e = .returned (.tuple #[v, .int .i64 c]) ∧ Kp [] wr w' := by subst hv hc; exact tready_calls h hi hi'
/-- How many units are handed out: none where the code is not fine. -/
def unV (k z : Int) : Int := if unC k z = 0 then unN k z else 0
set_option maxRecDepth 4000 in
set_option maxHeartbeats 1000000 in
theorem unitsof_to (k z : Int) (w : World) {u c : Int} (hu : unV k z = u) (hc : unC k z = c) :
    Calls Try.prog 40 #[.int .i64 k, .int .i64 z] w fun e w' => e = .returned (.tuple #[.int .i64 u, .int .i64 c]) ∧ Kp [] w w' := by
  unfold unV at hu
  rw [hc] at hu
  by_cases k1 : k = 1
  · subst k1
    have hb : kindB 1 = false := by decide
    by_cases z1 : z < 1
    · rw [un_size hb (by unfold sizeB; simp [z1])] at hc
      subst hc
      rw [if_neg (by decide)] at hu
      subst hu
      clear hb
      go_enter Try.func40, Try.ntmps40
      go_wp2
      exact bodyPost_ret (v := .tuple #[.int .i64 0, .int .i64 7]) (by simp [results, Try.results40, go_sem, *]) rfl ⟨rfl, Kp.refl _ _⟩
    · have z1' : decide (z < 1) = false := decide_eq_false z1
      by_cases z2 : 64 < z
      · rw [un_size hb (by unfold sizeB; simp [z2])] at hc
        subst hc
        rw [if_neg (by decide)] at hu
        subst hu
        clear hb z1
        go_enter Try.func40, Try.ntmps40
        go_wp2
        exact bodyPost_ret (v := .tuple #[.int .i64 0, .int .i64 7]) (by simp [results, Try.results40, go_sem, *]) rfl ⟨rfl, Kp.refl _ _⟩
      · have z2' : decide (64 < z) = false := decide_eq_false z2
        rw [un_fine hb (by unfold sizeB; rw [z1', z2']; rfl)] at hc
        subst hc
        rw [if_pos rfl, show unN 1 z = z from if_pos rfl] at hu
        subst hu
        clear hb z1 z2
        go_enter Try.func40, Try.ntmps40
        go_wp2
        exact bodyPost_ret (v := .tuple #[.int .i64 z, .int .i64 0]) (by simp [results, Try.results40, go_sem, *]) rfl ⟨rfl, Kp.refl _ _⟩
  · have b1 : (k == 1) = false := by simp [k1]
    by_cases hk : k = 2 ∨ k = 3 ∨ k = 4 ∨ k = 5 ∨ k = 7
    · have hb : kindB k = false := by rcases hk with rfl | rfl | rfl | rfl | rfl <;> decide
      by_cases z0 : z = 0
      · subst z0
        rw [un_fine hb (by unfold sizeB; rw [b1]; simp)] at hc
        subst hc
        rw [if_pos rfl, show unN k 0 = 1 from if_neg k1] at hu
        subst hu
        clear hb k1
        rcases hk with rfl | rfl | rfl | rfl | rfl <;>
        · go_enter Try.func40, Try.ntmps40
          go_wp2
          exact bodyPost_ret (v := .tuple #[.int .i64 1, .int .i64 0]) (by simp [results, Try.results40, go_sem, *]) rfl ⟨rfl, Kp.refl _ _⟩
      · rw [un_size hb (by unfold sizeB; simp [k1, z0])] at hc
        subst hc
        rw [if_neg (by decide)] at hu
        subst hu
        have z0' : (z != 0) = true := by simp [z0]
        clear hb k1 z0
        rcases hk with rfl | rfl | rfl | rfl | rfl <;>
        · go_enter Try.func40, Try.ntmps40
          go_wp2
          exact bodyPost_ret (v := .tuple #[.int .i64 0, .int .i64 7]) (by simp [results, Try.results40, go_sem, *]) rfl ⟨rfl, Kp.refl _ _⟩
    · have b2 : (k == 2) = false := by simp; omega
      have b3 : (k == 3) = false := by simp; omega
      have b4 : (k == 4) = false := by simp; omega
      have b5 : (k == 5) = false := by simp; omega
      have b7 : (k == 7) = false := by simp; omega
      rw [un_bad (by unfold kindB; simp; omega)] at hc
      subst hc
      rw [if_neg (by decide)] at hu
      subst hu
      clear hk k1
      go_enter Try.func40, Try.ntmps40
      go_wp2
      exact bodyPost_ret (v := .tuple #[.int .i64 0, .int .i64 5]) (by simp [results, Try.results40, go_sem, *]) rfl ⟨rfl, Kp.refl _ _⟩
end Go.Proofs.Ythjhpcbhkcmghaa
