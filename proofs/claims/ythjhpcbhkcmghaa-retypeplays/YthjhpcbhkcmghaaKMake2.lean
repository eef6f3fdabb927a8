/- The program's Make. -/
import Derived.Test.YthjhpcbhkcmghaaKMakeM
import Derived.Test.YthjhpcbhkcmghaaKFree2
import Derived.Test.YthjhpcbhkcmghaaKDup0
import Derived.Deep.RegionHeld3
import Derived.Deep.DeepCutAuto
namespace Go.Proofs.Ythjhpcbhkcmghaa
open Go.RowKit
set_option linter.unusedVariables false
set_option linter.unusedSimpArgs false
set_option maxHeartbeats 400000 in
theorem tcanbe_calls (n s : Int) (w : World) :
    Calls Try.prog 52 #[.agg #[.int .i64 n, .int .i64 s]] w fun e w' => e = .returned (.bool (placeOk n s)) ∧ Kp [] w w' := by
  obtain ⟨v1, h1⟩ : ∃ v, decide (1 ≤ n) = v := ⟨_, rfl⟩
  obtain ⟨v2, h2⟩ : ∃ v, decide (n ≤ 64) = v := ⟨_, rfl⟩
  obtain ⟨v3, h3⟩ : ∃ v, decide (0 ≤ s) = v := ⟨_, rfl⟩
  have HE := hide (show (v1 && (v2 && (v3 && decide (s < 16)))) = placeOk n s from by rw [← h1, ← h2, ← h3]; refine Bool.eq_iff_iff.2 ?_; rw [placeOk_iff]; simp [placeP, and_assoc])
  cases v1
  · clear h2 h3
    go_enter Try.func52, Try.ntmps52
    go_wp2
    go_ret
    exact ⟨ret_bool (unhide HE), (Kp.refl _ _).alloc _⟩
  cases v2
  · clear h3
    go_enter Try.func52, Try.ntmps52
    go_wp2
    go_ret
    exact ⟨ret_bool (unhide HE), (Kp.refl _ _).alloc _⟩
  cases v3 <;>
  · go_enter Try.func52, Try.ntmps52
    go_wp2
    go_ret
    exact ⟨ret_bool (unhide HE), (Kp.refl _ _).alloc _⟩
theorem tcanbe_at (n s : Int) (v : Bool) (w : World) (h : placeOk n s = v) :
    Calls Try.prog 52 #[.agg #[.int .i64 n, .int .i64 s]] w fun e w' => e = .returned (.bool v) ∧ Kp [] w w' := by subst h; exact tcanbe_calls n s w
def rd9C (L : List Sl) (n s n' s' : Int) : Int := match lkS L n s with | none => 4 | some y => if y.k ≠ 1 then 5 else bothC L n s n' s'
def rd9V (L : List Sl) (n s n' s' : Int) : Value := if rd9C L n s n' s' = 0 then capOf (lkS L n s) else capOf none
set_option maxRecDepth 4000 in
set_option maxHeartbeats 2000000 in
theorem tready_calls {w0 w : World} {x : Nat} {L : List Sl} (h : TabIn w0 x L w) {n s n' s' : Int} (hi : PIn (n, s)) (hi' : PIn (n', s')) :
    Calls Try.prog 39 #[.pointer (some ⟨x, 0, none⟩), .agg #[.int .i64 n, .int .i64 s], .agg #[.int .i64 n', .int .i64 s']] w fun e w' => e = .returned (.tuple #[rd9V L n s n' s', .int .i64 (rd9C L n s n' s')]) ∧ Kp [] w w' := by
  obtain ⟨R, hR⟩ : ∃ R, Value.tuple #[rd9V L n s n' s', .int .i64 (rd9C L n s n' s')] = R := ⟨_, rfl⟩
  rw [hR]
  unfold rd9V rd9C bothC at hR
  have R0 := hide (db_start w n s n' s')
  obtain ⟨t, et⟩ : ∃ t, w.heap.size = t := ⟨_, rfl⟩
  rw [et] at R0
  have hsz : Hid (w.heap.size ≤ t) := by unfold Hid; omega
  have H := hide h
  have hN := tget_lk (h.grew (unhide R0).kp) hi
  clear h
  rcases hN with ⟨hn, hc⟩ | ⟨y, hy, hc⟩
  · rw [hn] at hR
    simp only [capOf] at hR
    rw [if_neg (by decide)] at hR
    subst hR
    replace hn := hide hn
    replace hc := hide hc
    go_enter Try.func39, Try.ntmps39
    go_wp2_with fail
    refine (unhide hc).mono ?_
    rintro e W1 ⟨rfl, K1⟩
    have R1 := hide ((unhide R0).grew (K1.alloc (.cells #[.int .i64 0, .int .i64 0, .int .i64 0, .int .i64 0, .int .i64 0] 38)))
    obtain ⟨f1, ⟨u0, u1, u2, u3, u4⟩, v0, v1⟩ := (unhide R1).facts
    clear et hc R0 K1
    go_wp2
    refine bodyPost_ret (v := .tuple #[.agg #[.int .i64 0, .int .i64 0, .int .i64 0, .int .i64 0, .int .i64 0], .int .i64 4]) (by simp [results, Try.results39, go_sem, *]) rfl ⟨rfl, ?_⟩
    exact kp_put5 (unhide R1).kp (.inr (by have := unhide hsz; omega)) _ _ _ _ _
  · rw [hy] at hR
    obtain ⟨yn, ys, yu, yv, yk, yo, yz, yb, yr⟩ := y
    simp only [capOf] at hR
    simp only at hc
    replace hy := hide hy
    replace hc := hide hc
    by_cases hk : yk = 1
    · subst hk
      simp only [ne_eq, not_true_eq_false, if_false] at hR
      replace hR := hide hR
      cases hp : placeOk n' s'
      · have hR2 := unhide hR
        simp only [hp, if_true, show ¬ ((7:Int) = 0) from by decide, if_false] at hR2
        subst hR2
        replace hp := hide hp
        clear hR
        go_enter Try.func39, Try.ntmps39
        go_wp2_with fail
        refine (unhide hc).mono ?_
        rintro e W1 ⟨rfl, K1⟩
        have R1 := hide ((unhide R0).grew (K1.alloc (.cells #[.int .i64 1, .int .i64 yo, .int .i64 yz, .int .i64 yb, .int .i64 yr] 38)))
        have C1 := hide (Bk.new W1 38 [.int .i64 1, .int .i64 yo, .int .i64 yz, .int .i64 yb, .int .i64 yr])
        obtain ⟨f1, ⟨u0, u1, u2, u3, u4⟩, v0, v1⟩ := (unhide R1).facts
        clear et hc R0 K1
        go_wp2_with fail
        refine (tcanbe_at n' s' false _ (unhide hp)).mono ?_
        rintro e W2 ⟨rfl, K2⟩
        have R2 := hide ((unhide R1).grew K2)
        have C2 := (unhide C1).kept K2 (by simp)
        have k0 := C2.cell (i := 0) rfl
        have k1 := C2.cell (i := 1) rfl
        have k2 := C2.cell (i := 2) rfl
        have k3 := C2.cell (i := 3) rfl
        have k4 := C2.cell (i := 4) rfl
        clear f1 u0 u1 u2 u3 u4 v0 v1
        obtain ⟨f1, ⟨u0, u1, u2, u3, u4⟩, v0, v1⟩ := (unhide R2).facts
        clear R1 C1 C2 K2
        go_wp2
        refine bodyPost_ret (v := .tuple #[.agg #[.int .i64 0, .int .i64 0, .int .i64 0, .int .i64 0, .int .i64 0], .int .i64 7]) (by simp [results, Try.results39, go_sem, *]) rfl ⟨rfl, ?_⟩
        exact kp_put5 (unhide R2).kp (.inr (by have := unhide hsz; omega)) _ _ _ _ _
      · have hR2 := unhide hR
        simp only [hp, show ¬ (true = false) from by decide, if_false] at hR2
        replace hR2 := hide hR2
        replace hp := hide hp
        clear hR
        go_enter Try.func39, Try.ntmps39
        go_wp2_with fail
        refine (unhide hc).mono ?_
        rintro e W1 ⟨rfl, K1⟩
        have R1 := hide ((unhide R0).grew (K1.alloc (.cells #[.int .i64 1, .int .i64 yo, .int .i64 yz, .int .i64 yb, .int .i64 yr] 38)))
        have C1 := hide (Bk.new W1 38 [.int .i64 1, .int .i64 yo, .int .i64 yz, .int .i64 yb, .int .i64 yr])
        obtain ⟨f1, ⟨u0, u1, u2, u3, u4⟩, v0, v1⟩ := (unhide R1).facts
        clear et hc R0 K1
        go_wp2_with fail
        refine (tcanbe_at n' s' true _ (unhide hp)).mono ?_
        rintro e W2 ⟨rfl, K2⟩
        have R2 := hide ((unhide R1).grew K2)
        have C2 := hide ((unhide C1).kept K2 (by simp))
        clear f1 u0 u1 u2 u3 u4 v0 v1
        obtain ⟨f1, ⟨u0, u1, u2, u3, u4⟩, v0, v1⟩ := (unhide R2).facts
        clear R1 C1 K2
        rcases tget_lk ((unhide H).grew (unhide R2).kp) hi' with ⟨hn2, hc2⟩ | ⟨y2, hy2, hc2⟩
        · have hR3 := unhide hR2
          simp only [hn2, Option.isSome_none, show ¬ (false = true) from by decide, if_false, if_true] at hR3
          subst hR3
          clear hR2
          replace hc2 := hide hc2
          replace hn2 := hide hn2
          go_wp2_with fail
          refine (unhide hc2).mono ?_
          rintro e W3 ⟨rfl, K3⟩
          replace K3 := K3.alloc (.cells #[.int .i64 0, .int .i64 0, .int .i64 0, .int .i64 0, .int .i64 0] 38)
          have R3 := hide ((unhide R2).grew K3)
          have C3 := (unhide C2).kept K3 (by simp)
          have k0 := C3.cell (i := 0) rfl
          have k1 := C3.cell (i := 1) rfl
          have k2 := C3.cell (i := 2) rfl
          have k3 := C3.cell (i := 3) rfl
          have k4 := C3.cell (i := 4) rfl
          clear f1 u0 u1 u2 u3 u4 v0 v1
          obtain ⟨f1, ⟨u0, u1, u2, u3, u4⟩, v0, v1⟩ := (unhide R3).facts
          clear R2 C2 C3 K3 hc2
          go_wp2
          refine bodyPost_ret (v := .tuple #[.agg #[.int .i64 1, .int .i64 yo, .int .i64 yz, .int .i64 yb, .int .i64 yr], .int .i64 0]) (by simp [results, Try.results39, go_sem, *]) rfl ⟨rfl, ?_⟩
          exact kp_put5 (unhide R3).kp (.inr (by have := unhide hsz; omega)) _ _ _ _ _
        · have hR3 := unhide hR2
          simp only [hy2, Option.isSome_some, if_true, show ¬ ((3:Int) = 0) from by decide, if_false] at hR3
          subst hR3
          clear hR2
          obtain ⟨qn, qs, qu, qv, qk, qo, qz, qb, qr⟩ := y2
          simp only at hc2
          replace hc2 := hide hc2
          replace hy2 := hide hy2
          go_wp2_with fail
          refine (unhide hc2).mono ?_
          rintro e W3 ⟨rfl, K3⟩
          replace K3 := K3.alloc (.cells #[.int .i64 qk, .int .i64 qo, .int .i64 qz, .int .i64 qb, .int .i64 qr] 38)
          have R3 := hide ((unhide R2).grew K3)
          have C3 := (unhide C2).kept K3 (by simp)
          have k0 := C3.cell (i := 0) rfl
          have k1 := C3.cell (i := 1) rfl
          have k2 := C3.cell (i := 2) rfl
          have k3 := C3.cell (i := 3) rfl
          have k4 := C3.cell (i := 4) rfl
          clear f1 u0 u1 u2 u3 u4 v0 v1
          obtain ⟨f1, ⟨u0, u1, u2, u3, u4⟩, v0, v1⟩ := (unhide R3).facts
          clear R2 C2 C3 K3 hc2
          go_wp2
          refine bodyPost_ret (v := .tuple #[.agg #[.int .i64 0, .int .i64 0, .int .i64 0, .int .i64 0, .int .i64 0], .int .i64 3]) (by simp [results, Try.results39, go_sem, *]) rfl ⟨rfl, ?_⟩
          exact kp_put5 (unhide R3).kp (.inr (by have := unhide hsz; omega)) _ _ _ _ _
    · simp only [ne_eq, hk, not_false_eq_true, if_true, show ¬ ((5:Int) = 0) from by decide, if_false] at hR
      subst hR
      have hk' : (yk != 1) = true := by simp [hk]
      clear hk
      go_enter Try.func39, Try.ntmps39
      go_wp2_with fail
      refine (unhide hc).mono ?_
      rintro e W1 ⟨rfl, K1⟩
      have R1 := hide ((unhide R0).grew (K1.alloc (.cells #[.int .i64 yk, .int .i64 yo, .int .i64 yz, .int .i64 yb, .int .i64 yr] 38)))
      obtain ⟨f1, ⟨u0, u1, u2, u3, u4⟩, v0, v1⟩ := (unhide R1).facts
      clear et hc R0 K1
      go_wp2
      refine bodyPost_ret (v := .tuple #[.agg #[.int .i64 0, .int .i64 0, .int .i64 0, .int .i64 0, .int .i64 0], .int .i64 5]) (by simp [results, Try.results39, go_sem, *]) rfl ⟨rfl, ?_⟩
      exact kp_put5 (unhide R1).kp (.inr (by have := unhide hsz; omega)) _ _ _ _ _
theorem tready_to {w wr : World} {t : Nat} {L : List Sl} (h : TabIn w t L wr) {n s n' s' : Int} (hi : PIn (n, s)) (hi' : PIn (n', s')) {v : Value} {c : Int} (hv : rd9V L n s n' s' = v) (hc : rd9C L n s n' s' = c) :
    Calls Try.prog 39 #[.pointer (some ⟨t, 0, none⟩), .agg #[.int .i64 n, .int .i64 s], .agg #[.int .i64 n', .int .i64 s']] wr fun e w' => e = .returned (.tuple #[v, .int .i64 c]) ∧ Kp [] wr w' := by subst hv hc; exact tready_calls h hi hi'
/-- How many units are handed out: none where the code is not fine. -/
def unV (k z : Int) : Int := if unC k z = 0 then unN k z else 0
set_option maxRecDepth 4000 in
set_option maxHeartbeats 1000000 in
theorem unitsof_to (k z : Int) (w : World) {u c : Int} (hu : unV k z = u) (hc : unC k z = c) :
    Calls Try.prog 40 #[.int .i64 k, .int .i64 z] w fun e w' => e = .returned (.tuple #[.int .i64 u, .int .i64 c]) ∧ Kp [] w w' := by
  unfold unV at hu
  rw [hc] at hu
  by_cases k1 : k = 1
  · subst k1
    have hb : kindB 1 = false := by decide
    by_cases z1 : z < 1
    · rw [un_size hb (by unfold sizeB; simp [z1])] at hc
      subst hc
      rw [if_neg (by decide)] at hu
      subst hu
      clear hb
      go_enter Try.func40, Try.ntmps40
      go_wp2
      exact bodyPost_ret (v := .tuple #[.int .i64 0, .int .i64 7]) (by simp [results, Try.results40, go_sem, *]) rfl ⟨rfl, Kp.refl _ _⟩
    · have z1' : decide (z < 1) = false := decide_eq_false z1
      by_cases z2 : 64 < z
      · rw [un_size hb (by unfold sizeB; simp [z2])] at hc
        subst hc
        rw [if_neg (by decide)] at hu
        subst hu
        clear hb z1
        go_enter Try.func40, Try.ntmps40
        go_wp2
        exact bodyPost_ret (v := .tuple #[.int .i64 0, .int .i64 7]) (by simp [results, Try.results40, go_sem, *]) rfl ⟨rfl, Kp.refl _ _⟩
      · have z2' : decide (64 < z) = false := decide_eq_false z2
        rw [un_fine hb (by unfold sizeB; rw [z1', z2']; rfl)] at hc
        subst hc
        rw [if_pos rfl, show unN 1 z = z from if_pos rfl] at hu
        subst hu
        clear hb z1 z2
        go_enter Try.func40, Try.ntmps40
        go_wp2
        exact bodyPost_ret (v := .tuple #[.int .i64 z, .int .i64 0]) (by simp [results, Try.results40, go_sem, *]) rfl ⟨rfl, Kp.refl _ _⟩
  · have b1 : (k == 1) = false := by simp [k1]
    by_cases hk : k = 2 ∨ k = 3 ∨ k = 4 ∨ k = 5 ∨ k = 7
    · have hb : kindB k = false := by rcases hk with rfl | rfl | rfl | rfl | rfl <;> decide
      by_cases z0 : z = 0
      · subst z0
        rw [un_fine hb (by unfold sizeB; rw [b1]; simp)] at hc
        subst hc
        rw [if_pos rfl, show unN k 0 = 1 from if_neg k1] at hu
        subst hu
        clear hb k1
        rcases hk with rfl | rfl | rfl | rfl | rfl <;>
        · go_enter Try.func40, Try.ntmps40
          go_wp2
          exact bodyPost_ret (v := .tuple #[.int .i64 1, .int .i64 0]) (by simp [results, Try.results40, go_sem, *]) rfl ⟨rfl, Kp.refl _ _⟩
      · rw [un_size hb (by unfold sizeB; simp [k1, z0])] at hc
        subst hc
        rw [if_neg (by decide)] at hu
        subst hu
        have z0' : (z != 0) = true := by simp [z0]
        clear hb k1 z0
        rcases hk with rfl | rfl | rfl | rfl | rfl <;>
        · go_enter Try.func40, Try.ntmps40
          go_wp2
          exact bodyPost_ret (v := .tuple #[.int .i64 0, .int .i64 7]) (by simp [results, Try.results40, go_sem, *]) rfl ⟨rfl, Kp.refl _ _⟩
    · have b2 : (k == 2) = false := by simp; omega
      have b3 : (k == 3) = false := by simp; omega
      have b4 : (k == 4) = false := by simp; omega
      have b5 : (k == 5) = false := by simp; omega
      have b7 : (k == 7) = false := by simp; omega
      rw [un_bad (by unfold kindB; simp; omega)] at hc
      subst hc
      rw [if_neg (by decide)] at hu
      subst hu
      clear hk k1
      go_enter Try.func40, Try.ntmps40
      go_wp2
      exact bodyPost_ret (v := .tuple #[.int .i64 0, .int .i64 5]) (by simp [results, Try.results40, go_sem, *]) rfl ⟨rfl, Kp.refl _ _⟩
end Go.Proofs.Ythjhpcbhkcmghaa
namespace Go.Proofs.Ythjhpcbhkcmghaa
open Go.RowKit
set_option linter.unusedVariables false
set_option linter.unusedSimpArgs false
theorem tput_all {w wr : World} {t : Nat} {L L' : List Sl} (h : TabIn w t L wr) {n s k o z b r u v : Int} (hi : PIn (n, s)) (hu : PIn (u, v)) (hL : L.length < 65536) (e : putR L n s k o z b r u v = L') :
    Calls Try.prog 10 #[.pointer (some ⟨t, 0, none⟩), .agg #[.int .i64 n, .int .i64 s], .agg #[.int .i64 k, .int .i64 o, .int .i64 z, .int .i64 b, .int .i64 r], .agg #[.int .i64 u, .int .i64 v]] wr (TInP w t L' wr (.bool (putOk L n s k o z b r u v))) := by
  unfold putR at e
  by_cases hp : putP L n s k o z b r u v
  · have q := (putOk_iff L n s k o z b r u v).2 hp
    rw [q, if_pos rfl] at e
    rw [q]
    exact tput_yes h hi hu hp hL e
  · have q : putOk L n s k o z b r u v = false := by rw [← Bool.not_eq_true, putOk_iff]; exact hp
    rw [q, if_neg (by simp)] at e
    rw [q, ← e]
    exact tput_no h hi hu hp
/-- What the program's Make leaves. -/
def KKP (w : World) (t y : Nat) (R : MkR) (k z : Int) (wr : World) (e : Ending) (w' : World) : Prop := e = .returned (.tuple #[capR R k z, .int .i64 R.c]) ∧ TM w t y R.L R.F w' ∧ Mtc w t y wr w'
theorem KKP.no {w wr W : World} {t y p : Nat} {L : List Sl} {F : Int × Int → Int} {n s n' s' k z c : Int} (b : Mb p n s n' s' W) (h : TM w t y L F W) (D : Mtc w t y wr W) (hp : wr.heap.size ≤ p) (hw : w.heap.size ≤ wr.heap.size) (hty : t < wr.heap.size ∧ y < wr.heap.size) (hc : c ≠ 0) :
    KKP w t y ⟨c, 0, L, F⟩ k z wr (.returned (.tuple #[.agg #[.int .i64 0, .int .i64 0, .int .i64 0, .int .i64 0, .int .i64 0], .int .i64 c])) (((((W.setCell ⟨p + 1 + 1, 0, none⟩ (.int .i64 0)).setCell ⟨p + 1 + 1, 1, none⟩ (.int .i64 0)).setCell ⟨p + 1 + 1, 2, none⟩ (.int .i64 0)).setCell ⟨p + 1 + 1, 3, none⟩ (.int .i64 0)).setCell ⟨p + 1 + 1, 4, none⟩ (.int .i64 0)) :=
  ⟨by unfold capR; rw [if_neg hc], h.beside (kp5 _ _ _ _ _) b.res (by omega) (by omega) (by omega), D.more (kp5 _ _ _ _ _) (by simp; omega)⟩
theorem KKP.yes {w wr W : World} {t y p : Nat} {L : List Sl} {F : Int × Int → Int} {n s n' s' k z o : Int} (b : Mb p n s n' s' W) (h : TM w t y L F W) (D : Mtc w t y wr W) (hp : wr.heap.size ≤ p) (hw : w.heap.size ≤ wr.heap.size) (hty : t < wr.heap.size ∧ y < wr.heap.size) :
    KKP w t y ⟨0, o, L, F⟩ k z wr (.returned (.tuple #[.agg #[.int .i64 k, .int .i64 o, .int .i64 z, .int .i64 0, .int .i64 7], .int .i64 0])) (((((W.setCell ⟨p + 1 + 1, 0, none⟩ (.int .i64 k)).setCell ⟨p + 1 + 1, 1, none⟩ (.int .i64 o)).setCell ⟨p + 1 + 1, 2, none⟩ (.int .i64 z)).setCell ⟨p + 1 + 1, 3, none⟩ (.int .i64 0)).setCell ⟨p + 1 + 1, 4, none⟩ (.int .i64 7)) :=
  ⟨by unfold capR; rw [if_pos rfl], h.beside (kp5 _ _ _ _ _) b.res (by omega) (by omega) (by omega), D.more (kp5 _ _ _ _ _) (by simp; omega)⟩
theorem mkR_rd {L : List Sl} {F : Int × Int → Int} {n s n' s' k z c : Int} (h : rd9C L n s n' s' = c) (hc : c ≠ 0) : mkR L F n s n' s' k z = ⟨c, 0, L, F⟩ := by
  unfold rd9C at h
  cases hl : lkS L n s with
  | none => rw [hl] at h; simp only at h; subst h; exact mkR_none hl
  | some q =>
    rw [hl] at h
    simp only at h
    by_cases hk : q.k = 1
    · rw [if_neg (by simp [hk])] at h
      exact mkR_both hl hk h hc
    · rw [if_pos hk] at h
      subst h
      exact mkR_kind hl hk
theorem rd9_zero {L : List Sl} {n s n' s' : Int} (h : rd9C L n s n' s' = 0) : ∃ q, lkS L n s = some q ∧ q.k = 1 ∧ bothC L n s n' s' = 0 := by
  unfold rd9C at h
  cases hl : lkS L n s with
  | none => rw [hl] at h; cases h
  | some q =>
    rw [hl] at h
    simp only at h
    by_cases hk : q.k = 1
    · rw [if_neg (by simp [hk])] at h
      exact ⟨q, rfl, hk, h⟩
    · rw [if_pos hk] at h
      cases h
theorem in_small {x : Int} (h1 : -1000000 ≤ x) (h2 : x ≤ 1000000) : In64 x := in64_of (by omega) (by omega)
set_option maxRecDepth 4000 in
set_option maxHeartbeats 4000000 in
theorem kmake {w wr : World} {t y : Nat} {L : List Sl} {F : Int × Int → Int} (h : TM w t y L F wr) (hF : FB F) {n s n' s' : Int} (hi : PIn (n, s)) (hi' : PIn (n', s')) (k z : Int) (hL : L.length < 65536) {R : MkR} (hR : mkR L F n s n' s' k z = R) :
    Calls Try.prog 19 #[.pointer (some ⟨t, 0, none⟩), .pointer (some ⟨y, 0, none⟩), .agg #[.int .i64 n, .int .i64 s], .agg #[.int .i64 n', .int .i64 s'], .int .i64 k, .int .i64 z] wr (KKP w t y R k z wr) := by
  have B0 := hide (mb_start wr n s n' s').1
  have K0 := hide (mb_start wr n s n' s').2
  obtain ⟨p, ep⟩ : ∃ p, wr.heap.size = p := ⟨_, rfl⟩
  rw [ep] at B0
  have hp : Hid (wr.heap.size ≤ p) := by unfold Hid; omega
  have hty : Hid (t < wr.heap.size ∧ y < wr.heap.size) := ⟨h.tab.lt, h.ma.lt⟩
  have htp : Hid (t < p ∧ y < p) := by rw [← ep]; exact hty
  have hw := hide h.tab.kp.size
  have H := hide (h.grew (unhide K0))
  replace hF := hide hF
  have hcs := hide (fun (q : Sl) (e : q ∈ L) => capns_of (h.tab.cp q e))
  clear h
  obtain ⟨c, hc⟩ : ∃ c, rd9C L n s n' s' = c := ⟨_, rfl⟩
  by_cases hz : c = 0
  · subst hz
    obtain ⟨q, hq, hk, hb⟩ := rd9_zero hc
    have hV : rd9V L n s n' s' = .agg #[.int .i64 q.k, .int .i64 q.o, .int .i64 q.z, .int .i64 q.b, .int .i64 q.r] := by unfold rd9V; rw [hc, if_pos rfl, hq]; rfl
    have hqn := unhide hcs q (by obtain ⟨_, e, _⟩ := lk_at hq; exact e)
    obtain ⟨yn, ys, yu, yv, yk, yo, yz, yb, yr⟩ := q
    simp only at hV hk hqn
    subst hk
    have q1 := hqn.o1
    have q2 := hqn.o64
    have q3 := hqn.z0
    have q4 := hqn.z64
    replace hq := hide hq
    replace hV := hide hV
    replace hc := hide hc
    replace hb := hide hb
    go_enter Try.func19, Try.ntmps19
    go_wp2_with fail
    refine (tready_to (unhide H).tab hi hi' (unhide hV) (unhide hc)).mono ?_
    rintro e W1 ⟨rfl, K1⟩
    have KK := hide (K1.alloc (.cells #[.int .i64 1, .int .i64 yo, .int .i64 yz, .int .i64 yb, .int .i64 yr] 38))
    have C1 := hide (Bk.new W1 38 [.int .i64 1, .int .i64 yo, .int .i64 yz, .int .i64 yb, .int .i64 yr])
    have B1 := hide ((unhide B0).grew (unhide KK))
    have H1 := hide ((unhide H).grew (unhide KK))
    obtain ⟨C, eC⟩ : ∃ C, W1.heap.size = C := ⟨_, rfl⟩
    rw [eC] at C1
    have hCt : Hid (p + 1 + 1 < C) := by have := (unhide B0).res.lt; have := K1.size; unfold Hid; omega
    replace KK := hide ((unhide K0).then (unhide KK))
    clear ep K1 B0 H K0
    obtain ⟨f1, ⟨u0, u1, u2, u3, u4⟩, ⟨p0, p1⟩, v0, v1⟩ := (unhide B1).facts
    obtain ⟨uc, huc⟩ : ∃ uc, unC k z = uc := ⟨_, rfl⟩
    obtain ⟨un, hun⟩ : ∃ un, unV k z = un := ⟨_, rfl⟩
    have hunit := fun W => unitsof_to k z W hun huc
    replace hunit := hide hunit
    go_wp2_with fail
    generalize W1.alloc (.cells #[.int .i64 1, .int .i64 yo, .int .i64 yz, .int .i64 yb, .int .i64 yr] 38) = W2 at *
    clear eC
    refine (unhide hunit _).mono ?_
    rintro e W3 ⟨rfl, K3⟩
    have C3 := hide ((unhide C1).kept K3 (by simp))
    have B3 := hide ((unhide B1).grew K3)
    have H3 := hide ((unhide H1).grew K3)
    replace KK := hide ((unhide KK).then K3)
    clear K3 C1 B1 H1 f1 u0 u1 u2 u3 u4 p0 p1 v0 v1 hunit
    obtain ⟨f1, ⟨u0, u1, u2, u3, u4⟩, ⟨p0, p1⟩, v0, v1⟩ := (unhide B3).facts
    by_cases hu0 : uc = 0
    · subst hu0
      unfold unV at hun
      rw [huc, if_pos rfl] at hun
      obtain ⟨ulo, uhi⟩ : 1 ≤ un ∧ un ≤ 64 := by
        have hkb : kindB k = false := by
          cases h : kindB k with
          | false => rfl
          | true => rw [un_bad h] at huc; cases huc
        have hsb : sizeB k z = false := by
          cases h : sizeB k z with
          | false => rfl
          | true => rw [un_size hkb h] at huc; cases huc
        rw [← hun]
        unfold unN
        rcases size_fine hsb with ⟨e, h1, h2⟩ | ⟨e, h1⟩
        · rw [if_pos e]; omega
        · rw [if_neg e]; omega
      replace hun := hide hun
      replace huc := hide huc
      have d0 := (unhide C3).cell (i := 0) rfl
      have d1 := (unhide C3).cell (i := 1) rfl
      have d2 := (unhide C3).cell (i := 2) rfl
      have d3 := (unhide C3).cell (i := 3) rfl
      have d4 := (unhide C3).cell (i := 4) rfl
      go_wp2_with fail
      refine (range_calls 1 yo yz yb yr _ yo yz (if_pos rfl) (if_pos rfl)).mono ?_
      rintro e W4 ⟨rfl, K4⟩
      have K5 := hide (K4.alloc (.cells #[.int .i64 yo, .int .i64 yz] 45))
      have G5 := hide (Bk.new W4 45 [.int .i64 yo, .int .i64 yz])
      obtain ⟨g, eg⟩ : ∃ g, W4.heap.size = g := ⟨_, rfl⟩
      rw [eg] at G5
      have hgt : Hid (t < g ∧ y < g) := by have := K4.size; have := (unhide H3).tab.lt; have := (unhide H3).ma.lt; unfold Hid; omega
      have B5 := hide ((unhide B3).grew (unhide K5))
      have H5 := hide ((unhide H3).grew (unhide K5))
      replace KK := hide ((unhide KK).then (unhide K5))
      clear K4 K5 C3 B3 H3 f1 u0 u1 u2 u3 u4 p0 p1 v0 v1 d0 d1 d2 d3 d4
      have g0 := (unhide G5).cell (i := 0) rfl
      have g1 := (unhide G5).cell (i := 1) rfl
      obtain ⟨G, hG⟩ : ∃ G, F1 L F yo yz = G := ⟨_, rfl⟩
      have hGB := hide (by rw [← hG]; exact F1_FB (unhide hF) yo yz : FB G)
      obtain ⟨fb, hfb⟩ : ∃ b, freeL L yo yz = b := ⟨_, rfl⟩
      go_wp2_with fail
      generalize W4.alloc (.cells #[.int .i64 yo, .int .i64 yz] 45) = W5 at *
      clear eg
      refine (isfree_to (unhide H5).tab yo yz q1 q2 q3 q4 hfb).mono ?_
      rintro e W6 ⟨rfl, K6⟩
      have G6 := hide ((unhide G5).kept K6 (by simp))
      have B6 := hide ((unhide B5).grew K6)
      have H6 := hide ((unhide H5).grew K6)
      replace KK := hide ((unhide KK).then K6)
      clear K6 G5 B5 H5 g0 g1
      have g0 := (unhide G6).cell (i := 0) rfl
      have g1 := (unhide G6).cell (i := 1) rfl
      have hpr : Hid (PIn (yo, yz)) := ⟨in_small (by omega) (by omega), in_small (by omega) (by omega)⟩
      go_upto_if 46 with fail
      go_cut [] (fun wx => TM w t y L G wx ∧ Mb p n s n' s' wx ∧ Bk wx g 45 [.int .i64 yo, .int .i64 yz] ∧ Mtc w t y wr wx)
      case first =>
        cases fb
        · have : G = F := by rw [← hG]; unfold F1; rw [hfb]; simp
          subst this
          clear hG
          go_wp2
          go_meet
          case rel => exact ⟨unhide H6, unhide B6, unhide G6, .of (unhide KK)⟩
        · have : G = upF F (yo, yz) 0 := by rw [← hG]; unfold F1; rw [hfb]; simp
          subst this
          clear hG
          go_wp2_with fail
          refine (mreset (unhide H6).ma (unhide hpr)).mono ?_
          rintro e W7 ⟨rfl, hM7, T7⟩
          have H7 := hide ((unhide H6).turnM T7 hM7)
          have B7 := hide ((unhide B6).mtc (Mtc.ofM (t := t) T7) (unhide htp).1 (unhide htp).2)
          have G7 := hide ((Mtc.ofM (t := t) T7).bk (unhide G6) (by have := (unhide hgt).1; omega) (by have := (unhide hgt).2; omega))
          have D7 := hide ((Mtc.of (w := w) (t := t) (y := y) (unhide KK)).trans (Mtc.ofM T7))
          clear hM7 T7
          go_wp2
          go_meet
          case rel => exact ⟨unhide H7, unhide B7, unhide G7, unhide D7⟩
      case rest =>
        obtain ⟨hH7, hB7, hG7, hD7⟩ := hcut
        have H7 := hide hH7
        have B7 := hide hB7
        have D7 := hide hD7
        have g0 := hG7.cell (i := 0) rfl
        have g1 := hG7.cell (i := 1) rfl
        clear hH7 hB7 hG7 hD7 H6 B6 G6 KK hfb
        obtain ⟨u, hu⟩ : ∃ u, G (yo, yz) = u := ⟨_, rfl⟩
        obtain ⟨u0', u64⟩ : 0 ≤ u ∧ u ≤ 64 := by rw [← hu]; exact unhide hGB _
        have w1 : IntKind.i64.wrap (yz - u) = yz - u := by rw [IntKind.wrap_i64]; omega
        have w2 : IntKind.i64.wrap (u + un) = u + un := by rw [IntKind.wrap_i64]; omega
        have w3 : IntKind.i64.wrap (yo + u) = yo + u := by rw [IntKind.wrap_i64]; omega
        by_cases hno : yz - u < un
        · rw [mkR_mem (unhide hq) rfl (unhide hb) (unhide huc) hG (by rw [hu, unhide hun]; exact hno)] at hR
          subst hR
          have hcl := mtake_no (unhide H7).ma (unhide hpr) hu w1 (.inr hno)
          replace hcl := hide hcl
          clear w1 w2 w3 hno hG hu
          go_wp2_with fail
          refine (unhide hcl).mono ?_
          rintro e W8 ⟨rfl, K8⟩
          have B8 := hide ((unhide B7).grew K8)
          have H8 := hide ((unhide H7).grew K8)
          have D8 := hide ((unhide D7).trans (.of K8))
          obtain ⟨f1, ⟨u0, u1, u2, u3, u4⟩, ⟨p0, p1⟩, v0, v1⟩ := (unhide B8).facts
          clear K8 B7 H7 D7 hcl g0 g1
          go_wp2
          exact bodyPost_ret (v := .tuple #[.agg #[.int .i64 0, .int .i64 0, .int .i64 0, .int .i64 0, .int .i64 0], .int .i64 8]) (by simp [results, Try.results19, go_sem, *]) rfl (KKP.no (unhide B8) (unhide H8) (unhide D8) (unhide hp) (unhide hw) (unhide hty) (by decide))
        · rw [mkR_yes (unhide hq) rfl (unhide hb) (unhide huc) hG hu (unhide hun) hno] at hR
          subst hR
          have hcl := mtake_yes (unhide H7).ma (unhide hpr) hu w1 w2 w3 ulo (by omega)
          replace hcl := hide hcl
          clear w1 w2 w3 hno hG hu
          go_wp2_with fail
          refine (unhide hcl).mono ?_
          rintro e W8 ⟨rfl, hM8, T8⟩
          have H8 := hide ((unhide H7).turnM T8 hM8)
          have B8 := hide ((unhide B7).mtc (Mtc.ofM (t := t) T8) (unhide htp).1 (unhide htp).2)
          have D8 := hide ((unhide D7).trans (Mtc.ofM T8))
          obtain ⟨o, ho⟩ : ∃ o, yo + u = o := ⟨_, rfl⟩
          rw [ho]
          have E9 := hide (Bk.new W8 38 [.int .i64 k, .int .i64 o, .int .i64 z, .int .i64 0, .int .i64 7])
          have B9 := hide ((unhide B8).grew ((Kp.refl [] W8).alloc (.cells #[.int .i64 k, .int .i64 o, .int .i64 z, .int .i64 0, .int .i64 7] 38)))
          have H9 := hide ((unhide H8).grew ((Kp.refl [] W8).alloc (.cells #[.int .i64 k, .int .i64 o, .int .i64 z, .int .i64 0, .int .i64 7] 38)))
          have D9 := hide ((unhide D8).trans (.of ((Kp.refl [] W8).alloc (.cells #[.int .i64 k, .int .i64 o, .int .i64 z, .int .i64 0, .int .i64 7] 38))))
          have hE : Hid (t < W8.heap.size ∧ y < W8.heap.size ∧ p + 1 + 1 < W8.heap.size) := ⟨(unhide H8).tab.lt, (unhide H8).ma.lt, (unhide B8).res.lt⟩
          replace ho := hide ho
          obtain ⟨f1, ⟨u0, u1, u2, u3, u4⟩, ⟨p0, p1⟩, v0, v1⟩ := (unhide B9).facts
          clear hM8 T8 B7 H7 D7 g0 g1 hcl
          go_wp2_with fail
          generalize W8.alloc (.cells #[.int .i64 k, .int .i64 o, .int .i64 z, .int .i64 0, .int .i64 7] 38) = W9 at *
          refine (tput_all (unhide H9).tab hi' hi hL rfl).mono ?_
          rintro e W10 ⟨rfl, hT, T10⟩
          have H10 := hide ((unhide H9).turnT T10 hT)
          have B10 := hide ((unhide B9).mtc (Mtc.ofT (y := y) T10) (unhide htp).1 (unhide htp).2)
          have D10 := hide ((unhide D9).trans (Mtc.ofT T10))
          have E10 := hide ((Mtc.ofT (y := y) T10).bk (unhide E9) (by have := (unhide hE).1; omega) (by have := (unhide hE).2.1; omega))
          clear hT T10 B9 H9 D9 E9 B8 H8 D8 f1 u0 u1 u2 u3 u4 p0 p1 v0 v1
          obtain ⟨f1, ⟨u0, u1, u2, u3, u4⟩, ⟨p0, p1⟩, v0, v1⟩ := (unhide B10).facts
          have e0 := (unhide E10).cell (i := 0) rfl
          have e1 := (unhide E10).cell (i := 1) rfl
          have e2 := (unhide E10).cell (i := 2) rfl
          have e3 := (unhide E10).cell (i := 3) rfl
          have e4 := (unhide E10).cell (i := 4) rfl
          go_wp2
          refine bodyPost_ret (v := .tuple #[.agg #[.int .i64 k, .int .i64 o, .int .i64 z, .int .i64 0, .int .i64 7], .int .i64 0]) (by simp [results, Try.results19, go_sem, *]) rfl ?_
          rw [unhide ho]
          exact KKP.yes (unhide B10) (unhide H10) (unhide D10) (unhide hp) (unhide hw) (unhide hty)
    · rw [mkR_un (unhide hq) rfl (unhide hb) huc hu0] at hR
      subst hR
      have hu0' : (uc != 0) = true := by simp [hu0]
      replace huc := hide huc
      replace hun := hide hun
      replace hu0 := hide hu0
      go_wp2
      exact bodyPost_ret (v := .tuple #[.agg #[.int .i64 0, .int .i64 0, .int .i64 0, .int .i64 0, .int .i64 0], .int .i64 uc]) (by simp [results, Try.results19, go_sem, *]) rfl (KKP.no (unhide B3) (unhide H3) (.of (unhide KK)) (unhide hp) (unhide hw) (unhide hty) (unhide hu0))
  · rw [mkR_rd hc hz] at hR
    subst hR
    have hV : rd9V L n s n' s' = .agg #[.int .i64 0, .int .i64 0, .int .i64 0, .int .i64 0, .int .i64 0] := by unfold rd9V; rw [hc, if_neg hz]; rfl
    have hz' : (c != 0) = true := by simp [hz]
    replace hz := hide hz
    replace hc := hide hc
    replace hV := hide hV
    go_enter Try.func19, Try.ntmps19
    go_wp2_with fail
    refine (tready_to (unhide H).tab hi hi' (unhide hV) (unhide hc)).mono ?_
    rintro e W1 ⟨rfl, K1⟩
    have KK := hide (K1.alloc (.cells #[.int .i64 0, .int .i64 0, .int .i64 0, .int .i64 0, .int .i64 0] 38))
    have B1 := hide ((unhide B0).grew (unhide KK))
    have H1 := hide ((unhide H).grew (unhide KK))
    obtain ⟨f1, ⟨u0, u1, u2, u3, u4⟩, ⟨p0, p1⟩, v0, v1⟩ := (unhide B1).facts
    clear ep K1
    go_wp2
    exact bodyPost_ret (v := .tuple #[.agg #[.int .i64 0, .int .i64 0, .int .i64 0, .int .i64 0, .int .i64 0], .int .i64 c]) (by simp [results, Try.results19, go_sem, *]) rfl (KKP.no (unhide B1) (unhide H1) (.of ((unhide K0).then (unhide KK))) (unhide hp) (unhide hw) (unhide hty) (unhide hz))
end Go.Proofs.Ythjhpcbhkcmghaa
