/- The program's copy, mint, move, in the table's form. -/
import Derived.Test.YtgpclbkekobaoaaKTabIn
import Derived.Test.YtgpclbkekobaoaaKDup0
import Derived.Deep.RegionHeld3
namespace Go.Proofs.Ytgpclbkekobaoaa
open Go.RowKit
set_option linter.unusedVariables false
set_option linter.unusedSimpArgs false
set_option maxHeartbeats 400000 in
theorem dcanbe_calls (n s : Int) (w : World) :
    Calls Try.prog 54 #[.agg #[.int .i64 n, .int .i64 s]] w fun e w' => e = .returned (.bool (placeOk n s)) ∧ Kp [] w w' := by
  obtain ⟨v1, h1⟩ : ∃ v, decide (1 ≤ n) = v := ⟨_, rfl⟩
  obtain ⟨v2, h2⟩ : ∃ v, decide (n ≤ 64) = v := ⟨_, rfl⟩
  obtain ⟨v3, h3⟩ : ∃ v, decide (0 ≤ s) = v := ⟨_, rfl⟩
  have HE := hide (show (v1 && (v2 && (v3 && decide (s < 16)))) = placeOk n s from by rw [← h1, ← h2, ← h3]; refine Bool.eq_iff_iff.2 ?_; rw [placeOk_iff]; simp [placeP, and_assoc])
  cases v1
  · clear h2 h3
    go_enter Try.func54, Try.ntmps54
    go_wp2
    go_ret
    exact ⟨ret_bool (unhide HE), (Kp.refl _ _).alloc _⟩
  cases v2
  · clear h3
    go_enter Try.func54, Try.ntmps54
    go_wp2
    go_ret
    exact ⟨ret_bool (unhide HE), (Kp.refl _ _).alloc _⟩
  cases v3 <;>
  · go_enter Try.func54, Try.ntmps54
    go_wp2
    go_ret
    exact ⟨ret_bool (unhide HE), (Kp.refl _ _).alloc _⟩
/-- Get by cases. -/
theorem tget_lk {w wr : World} {t : Nat} {L : List Sl} (h : TabIn w t L wr) {n s : Int} (hi : PIn (n, s)) :
    (lkS L n s = none ∧ Calls Try.prog 21 #[.pointer (some ⟨t, 0, none⟩), .agg #[.int .i64 n, .int .i64 s]] wr fun e w' => e = .returned (.tuple #[.agg #[.int .i64 0, .int .i64 0, .int .i64 0, .int .i64 0, .int .i64 0], .bool false]) ∧ Kp [] wr w') ∨
    ∃ y, lkS L n s = some y ∧ Calls Try.prog 21 #[.pointer (some ⟨t, 0, none⟩), .agg #[.int .i64 n, .int .i64 s]] wr fun e w' => e = .returned (.tuple #[.agg #[.int .i64 y.k, .int .i64 y.o, .int .i64 y.z, .int .i64 y.b, .int .i64 y.r], .bool true]) ∧ Kp [] wr w' := by
  have c := tget h hi
  have e : lookS L n s = lkS L n s := rfl
  rw [e] at c
  cases hl : lkS L n s with
  | none => rw [hl] at c; exact .inl ⟨rfl, c⟩
  | some y => rw [hl] at c; exact .inr ⟨y, rfl, c⟩
theorem canbe_at (n s : Int) (v : Bool) (w : World) (h : placeOk n s = v) :
    Calls Try.prog 54 #[.agg #[.int .i64 n, .int .i64 s]] w fun e w' => e = .returned (.bool v) ∧ Kp [] w w' := by subst h; exact dcanbe_calls n s w
/-- What ready hands out beside the code. -/
def readyV (L : List Sl) (n s n' s' : Int) : Value := if bothC L n s n' s' = 0 then capOf (lkS L n s) else capOf none
set_option maxRecDepth 4000 in
set_option maxHeartbeats 2000000 in
theorem dready_calls {w0 w : World} {x : Nat} {L : List Sl} (h : TabIn w0 x L w) {n s n' s' : Int} (hi : PIn (n, s)) (hi' : PIn (n', s')) :
    Calls Try.prog 37 #[.pointer (some ⟨x, 0, none⟩), .agg #[.int .i64 n, .int .i64 s], .agg #[.int .i64 n', .int .i64 s']] w fun e w' => e = .returned (.tuple #[readyV L n s n' s', .int .i64 (bothC L n s n' s')]) ∧ Kp [] w w' := by
  obtain ⟨R, hR⟩ : ∃ R, Value.tuple #[readyV L n s n' s', .int .i64 (bothC L n s n' s')] = R := ⟨_, rfl⟩
  rw [hR]
  unfold readyV bothC at hR
  have R0 := hide (db_start w n s n' s')
  obtain ⟨t, et⟩ : ∃ t, w.heap.size = t := ⟨_, rfl⟩
  rw [et] at R0
  have hsz : Hid (w.heap.size ≤ t) := by unfold Hid; omega
  have H := hide h
  have hN := tget_lk (h.grew (unhide R0).kp) hi
  clear h
  rcases hN with ⟨hn, hc⟩ | ⟨y, hy, hc⟩
  · rw [hn] at hR
    simp only [capOf] at hR
    rw [if_neg (by decide)] at hR
    subst hR
    replace hn := hide hn
    replace hc := hide hc
    go_enter Try.func37, Try.ntmps37
    go_wp2_with fail
    refine (unhide hc).mono ?_
    rintro e W1 ⟨rfl, K1⟩
    have R1 := hide ((unhide R0).grew (K1.alloc (.cells #[.int .i64 0, .int .i64 0, .int .i64 0, .int .i64 0, .int .i64 0] 37)))
    obtain ⟨f1, ⟨u0, u1, u2, u3, u4⟩, v0, v1⟩ := (unhide R1).facts
    clear et hc R0 K1
    go_wp2
    refine bodyPost_ret (v := .tuple #[.agg #[.int .i64 0, .int .i64 0, .int .i64 0, .int .i64 0, .int .i64 0], .int .i64 4]) (by simp [results, Try.results37, go_sem, *]) rfl ⟨rfl, ?_⟩
    exact kp_put5 (unhide R1).kp (.inr (by have := unhide hsz; omega)) _ _ _ _ _
  · rw [hy] at hR
    obtain ⟨yn, ys, yu, yv, yk, yo, yz, yb, yr⟩ := y
    simp only [capOf] at hR
    simp only at hc
    replace hR := hide hR
    replace hy := hide hy
    replace hc := hide hc
    cases hp : placeOk n' s'
    · have hR2 := unhide hR
      simp only [hp, if_true, show ¬ ((7:Int) = 0) from by decide, if_false] at hR2
      subst hR2
      replace hp := hide hp
      clear hR
      go_enter Try.func37, Try.ntmps37
      go_wp2_with fail
      refine (unhide hc).mono ?_
      rintro e W1 ⟨rfl, K1⟩
      have R1 := hide ((unhide R0).grew (K1.alloc (.cells #[.int .i64 yk, .int .i64 yo, .int .i64 yz, .int .i64 yb, .int .i64 yr] 37)))
      have C1 := hide (Bk.new W1 37 [.int .i64 yk, .int .i64 yo, .int .i64 yz, .int .i64 yb, .int .i64 yr])
      obtain ⟨f1, ⟨u0, u1, u2, u3, u4⟩, v0, v1⟩ := (unhide R1).facts
      clear et hc R0 K1
      go_wp2_with fail
      refine (canbe_at n' s' false _ (unhide hp)).mono ?_
      rintro e W2 ⟨rfl, K2⟩
      have R2 := hide ((unhide R1).grew K2)
      have C2 := (unhide C1).kept K2 (by simp)
      have k0 := C2.cell (i := 0) rfl
      have k1 := C2.cell (i := 1) rfl
      have k2 := C2.cell (i := 2) rfl
      have k3 := C2.cell (i := 3) rfl
      have k4 := C2.cell (i := 4) rfl
      clear f1 u0 u1 u2 u3 u4 v0 v1
      obtain ⟨f1, ⟨u0, u1, u2, u3, u4⟩, v0, v1⟩ := (unhide R2).facts
      clear R1 C1 C2 K2
      go_wp2
      refine bodyPost_ret (v := .tuple #[.agg #[.int .i64 0, .int .i64 0, .int .i64 0, .int .i64 0, .int .i64 0], .int .i64 7]) (by simp [results, Try.results37, go_sem, *]) rfl ⟨rfl, ?_⟩
      exact kp_put5 (unhide R2).kp (.inr (by have := unhide hsz; omega)) _ _ _ _ _
    · have hR2 := unhide hR
      simp only [hp, show ¬ (true = false) from by decide, if_false] at hR2
      replace hR2 := hide hR2
      replace hp := hide hp
      clear hR
      go_enter Try.func37, Try.ntmps37
      go_wp2_with fail
      refine (unhide hc).mono ?_
      rintro e W1 ⟨rfl, K1⟩
      have R1 := hide ((unhide R0).grew (K1.alloc (.cells #[.int .i64 yk, .int .i64 yo, .int .i64 yz, .int .i64 yb, .int .i64 yr] 37)))
      have C1 := hide (Bk.new W1 37 [.int .i64 yk, .int .i64 yo, .int .i64 yz, .int .i64 yb, .int .i64 yr])
      obtain ⟨f1, ⟨u0, u1, u2, u3, u4⟩, v0, v1⟩ := (unhide R1).facts
      clear et hc R0 K1
      go_wp2_with fail
      refine (canbe_at n' s' true _ (unhide hp)).mono ?_
      rintro e W2 ⟨rfl, K2⟩
      have R2 := hide ((unhide R1).grew K2)
      have C2 := hide ((unhide C1).kept K2 (by simp))
      clear f1 u0 u1 u2 u3 u4 v0 v1
      obtain ⟨f1, ⟨u0, u1, u2, u3, u4⟩, v0, v1⟩ := (unhide R2).facts
      clear R1 C1 K2
      rcases tget_lk ((unhide H).grew (unhide R2).kp) hi' with ⟨hn2, hc2⟩ | ⟨y2, hy2, hc2⟩
      · have hR3 := unhide hR2
        simp only [hn2, Option.isSome_none, show ¬ (false = true) from by decide, if_false, if_true] at hR3
        subst hR3
        clear hR2
        replace hc2 := hide hc2
        replace hn2 := hide hn2
        go_wp2_with fail
        refine (unhide hc2).mono ?_
        rintro e W3 ⟨rfl, K3⟩
        replace K3 := K3.alloc (.cells #[.int .i64 0, .int .i64 0, .int .i64 0, .int .i64 0, .int .i64 0] 37)
        have R3 := hide ((unhide R2).grew K3)
        have C3 := (unhide C2).kept K3 (by simp)
        have k0 := C3.cell (i := 0) rfl
        have k1 := C3.cell (i := 1) rfl
        have k2 := C3.cell (i := 2) rfl
        have k3 := C3.cell (i := 3) rfl
        have k4 := C3.cell (i := 4) rfl
        clear f1 u0 u1 u2 u3 u4 v0 v1
        obtain ⟨f1, ⟨u0, u1, u2, u3, u4⟩, v0, v1⟩ := (unhide R3).facts
        clear R2 C2 C3 K3 hc2
        go_wp2
        refine bodyPost_ret (v := .tuple #[.agg #[.int .i64 yk, .int .i64 yo, .int .i64 yz, .int .i64 yb, .int .i64 yr], .int .i64 0]) (by simp [results, Try.results37, go_sem, *]) rfl ⟨rfl, ?_⟩
        exact kp_put5 (unhide R3).kp (.inr (by have := unhide hsz; omega)) _ _ _ _ _
      · have hR3 := unhide hR2
        simp only [hy2, Option.isSome_some, if_true, show ¬ ((3:Int) = 0) from by decide, if_false] at hR3
        subst hR3
        clear hR2
        obtain ⟨qn, qs, qu, qv, qk, qo, qz, qb, qr⟩ := y2
        simp only at hc2
        replace hc2 := hide hc2
        replace hy2 := hide hy2
        go_wp2_with fail
        refine (unhide hc2).mono ?_
        rintro e W3 ⟨rfl, K3⟩
        replace K3 := K3.alloc (.cells #[.int .i64 qk, .int .i64 qo, .int .i64 qz, .int .i64 qb, .int .i64 qr] 37)
        have R3 := hide ((unhide R2).grew K3)
        have C3 := (unhide C2).kept K3 (by simp)
        have k0 := C3.cell (i := 0) rfl
        have k1 := C3.cell (i := 1) rfl
        have k2 := C3.cell (i := 2) rfl
        have k3 := C3.cell (i := 3) rfl
        have k4 := C3.cell (i := 4) rfl
        clear f1 u0 u1 u2 u3 u4 v0 v1
        obtain ⟨f1, ⟨u0, u1, u2, u3, u4⟩, v0, v1⟩ := (unhide R3).facts
        clear R2 C2 C3 K3 hc2
        go_wp2
        refine bodyPost_ret (v := .tuple #[.agg #[.int .i64 0, .int .i64 0, .int .i64 0, .int .i64 0, .int .i64 0], .int .i64 3]) (by simp [results, Try.results37, go_sem, *]) rfl ⟨rfl, ?_⟩
        exact kp_put5 (unhide R3).kp (.inr (by have := unhide hsz; omega)) _ _ _ _ _
theorem dready_to {w wr : World} {t : Nat} {L : List Sl} (h : TabIn w t L wr) {n s n' s' : Int} (hi : PIn (n, s)) (hi' : PIn (n', s')) {v : Value} {c : Int} (hv : readyV L n s n' s' = v) (hc : bothC L n s n' s' = c) :
    Calls Try.prog 37 #[.pointer (some ⟨t, 0, none⟩), .agg #[.int .i64 n, .int .i64 s], .agg #[.int .i64 n', .int .i64 s']] wr fun e w' => e = .returned (.tuple #[v, .int .i64 c]) ∧ Kp [] wr w' := by subst hv hc; exact dready_calls h hi hi'
theorem Tch.pre {w wr W w' : World} {t : Nat} (k : Kp [] wr W) (T : Tch w t W w') : Tch w t wr w' := by
  obtain ⟨S, k', hS⟩ := T
  refine ⟨S, k.trans k' (by simp) (fun i m => .inl m), fun i m => ⟨(hS i m).1, (hS i m).2.imp id (fun q c T z e => ?_)⟩⟩
  have hlt : i < wr.heap.size := (Array.getElem?_eq_some_iff.1 e).1
  exact q c T z ((k.block i hlt (by simp)).trans e)
theorem tput_any {w wr : World} {t : Nat} {L L' : List Sl} (h : TabIn w t L wr) {n s k o z b r u v : Int} (hi : PIn (n, s)) (hu : PIn (u, v)) (hL : L.length < 65536) (e : putR L n s k o z b r u v = L') :
    Calls Try.prog 9 #[.pointer (some ⟨t, 0, none⟩), .agg #[.int .i64 n, .int .i64 s], .agg #[.int .i64 k, .int .i64 o, .int .i64 z, .int .i64 b, .int .i64 r], .agg #[.int .i64 u, .int .i64 v]] wr (TInP w t L' wr (.bool (putOk L n s k o z b r u v))) := by
  unfold putR at e
  by_cases hp : putP L n s k o z b r u v
  · have q := (putOk_iff L n s k o z b r u v).2 hp
    rw [q, if_pos rfl] at e
    rw [q]
    exact tput_yes h hi hu hp hL e
  · have q : putOk L n s k o z b r u v = false := by rw [← Bool.not_eq_true, putOk_iff]; exact hp
    rw [q, if_neg (by simp)] at e
    rw [q, ← e]
    exact tput_no h hi hu hp
set_option maxRecDepth 4000 in
set_option maxHeartbeats 1000000 in
theorem dput_calls {w wr : World} {t : Nat} {L L' : List Sl} (h : TabIn w t L wr) {n s n' s' k o z b r : Int} (hi : PIn (n, s)) (hi' : PIn (n', s')) (hL : L.length < 65536) (e : putR L n' s' k o z b r n s = L') :
    Calls Try.prog 39 #[.pointer (some ⟨t, 0, none⟩), .agg #[.int .i64 n, .int .i64 s], .agg #[.int .i64 n', .int .i64 s'], .agg #[.int .i64 k, .int .i64 o, .int .i64 z, .int .i64 b, .int .i64 r]] wr (TInP w t L' wr (.tuple #[])) := by
  have K0 := hide ((((Kp.refl [] wr).alloc (.cells #[.int .i64 n, .int .i64 s] 35)).alloc (.cells #[.int .i64 n', .int .i64 s'] 35)).alloc (.cells #[.int .i64 k, .int .i64 o, .int .i64 z, .int .i64 b, .int .i64 r] 37))
  have H := hide h
  replace e := hide e
  clear h
  go_enter Try.func39, Try.ntmps39
  go_wp2_with fail
  refine (tput_any ((unhide H).grew (unhide K0)) hi' hi hL (unhide e)).mono ?_
  rintro e' V ⟨rfl, X, T⟩
  replace X := hide X
  replace T := hide (Tch.pre (unhide K0) T)
  clear K0
  go_wp2
  refine bodyPost_ret (v := .tuple #[]) (by simp [results, Try.results39, go_sem, *]) rfl ⟨rfl, unhide X, unhide T⟩
theorem less_at (k o s b r m r' : Int) (w : World) (h : lessR r m = r') :
    Calls Try.prog 44 #[.agg #[.int .i64 k, .int .i64 o, .int .i64 s, .int .i64 b, .int .i64 r], .int .i64 m] w fun e w' => e = .returned (.agg #[.int .i64 k, .int .i64 o, .int .i64 s, .int .i64 b, .int .i64 r']) ∧ Kp [] w w' := by subst h; exact less_calls k o s b r m w
set_option maxRecDepth 4000 in
set_option maxHeartbeats 4000000 in
theorem dcopy {w wr : World} {t : Nat} {L L' : List Sl} (h : TabIn w t L wr) {n s n' s' m c : Int} (hi : PIn (n, s)) (hi' : PIn (n', s')) (hm : In64 m) (hL : L.length < 65536) (hc : copyC L n s n' s' m = c) (hl : copyL L n s n' s' m = L') :
    Calls Try.prog 16 #[.pointer (some ⟨t, 0, none⟩), .agg #[.int .i64 n, .int .i64 s], .agg #[.int .i64 n', .int .i64 s'], .int .i64 m] wr (TInP w t L' wr (.int .i64 c)) := by
  unfold copyL at hl
  rw [hc] at hl
  unfold copyC at hc
  obtain ⟨bc, hbc⟩ : ∃ bc, bothC L n s n' s' = bc := ⟨_, rfl⟩
  obtain ⟨b0, b1, k0⟩ := two_bx wr n s n' s'
  have H := hide h
  have xlt := hide h.lt
  replace b0 := hide b0
  replace b1 := hide b1
  replace k0 := hide k0
  clear h
  rw [hbc] at hc
  clear hm
  by_cases hz : bc = 0
  · subst hz
    obtain ⟨⟨yn, ys, yu, yv, yk, yo, yz, yb, yr⟩, hy⟩ := both_zero hbc
    rw [hy] at hl
    simp only at hl
    rw [if_neg (by simp)] at hc
    have hcap : readyV L n s n' s' = .agg #[.int .i64 yk, .int .i64 yo, .int .i64 yz, .int .i64 yb, .int .i64 yr] := by unfold readyV; rw [hbc, if_pos rfl, hy]; rfl
    replace hcap := hide hcap
    replace hbc := hide hbc
    replace hy := hide hy
    by_cases hm : m < 0 ∨ 7 < m
    · rw [if_pos hm] at hc
      subst hc
      rw [if_neg (by decide)] at hl
      subst hl
      go_enter Try.func16, Try.ntmps16
      go_wp2_with fail
      refine (dready_to ((unhide H).grew (unhide k0)) hi hi' (unhide hcap) (unhide hbc)).mono ?_
      rintro e W1 ⟨rfl, K1⟩
      have K2 := hide (((unhide k0).then K1).alloc (.cells #[.int .i64 yk, .int .i64 yo, .int .i64 yz, .int .i64 yb, .int .i64 yr] 37))
      clear K1
      by_cases hm0 : m < 0
      · replace hm := hide hm
        go_wp2
        go_ret
        exact ⟨rfl, (unhide H).grew (unhide K2), .of (unhide K2)⟩
      · have hm1 : 7 < m := by omega
        have hd0 : decide (m < 0) = false := decide_eq_false hm0
        replace hm := hide hm
        go_wp2
        go_ret
        exact ⟨rfl, (unhide H).grew (unhide K2), .of (unhide K2)⟩
    · rw [if_neg hm] at hc
      subst hc
      rw [if_pos rfl] at hl
      have hd0 : decide (m < 0) = false := decide_eq_false (by omega)
      have hd1 : decide (7 < m) = false := decide_eq_false (by omega)
      obtain ⟨r', hr'⟩ : ∃ r', lessR yr m = r' := ⟨_, rfl⟩
      rw [hr'] at hl
      replace hr' := hide hr'
      replace hm := hide hm
      replace hl := hide hl
      go_enter Try.func16, Try.ntmps16
      go_wp2_with fail
      refine (dready_to ((unhide H).grew (unhide k0)) hi hi' (unhide hcap) (unhide hbc)).mono ?_
      rintro e W1 ⟨rfl, K1⟩
      have K2 := hide (((unhide k0).then K1).alloc (.cells #[.int .i64 yk, .int .i64 yo, .int .i64 yz, .int .i64 yb, .int .i64 yr] 37))
      have C2 := hide (Bk.new W1 37 [.int .i64 yk, .int .i64 yo, .int .i64 yz, .int .i64 yb, .int .i64 yr])
      have F2 := hide (((unhide b0).kept K1 (by simp)).alloc (.cells #[.int .i64 yk, .int .i64 yo, .int .i64 yz, .int .i64 yb, .int .i64 yr] 37))
      have T2 := hide (((unhide b1).kept K1 (by simp)).alloc (.cells #[.int .i64 yk, .int .i64 yo, .int .i64 yz, .int .i64 yb, .int .i64 yr] 37))
      have hx1 : Hid (wr.heap.size ≠ t ∧ wr.heap.size + 1 ≠ t ∧ W1.heap.size ≠ t) := by
        have h1 := unhide xlt
        have h2 := ((unhide k0).then K1).size
        unfold Hid
        omega
      clear K1
      go_wp2_with fail
      generalize W1.alloc (.cells #[.int .i64 yk, .int .i64 yo, .int .i64 yz, .int .i64 yb, .int .i64 yr] 37) = W2 at *
      have hS : Hid (∀ w', Tch w t W2 w' → (fun w' => w'.cell? ⟨wr.heap.size, 0, none⟩ = some (.int .i64 n) ∧ w'.cell? ⟨wr.heap.size, 1, none⟩ = some (.int .i64 s) ∧ w'.cell? ⟨wr.heap.size + 1, 0, none⟩ = some (.int .i64 n') ∧ w'.cell? ⟨wr.heap.size + 1, 1, none⟩ = some (.int .i64 s') ∧ w'.cell? ⟨W1.heap.size, 0, none⟩ = some (.int .i64 yk) ∧ w'.cell? ⟨W1.heap.size, 1, none⟩ = some (.int .i64 yo) ∧ w'.cell? ⟨W1.heap.size, 2, none⟩ = some (.int .i64 yz) ∧ w'.cell? ⟨W1.heap.size, 3, none⟩ = some (.int .i64 yb) ∧ w'.cell? ⟨W1.heap.size, 4, none⟩ = some (.int .i64 yr)) w') := fun w' K => by
        obtain ⟨x1, x2, x3⟩ := unhide hx1
        have F := K.bk (unhide F2) x1
        have T := K.bk (unhide T2) x2
        have C := K.bk (unhide C2) x3
        exact ⟨F.cell rfl, F.cell rfl, T.cell rfl, T.cell rfl, C.cell rfl, C.cell rfl, C.cell rfl, C.cell rfl, C.cell rfl⟩
      have K3 := hide ((Kp.refl [] W2).drew)
      go_region_held3 (fun w' => w'.cell? ⟨wr.heap.size, 0, none⟩ = some (.int .i64 n) ∧ w'.cell? ⟨wr.heap.size, 1, none⟩ = some (.int .i64 s) ∧ w'.cell? ⟨wr.heap.size + 1, 0, none⟩ = some (.int .i64 n') ∧ w'.cell? ⟨wr.heap.size + 1, 1, none⟩ = some (.int .i64 s') ∧ w'.cell? ⟨W1.heap.size, 0, none⟩ = some (.int .i64 yk) ∧ w'.cell? ⟨W1.heap.size, 1, none⟩ = some (.int .i64 yo) ∧ w'.cell? ⟨W1.heap.size, 2, none⟩ = some (.int .i64 yz) ∧ w'.cell? ⟨W1.heap.size, 3, none⟩ = some (.int .i64 yb) ∧ w'.cell? ⟨W1.heap.size, 4, none⟩ = some (.int .i64 yr)) (first | exact unhide hS _ (unhide K5) | exact unhide hS _ (.of (unhide K4)) | exact unhide hS _ (.of (unhide K3))) (first
        | (go_at_call 44; refine (less_at yk yo yz yb yr m r' _ (unhide hr')).mono ?_; rintro e V ⟨rfl, kk⟩; have K4 := hide ((unhide K3).then kk); clear kk)
        | (go_at_call 39; refine (dput_calls ((unhide H).grew ((unhide K2).then (unhide K4))) hi hi' hL (unhide hl)).mono ?_; rintro e V ⟨rfl, X, TT⟩; have K5 := hide (Tch.pre (unhide K4) TT); replace X := hide X; clear TT))
      all_goals
        go_wp2
        go_ret
        exact ⟨rfl, unhide X, Tch.pre (unhide K2) (unhide K5)⟩
  · rw [if_pos hz] at hc
    subst hc
    rw [if_neg hz] at hl
    subst hl
    have hcap : readyV L n s n' s' = .agg #[.int .i64 0, .int .i64 0, .int .i64 0, .int .i64 0, .int .i64 0] := by unfold readyV; rw [hbc, if_neg hz]; rfl
    have hz' : (bc != 0) = true := by simp [hz]
    replace hcap := hide hcap
    replace hbc := hide hbc
    replace hz := hide hz
    go_enter Try.func16, Try.ntmps16
    go_wp2_with fail
    refine (dready_to ((unhide H).grew (unhide k0)) hi hi' (unhide hcap) (unhide hbc)).mono ?_
    rintro e W1 ⟨rfl, K1⟩
    have K2 := hide (((unhide k0).then K1).alloc (.cells #[.int .i64 0, .int .i64 0, .int .i64 0, .int .i64 0, .int .i64 0] 37))
    clear K1
    go_wp2
    go_ret
    exact ⟨rfl, (unhide H).grew (unhide K2), .of (unhide K2)⟩
set_option maxRecDepth 4000 in
set_option maxHeartbeats 4000000 in
theorem dmint {w wr : World} {t : Nat} {L L' : List Sl} (h : TabIn w t L wr) {n s n' s' m c : Int} (hi : PIn (n, s)) (hi' : PIn (n', s')) (hm : 0 ≤ m ∧ m < 4294967296) (hL : L.length < 65536) (hc : mintC L n s n' s' m = c) (hl : mintL L n s n' s' m = L') :
    Calls Try.prog 12 #[.pointer (some ⟨t, 0, none⟩), .agg #[.int .i64 n, .int .i64 s], .agg #[.int .i64 n', .int .i64 s'], .int .u32 m] wr (TInP w t L' wr (.int .i64 c)) := by
  unfold mintL at hl
  rw [hc] at hl
  unfold mintC at hc
  obtain ⟨bc, hbc⟩ : ∃ bc, bothC L n s n' s' = bc := ⟨_, rfl⟩
  obtain ⟨b0, b1, k0⟩ := two_bx wr n s n' s'
  have H := hide h
  have xlt := hide h.lt
  replace b0 := hide b0
  replace b1 := hide b1
  replace k0 := hide k0
  clear h
  rw [hbc] at hc
  by_cases hz : bc = 0
  · subst hz
    obtain ⟨⟨yn, ys, yu, yv, yk, yo, yz, yb, yr⟩, hy⟩ := both_zero hbc
    rw [if_neg (by simp)] at hc
    have hmb : mintB L n s m = bdg yk yo yz yb yr m := by unfold mintB; rw [hy]
    obtain ⟨⟨dk, dO, dz, db, dr, dc⟩, hd⟩ : ∃ d, bdg yk yo yz yb yr m = d := ⟨_, rfl⟩
    rw [hmb, hd] at hl hc
    simp only at hl hc
    subst hc
    have hcap : readyV L n s n' s' = .agg #[.int .i64 yk, .int .i64 yo, .int .i64 yz, .int .i64 yb, .int .i64 yr] := by unfold readyV; rw [hbc, if_pos rfl, hy]; rfl
    replace hcap := hide hcap
    replace hbc := hide hbc
    replace hy := hide hy
    replace hd := hide hd
    replace hmb := hide hmb
    replace hl := hide hl
    go_enter Try.func12, Try.ntmps12
    go_wp2_with fail
    refine (dready_to ((unhide H).grew (unhide k0)) hi hi' (unhide hcap) (unhide hbc)).mono ?_
    rintro e W1 ⟨rfl, K1⟩
    have K2 := hide (((unhide k0).then K1).alloc (.cells #[.int .i64 yk, .int .i64 yo, .int .i64 yz, .int .i64 yb, .int .i64 yr] 37))
    have F2 := hide (((unhide b0).kept K1 (by simp)).alloc (.cells #[.int .i64 yk, .int .i64 yo, .int .i64 yz, .int .i64 yb, .int .i64 yr] 37))
    have T2 := hide (((unhide b1).kept K1 (by simp)).alloc (.cells #[.int .i64 yk, .int .i64 yo, .int .i64 yz, .int .i64 yb, .int .i64 yr] 37))
    clear K1
    go_wp2_with fail
    refine (badge_calls yk yo yz yb yr m _ dk dO dz db dr dc (unhide hd) hm.1 hm.2).mono ?_
    rintro e W3 ⟨rfl, K3⟩
    have K4 := hide (((unhide K2).then K3).alloc (.cells #[.int .i64 dk, .int .i64 dO, .int .i64 dz, .int .i64 db, .int .i64 dr] 37))
    have F4 := ((unhide F2).kept K3 (by simp)).alloc (.cells #[.int .i64 dk, .int .i64 dO, .int .i64 dz, .int .i64 db, .int .i64 dr] 37)
    have T4 := ((unhide T2).kept K3 (by simp)).alloc (.cells #[.int .i64 dk, .int .i64 dO, .int .i64 dz, .int .i64 db, .int .i64 dr] 37)
    have f0 := F4.cell (i := 0) rfl
    have f1 := F4.cell (i := 1) rfl
    have t0 := T4.cell (i := 0) rfl
    have t1 := T4.cell (i := 1) rfl
    clear K3 F4 T4 F2 T2
    by_cases hz : dc = 0
    · subst hz
      have hl2 := unhide hl
      rw [if_pos rfl] at hl2
      replace hl2 := hide hl2
      go_wp2_with fail
      refine (dput_calls ((unhide H).grew (unhide K4)) hi hi' hL (unhide hl2)).mono ?_
      rintro e V ⟨rfl, X, TT⟩
      have K5 := hide (Tch.pre (unhide K4) TT)
      replace X := hide X
      clear TT
      go_wp2
      go_ret
      exact ⟨rfl, unhide X, unhide K5⟩
    · have hl2 := unhide hl
      rw [if_neg hz] at hl2
      subst hl2
      have hz' : (dc != 0) = true := by simp [hz]
      replace hz := hide hz
      go_wp2
      go_ret
      exact ⟨rfl, (unhide H).grew (unhide K4), .of (unhide K4)⟩
  · rw [if_pos hz] at hc
    subst hc
    rw [if_neg hz] at hl
    subst hl
    have hcap : readyV L n s n' s' = .agg #[.int .i64 0, .int .i64 0, .int .i64 0, .int .i64 0, .int .i64 0] := by unfold readyV; rw [hbc, if_neg hz]; rfl
    have hz' : (bc != 0) = true := by simp [hz]
    replace hcap := hide hcap
    replace hbc := hide hbc
    replace hz := hide hz
    go_enter Try.func12, Try.ntmps12
    go_wp2_with fail
    refine (dready_to ((unhide H).grew (unhide k0)) hi hi' (unhide hcap) (unhide hbc)).mono ?_
    rintro e W1 ⟨rfl, K1⟩
    have K2 := hide (((unhide k0).then K1).alloc (.cells #[.int .i64 0, .int .i64 0, .int .i64 0, .int .i64 0, .int .i64 0] 37))
    clear K1
    go_wp2
    go_ret
    exact ⟨rfl, (unhide H).grew (unhide K2), .of (unhide K2)⟩
set_option maxRecDepth 4000 in
set_option maxHeartbeats 4000000 in
theorem dmove {w wr : World} {t : Nat} {L L' : List Sl} (h : TabIn w t L wr) {n s n' s' c : Int} (hi : PIn (n, s)) (hi' : PIn (n', s')) (hL : L.length < 65536) (hc : bothC L n s n' s' = c) (hl : moveLL L n s n' s' = L') :
    Calls Try.prog 14 #[.pointer (some ⟨t, 0, none⟩), .agg #[.int .i64 n, .int .i64 s], .agg #[.int .i64 n', .int .i64 s']] wr (TInP w t L' wr (.int .i64 c)) := by
  unfold moveLL at hl
  obtain ⟨bc, hbc⟩ : ∃ bc, bothC L n s n' s' = bc := ⟨_, rfl⟩
  obtain ⟨b0, b1, k0⟩ := two_bx wr n s n' s'
  have H := hide h
  have xlt := hide h.lt
  replace b0 := hide b0
  replace b1 := hide b1
  replace k0 := hide k0
  clear h
  rw [hbc] at hc hl
  subst hc
  by_cases hz : bc = 0
  · subst hz
    obtain ⟨i, y, hii, hy, hp, hn⟩ := both_fine hbc
    rw [if_pos rfl, hii] at hl
    simp only [hy] at hl
    obtain ⟨ck, co, cz, cb, cr, hcap⟩ : ∃ ck co cz cb cr : Int, readyV L n s n' s' = .agg #[.int .i64 ck, .int .i64 co, .int .i64 cz, .int .i64 cb, .int .i64 cr] := by
      unfold readyV
      rw [hbc, if_pos rfl]
      cases lkS L n s with
      | none => exact ⟨0, 0, 0, 0, 0, rfl⟩
      | some y => exact ⟨_, _, _, _, _, rfl⟩
    replace hcap := hide hcap
    replace hbc := hide hbc
    replace hii := hide hii
    replace hy := hide hy
    replace hp := hide hp
    replace hn := hide hn
    replace hl := hide hl
    go_enter Try.func14, Try.ntmps14
    go_wp2_with fail
    refine (dready_to ((unhide H).grew (unhide k0)) hi hi' (unhide hcap) (unhide hbc)).mono ?_
    rintro e W1 ⟨rfl, K1⟩
    have K2 := hide (((unhide k0).then K1).alloc (.cells #[.int .i64 ck, .int .i64 co, .int .i64 cz, .int .i64 cb, .int .i64 cr] 37))
    have F2 := (((unhide b0).kept K1 (by simp)).alloc (.cells #[.int .i64 ck, .int .i64 co, .int .i64 cz, .int .i64 cb, .int .i64 cr] 37))
    have T2 := (((unhide b1).kept K1 (by simp)).alloc (.cells #[.int .i64 ck, .int .i64 co, .int .i64 cz, .int .i64 cb, .int .i64 cr] 37))
    have f0 := F2.cell (i := 0) rfl
    have f1 := F2.cell (i := 1) rfl
    have t0 := T2.cell (i := 0) rfl
    have t1 := T2.cell (i := 1) rfl
    clear K1 F2 T2
    go_wp2_with fail
    refine (tmove_yes ((unhide H).grew (unhide K2)) (unhide hii) (unhide hy) (unhide hp) (unhide hn) (unhide hl)).mono ?_
    rintro e W3 ⟨rfl, X, TT⟩
    have K4 := hide (Tch.pre (unhide K2) TT)
    replace X := hide X
    clear TT
    go_wp2
    go_ret
    exact ⟨rfl, unhide X, unhide K4⟩
  · rw [if_neg hz] at hl
    subst hl
    have hcap : readyV L n s n' s' = .agg #[.int .i64 0, .int .i64 0, .int .i64 0, .int .i64 0, .int .i64 0] := by unfold readyV; rw [hbc, if_neg hz]; rfl
    have hz' : (bc != 0) = true := by simp [hz]
    replace hcap := hide hcap
    replace hbc := hide hbc
    replace hz := hide hz
    go_enter Try.func14, Try.ntmps14
    go_wp2_with fail
    refine (dready_to ((unhide H).grew (unhide k0)) hi hi' (unhide hcap) (unhide hbc)).mono ?_
    rintro e W1 ⟨rfl, K1⟩
    have K2 := hide (((unhide k0).then K1).alloc (.cells #[.int .i64 0, .int .i64 0, .int .i64 0, .int .i64 0, .int .i64 0] 37))
    clear K1
    go_wp2
    go_ret
    exact ⟨rfl, (unhide H).grew (unhide K2), .of (unhide K2)⟩
end Go.Proofs.Ytgpclbkekobaoaa
