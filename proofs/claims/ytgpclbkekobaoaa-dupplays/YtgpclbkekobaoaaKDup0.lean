/- The document's copy, mint, move: may something go from the one to the other? -/
import Derived.Test.YtgpclbkekobaoaaKLk
import Derived.Test.YtgpclbkekobaoaaKCaps
import Derived.Test.YtgpclbkekobaoaaKTab5
import Derived.Test.YtgpclbkekobaoaaKTab9
namespace Go.Proofs.Ytgpclbkekobaoaa
open Go.RowKit
set_option linter.unusedVariables false
def bothC (L : List Sl) (n s n' s' : Int) : Int := match lkS L n s with
  | none => 4
  | some _ => if placeOk n' s' = false then 7 else if (lkS L n' s').isSome = true then 3 else 0
def capOf (o : Option Sl) : Value := match o with | some x => .agg #[.int .i64 x.k, .int .i64 x.o, .int .i64 x.z, .int .i64 x.b, .int .i64 x.r] | none => .agg #[.int .i64 0, .int .i64 0, .int .i64 0, .int .i64 0, .int .i64 0]
theorem rplace_at (n s : Int) (v : Bool) (w : World) (h : placeOk n s = v) :
    Calls Try.prog 34 #[.agg #[.int .i64 n, .int .i64 s]] w fun e w' => e = .returned (.bool v) ∧ Kp [] w w' := by subst h; exact rplace_calls n s w
structure Db (w : World) (t : Nat) (n' s' : Int) (W : World) : Prop where
  kp : Kp [] w W
  tt : Bk W (t + 1) 35 [.int .i64 n', .int .i64 s']
  res : Bk W (t + 1 + 1) 37 [.int .i64 0, .int .i64 0, .int .i64 0, .int .i64 0, .int .i64 0]
theorem Db.grew {w : World} {t : Nat} {n' s' : Int} {W W' : World} (h : Db w t n' s' W) (k : Kp [] W W') : Db w t n' s' W' := ⟨h.kp.then k, h.tt.kept k (by simp), h.res.kept k (by simp)⟩
theorem Db.facts {w : World} {t : Nat} {n' s' : Int} {W : World} (h : Db w t n' s' W) : (∀ i, W.frozen? ⟨t + 1 + 1, i, none⟩ = false) ∧ (W.cell? ⟨t + 1 + 1, 0, none⟩ = some (.int .i64 0) ∧ W.cell? ⟨t + 1 + 1, 1, none⟩ = some (.int .i64 0) ∧ W.cell? ⟨t + 1 + 1, 2, none⟩ = some (.int .i64 0) ∧ W.cell? ⟨t + 1 + 1, 3, none⟩ = some (.int .i64 0) ∧ W.cell? ⟨t + 1 + 1, 4, none⟩ = some (.int .i64 0)) ∧ W.cell? ⟨t + 1, 0, none⟩ = some (.int .i64 n') ∧ W.cell? ⟨t + 1, 1, none⟩ = some (.int .i64 s') :=
  ⟨h.res.frozen, ⟨h.res.cell rfl, h.res.cell rfl, h.res.cell rfl, h.res.cell rfl, h.res.cell rfl⟩, h.tt.cell rfl, h.tt.cell rfl⟩
theorem db_start (w : World) (n s n' s' : Int) : Db w w.heap.size n' s' (((w.alloc (.cells #[.int .i64 n, .int .i64 s] 35)).alloc (.cells #[.int .i64 n', .int .i64 s'] 35)).alloc (.cells #[.int .i64 0, .int .i64 0, .int .i64 0, .int .i64 0, .int .i64 0] 37)) :=
  ⟨(((Kp.refl [] w).alloc _).alloc _).alloc _, (Bk.next (p := w.heap.size + 1) _ _ [.int .i64 n', .int .i64 s'] (by simp)).alloc _, Bk.next (p := w.heap.size + 1 + 1) _ _ [.int .i64 0, .int .i64 0, .int .i64 0, .int .i64 0, .int .i64 0] (by simp)⟩
set_option maxRecDepth 4000 in
set_option maxHeartbeats 2000000 in
theorem rboth_calls {base x : Nat} {w : World} {ra : Option Addr} {rc : Nat} {L : List Sl} (h : RT base w x ra rc L) (n s n' s' : Int) :
    Calls Try.prog 40 #[.pointer (some ⟨x, 0, none⟩), .agg #[.int .i64 n, .int .i64 s], .agg #[.int .i64 n', .int .i64 s']] w fun e w' => e = .returned (.tuple #[capOf (lkS L n s), .int .i64 (bothC L n s n' s')]) ∧ Kp [] w w' := by
  obtain ⟨R, hR⟩ : ∃ R, Value.tuple #[capOf (lkS L n s), .int .i64 (bothC L n s n' s')] = R := ⟨_, rfl⟩
  rw [hR]
  unfold bothC at hR
  have R0 := hide (db_start w n s n' s')
  obtain ⟨t, et⟩ : ∃ t, w.heap.size = t := ⟨_, rfl⟩
  rw [et] at R0
  have hsz : Hid (w.heap.size ≤ t) := by unfold Hid; omega
  have H := hide h
  have hN := rget_lk (h.grew (unhide R0).kp) n s
  clear h
  rcases hN with ⟨hn, hc⟩ | ⟨y, hy, hc⟩
  · rw [hn] at hR
    simp only [capOf] at hR
    subst hR
    replace hn := hide hn
    replace hc := hide hc
    go_enter Try.func40, Try.ntmps40
    go_wp2_with fail
    refine (unhide hc).mono ?_
    rintro e W1 ⟨rfl, K1⟩
    have R1 := hide ((unhide R0).grew (K1.alloc (.cells #[.int .i64 0, .int .i64 0, .int .i64 0, .int .i64 0, .int .i64 0] 37)))
    obtain ⟨f1, ⟨u0, u1, u2, u3, u4⟩, v0, v1⟩ := (unhide R1).facts
    clear et hc R0 K1
    go_wp2
    refine bodyPost_ret (v := .tuple #[.agg #[.int .i64 0, .int .i64 0, .int .i64 0, .int .i64 0, .int .i64 0], .int .i64 4]) (by simp [results, Try.results40, go_sem, *]) rfl ⟨rfl, ?_⟩
    exact kp_put5 (unhide R1).kp (.inr (by have := unhide hsz; omega)) _ _ _ _ _
  · rw [hy] at hR
    obtain ⟨yn, ys, yu, yv, yk, yo, yz, yb, yr⟩ := y
    simp only [capOf] at hR
    simp only at hc
    replace hR := hide hR
    replace hy := hide hy
    replace hc := hide hc
    cases hp : placeOk n' s'
    · have hR2 := unhide hR
      rw [hp, if_pos rfl] at hR2
      subst hR2
      replace hp := hide hp
      clear hR
      go_enter Try.func40, Try.ntmps40
      go_wp2_with fail
      refine (unhide hc).mono ?_
      rintro e W1 ⟨rfl, K1⟩
      have R1 := hide ((unhide R0).grew (K1.alloc (.cells #[.int .i64 yk, .int .i64 yo, .int .i64 yz, .int .i64 yb, .int .i64 yr] 37)))
      have C1 := hide (Bk.new W1 37 [.int .i64 yk, .int .i64 yo, .int .i64 yz, .int .i64 yb, .int .i64 yr])
      obtain ⟨f1, ⟨u0, u1, u2, u3, u4⟩, v0, v1⟩ := (unhide R1).facts
      clear et hc R0 K1
      go_wp2_with fail
      refine (rplace_at n' s' false _ (unhide hp)).mono ?_
      rintro e W2 ⟨rfl, K2⟩
      have R2 := hide ((unhide R1).grew K2)
      have C2 := (unhide C1).kept K2 (by simp)
      have k0 := C2.cell (i := 0) rfl
      have k1 := C2.cell (i := 1) rfl
      have k2 := C2.cell (i := 2) rfl
      have k3 := C2.cell (i := 3) rfl
      have k4 := C2.cell (i := 4) rfl
      clear f1 u0 u1 u2 u3 u4 v0 v1
      obtain ⟨f1, ⟨u0, u1, u2, u3, u4⟩, v0, v1⟩ := (unhide R2).facts
      clear R1 C1 C2 K2
      go_wp2
      refine bodyPost_ret (v := .tuple #[.agg #[.int .i64 yk, .int .i64 yo, .int .i64 yz, .int .i64 yb, .int .i64 yr], .int .i64 7]) (by simp [results, Try.results40, go_sem, *]) rfl ⟨rfl, ?_⟩
      exact kp_put5 (unhide R2).kp (.inr (by have := unhide hsz; omega)) _ _ _ _ _
    · have hR2 := unhide hR
      rw [hp, if_neg (by simp)] at hR2
      replace hR2 := hide hR2
      replace hp := hide hp
      clear hR
      go_enter Try.func40, Try.ntmps40
      go_wp2_with fail
      refine (unhide hc).mono ?_
      rintro e W1 ⟨rfl, K1⟩
      have R1 := hide ((unhide R0).grew (K1.alloc (.cells #[.int .i64 yk, .int .i64 yo, .int .i64 yz, .int .i64 yb, .int .i64 yr] 37)))
      have C1 := hide (Bk.new W1 37 [.int .i64 yk, .int .i64 yo, .int .i64 yz, .int .i64 yb, .int .i64 yr])
      obtain ⟨f1, ⟨u0, u1, u2, u3, u4⟩, v0, v1⟩ := (unhide R1).facts
      clear et hc R0 K1
      go_wp2_with fail
      refine (rplace_at n' s' true _ (unhide hp)).mono ?_
      rintro e W2 ⟨rfl, K2⟩
      have R2 := hide ((unhide R1).grew K2)
      have C2 := hide ((unhide C1).kept K2 (by simp))
      clear f1 u0 u1 u2 u3 u4 v0 v1
      obtain ⟨f1, ⟨u0, u1, u2, u3, u4⟩, v0, v1⟩ := (unhide R2).facts
      clear R1 C1 K2
      rcases rget_lk ((unhide H).grew (unhide R2).kp) n' s' with ⟨hn2, hc2⟩ | ⟨y2, hy2, hc2⟩
      · have hR3 := unhide hR2
        rw [hn2, if_neg (by simp)] at hR3
        subst hR3
        clear hR2
        replace hc2 := hide hc2
        replace hn2 := hide hn2
        go_wp2_with fail
        refine (unhide hc2).mono ?_
        rintro e W3 ⟨rfl, K3⟩
        replace K3 := K3.alloc (.cells #[.int .i64 0, .int .i64 0, .int .i64 0, .int .i64 0, .int .i64 0] 37)
        have R3 := hide ((unhide R2).grew K3)
        have C3 := (unhide C2).kept K3 (by simp)
        have k0 := C3.cell (i := 0) rfl
        have k1 := C3.cell (i := 1) rfl
        have k2 := C3.cell (i := 2) rfl
        have k3 := C3.cell (i := 3) rfl
        have k4 := C3.cell (i := 4) rfl
        clear f1 u0 u1 u2 u3 u4 v0 v1
        obtain ⟨f1, ⟨u0, u1, u2, u3, u4⟩, v0, v1⟩ := (unhide R3).facts
        clear R2 C2 C3 K3 hc2
        go_wp2
        refine bodyPost_ret (v := .tuple #[.agg #[.int .i64 yk, .int .i64 yo, .int .i64 yz, .int .i64 yb, .int .i64 yr], .int .i64 0]) (by simp [results, Try.results40, go_sem, *]) rfl ⟨rfl, ?_⟩
        exact kp_put5 (unhide R3).kp (.inr (by have := unhide hsz; omega)) _ _ _ _ _
      · have hR3 := unhide hR2
        rw [hy2, if_pos (show (some y2).isSome = true from rfl)] at hR3
        subst hR3
        clear hR2
        obtain ⟨qn, qs, qu, qv, qk, qo, qz, qb, qr⟩ := y2
        simp only at hc2
        replace hc2 := hide hc2
        replace hy2 := hide hy2
        go_wp2_with fail
        refine (unhide hc2).mono ?_
        rintro e W3 ⟨rfl, K3⟩
        replace K3 := K3.alloc (.cells #[.int .i64 qk, .int .i64 qo, .int .i64 qz, .int .i64 qb, .int .i64 qr] 37)
        have R3 := hide ((unhide R2).grew K3)
        have C3 := (unhide C2).kept K3 (by simp)
        have k0 := C3.cell (i := 0) rfl
        have k1 := C3.cell (i := 1) rfl
        have k2 := C3.cell (i := 2) rfl
        have k3 := C3.cell (i := 3) rfl
        have k4 := C3.cell (i := 4) rfl
        clear f1 u0 u1 u2 u3 u4 v0 v1
        obtain ⟨f1, ⟨u0, u1, u2, u3, u4⟩, v0, v1⟩ := (unhide R3).facts
        clear R2 C2 C3 K3 hc2
        go_wp2
        refine bodyPost_ret (v := .tuple #[.agg #[.int .i64 yk, .int .i64 yo, .int .i64 yz, .int .i64 yb, .int .i64 yr], .int .i64 3]) (by simp [results, Try.results40, go_sem, *]) rfl ⟨rfl, ?_⟩
        exact kp_put5 (unhide R3).kp (.inr (by have := unhide hsz; omega)) _ _ _ _ _
/-- May it be put? As a Bool. -/
def putOk (L : List Sl) (n s k o z b r u v : Int) : Bool := placeOk n s && ((atL L n s).isNone && (chk k o z b r && ((u == 0 && v == 0) || (atL L u v).isSome)))
theorem putOk_iff (L : List Sl) (n s k o z b r u v : Int) : putOk L n s k o z b r u v = true ↔ putP L n s k o z b r u v := by
  unfold putOk putP
  simp only [Bool.and_eq_true, Bool.or_eq_true, Option.isNone_iff_eq_none, beq_iff_eq]
  constructor
  · rintro ⟨h1, h2, h3, h4⟩
    exact ⟨h1, h2, h3, h4.imp id (fun q e => by rw [e] at q; cases q)⟩
  · rintro ⟨h1, h2, h3, h4⟩
    refine ⟨h1, h2, h3, h4.imp id (fun q => ?_)⟩
    cases h : atL L u v with
    | none => exact absurd h q
    | some i => rfl
/-- What Put leaves. -/
def putR (L : List Sl) (n s k o z b r u v : Int) : List Sl := if putOk L n s k o z b r u v = true then insL L ⟨n, s, u, v, k, o, z, b, r⟩ else L
theorem rput_any {base x : Nat} {w : World} {ra : Option Addr} {rc : Nat} {L : List Sl} (h : RT base w x ra rc L) (n s k o z b r u v : Int) (hL : L.length < 65536) :
    Calls Try.prog 10 #[.pointer (some ⟨x, 0, none⟩), .agg #[.int .i64 n, .int .i64 s], .agg #[.int .i64 k, .int .i64 o, .int .i64 z, .int .i64 b, .int .i64 r], .agg #[.int .i64 u, .int .i64 v]] w fun e w' => e = .returned (.bool (putOk L n s k o z b r u v)) ∧ (∃ ra rc, RT base w' x ra rc (putR L n s k o z b r u v)) ∧ Kp [x] w w' := by
  unfold putR
  by_cases hp : putP L n s k o z b r u v
  · have e := (putOk_iff L n s k o z b r u v).2 hp
    rw [e, if_pos rfl]
    exact (rput_yes h n s k o z b r u v hp hL).mono fun e w' q => ⟨q.1, by obtain ⟨a, c, r, _⟩ := q.2; exact ⟨a, c, r⟩, by obtain ⟨a, c, _, k⟩ := q.2; exact k⟩
  · have e : putOk L n s k o z b r u v = false := by rw [← Bool.not_eq_true, putOk_iff]; exact hp
    rw [e, if_neg (by simp)]
    exact (rput_no h n s k o z b r u v hp).mono fun e w' q => ⟨q.1, ⟨ra, rc, h.grew q.2⟩, q.2.mono (by simp)⟩
def copyC (L : List Sl) (n s n' s' m : Int) : Int := if bothC L n s n' s' ≠ 0 then bothC L n s n' s' else if m < 0 ∨ 7 < m then 7 else 0
def copyL (L : List Sl) (n s n' s' m : Int) : List Sl := if copyC L n s n' s' m = 0 then (match lkS L n s with | some y => putR L n' s' y.k y.o y.z y.b (lessR y.r m) n s | none => L) else L
theorem both_zero {L : List Sl} {n s n' s' : Int} (h : bothC L n s n' s' = 0) : ∃ y, lkS L n s = some y := by
  unfold bothC at h
  cases hy : lkS L n s with
  | none => rw [hy] at h; cases h
  | some y => exact ⟨y, rfl⟩
theorem rboth_to {base x : Nat} {w : World} {ra : Option Addr} {rc : Nat} {L : List Sl} (h : RT base w x ra rc L) (n s n' s' : Int) {v : Value} {c : Int} (hv : capOf (lkS L n s) = v) (hc : bothC L n s n' s' = c) :
    Calls Try.prog 40 #[.pointer (some ⟨x, 0, none⟩), .agg #[.int .i64 n, .int .i64 s], .agg #[.int .i64 n', .int .i64 s']] w fun e w' => e = .returned (.tuple #[v, .int .i64 c]) ∧ Kp [] w w' := by subst hv hc; exact rboth_calls h n s n' s'
/-- A code, the slots, and nothing else of memory. -/
def DupP (base x : Nat) (w : World) (c : Int) (L : List Sl) (e : Ending) (w' : World) : Prop := e = .returned (.int .i64 c) ∧ (∃ ra rc, RT base w' x ra rc L) ∧ Kp [x] w w'
theorem rless_to (k o s b r m r' : Int) (w : World) (h : lessR r m = r') :
    Calls Try.prog 45 #[.agg #[.int .i64 k, .int .i64 o, .int .i64 s, .int .i64 b, .int .i64 r], .int .i64 m] w fun e w' => e = .returned (.agg #[.int .i64 k, .int .i64 o, .int .i64 s, .int .i64 b, .int .i64 r']) ∧ Kp [] w w' := by subst h; exact rless_calls k o s b r m w
theorem two_bx (w : World) (n s n' s' : Int) : Bk ((w.alloc (.cells #[.int .i64 n, .int .i64 s] 35)).alloc (.cells #[.int .i64 n', .int .i64 s'] 35)) w.heap.size 35 [.int .i64 n, .int .i64 s] ∧ Bk ((w.alloc (.cells #[.int .i64 n, .int .i64 s] 35)).alloc (.cells #[.int .i64 n', .int .i64 s'] 35)) (w.heap.size + 1) 35 [.int .i64 n', .int .i64 s'] ∧ Kp [] w ((w.alloc (.cells #[.int .i64 n, .int .i64 s] 35)).alloc (.cells #[.int .i64 n', .int .i64 s'] 35)) :=
  ⟨(Bk.new w _ [.int .i64 n, .int .i64 s]).alloc _, Bk.next (p := w.heap.size + 1) _ _ [.int .i64 n', .int .i64 s'] (by simp), ((Kp.refl [] w).alloc _).alloc _⟩
set_option maxRecDepth 4000 in
set_option maxHeartbeats 2000000 in
theorem rcopy_calls {base x : Nat} {w : World} {ra : Option Addr} {rc : Nat} {L : List Sl} (h : RT base w x ra rc L) (n s n' s' m : Int) (hL : L.length < 65536) :
    Calls Try.prog 17 #[.pointer (some ⟨x, 0, none⟩), .agg #[.int .i64 n, .int .i64 s], .agg #[.int .i64 n', .int .i64 s'], .int .i64 m] w (DupP base x w (copyC L n s n' s' m) (copyL L n s n' s' m)) := by
  obtain ⟨R, hR⟩ : ∃ R, copyC L n s n' s' m = R := ⟨_, rfl⟩
  obtain ⟨L', hL'⟩ : ∃ L', copyL L n s n' s' m = L' := ⟨_, rfl⟩
  rw [hR, hL']
  unfold copyL at hL'
  rw [hR] at hL'
  unfold copyC at hR
  obtain ⟨bc, hbc⟩ : ∃ bc, bothC L n s n' s' = bc := ⟨_, rfl⟩
  rw [hbc] at hR
  obtain ⟨b0, b1, k0⟩ := two_bx w n s n' s'
  have H := hide h
  have xlt := hide h.head.lt
  replace b0 := hide b0
  replace b1 := hide b1
  replace k0 := hide k0
  clear h
  by_cases hz : bc = 0
  · subst hz
    obtain ⟨⟨yn, ys, yu, yv, yk, yo, yz, yb, yr⟩, hy⟩ := both_zero hbc
    rw [hy] at hL'
    simp only at hL'
    rw [if_neg (by simp)] at hR
    have hcap : capOf (lkS L n s) = .agg #[.int .i64 yk, .int .i64 yo, .int .i64 yz, .int .i64 yb, .int .i64 yr] := by rw [hy]; rfl
    replace hcap := hide hcap
    replace hbc := hide hbc
    replace hy := hide hy
    by_cases hm : m < 0 ∨ 7 < m
    · rw [if_pos hm] at hR
      subst hR
      rw [if_neg (by decide)] at hL'
      subst hL'
      go_enter Try.func17, Try.ntmps17
      go_wp2_with fail
      refine (rboth_to ((unhide H).grew (unhide k0)) n s n' s' (unhide hcap) (unhide hbc)).mono ?_
      rintro e W1 ⟨rfl, K1⟩
      have K2 := hide (((unhide k0).then K1).alloc (.cells #[.int .i64 yk, .int .i64 yo, .int .i64 yz, .int .i64 yb, .int .i64 yr] 37))
      clear K1
      by_cases hm0 : m < 0
      · replace hm := hide hm
        go_wp2
        go_ret
        exact ⟨rfl, ⟨ra, rc, (unhide H).grew (unhide K2)⟩, (unhide K2).mono (by simp)⟩
      · have hm1 : 7 < m := by omega
        have hd0 : decide (m < 0) = false := decide_eq_false hm0
        replace hm := hide hm
        go_wp2
        go_ret
        exact ⟨rfl, ⟨ra, rc, (unhide H).grew (unhide K2)⟩, (unhide K2).mono (by simp)⟩
    · rw [if_neg hm] at hR
      subst hR
      rw [if_pos rfl] at hL'
      have hd0 : decide (m < 0) = false := decide_eq_false (by omega)
      have hd1 : decide (7 < m) = false := decide_eq_false (by omega)
      obtain ⟨r', hr'⟩ : ∃ r', lessR yr m = r' := ⟨_, rfl⟩
      rw [hr'] at hL'
      replace hr' := hide hr'
      replace hm := hide hm
      replace hL' := hide hL'
      go_enter Try.func17, Try.ntmps17
      go_wp2_with fail
      refine (rboth_to ((unhide H).grew (unhide k0)) n s n' s' (unhide hcap) (unhide hbc)).mono ?_
      rintro e W1 ⟨rfl, K1⟩
      have K2 := hide (((unhide k0).then K1).alloc (.cells #[.int .i64 yk, .int .i64 yo, .int .i64 yz, .int .i64 yb, .int .i64 yr] 37))
      have C2 := hide (Bk.new W1 37 [.int .i64 yk, .int .i64 yo, .int .i64 yz, .int .i64 yb, .int .i64 yr])
      have F2 := hide (((unhide b0).kept K1 (by simp)).alloc (.cells #[.int .i64 yk, .int .i64 yo, .int .i64 yz, .int .i64 yb, .int .i64 yr] 37))
      have T2 := hide (((unhide b1).kept K1 (by simp)).alloc (.cells #[.int .i64 yk, .int .i64 yo, .int .i64 yz, .int .i64 yb, .int .i64 yr] 37))
      have hx1 : Hid (x ≠ w.heap.size ∧ x ≠ w.heap.size + 1 ∧ x ≠ W1.heap.size) := by
        have h1 := unhide xlt
        have h2 := ((unhide k0).then K1).size
        unfold Hid
        omega
      clear K1
      go_wp2_with fail
      generalize W1.alloc (.cells #[.int .i64 yk, .int .i64 yo, .int .i64 yz, .int .i64 yb, .int .i64 yr] 37) = W2 at *
      have hS : Hid (∀ w', Kp [x] W2 w' → (fun w' => w'.cell? ⟨w.heap.size, 0, none⟩ = some (.int .i64 n) ∧ w'.cell? ⟨w.heap.size, 1, none⟩ = some (.int .i64 s) ∧ w'.cell? ⟨w.heap.size + 1, 0, none⟩ = some (.int .i64 n') ∧ w'.cell? ⟨w.heap.size + 1, 1, none⟩ = some (.int .i64 s') ∧ w'.cell? ⟨W1.heap.size, 0, none⟩ = some (.int .i64 yk) ∧ w'.cell? ⟨W1.heap.size, 1, none⟩ = some (.int .i64 yo) ∧ w'.cell? ⟨W1.heap.size, 2, none⟩ = some (.int .i64 yz) ∧ w'.cell? ⟨W1.heap.size, 3, none⟩ = some (.int .i64 yb) ∧ w'.cell? ⟨W1.heap.size, 4, none⟩ = some (.int .i64 yr)) w') := fun w' K => by
        obtain ⟨x1, x2, x3⟩ := unhide hx1
        have F := (unhide F2).kept K (by simpa using x1.symm)
        have T := (unhide T2).kept K (by simpa using x2.symm)
        have C := (unhide C2).kept K (by simpa using x3.symm)
        exact ⟨F.cell rfl, F.cell rfl, T.cell rfl, T.cell rfl, C.cell rfl, C.cell rfl, C.cell rfl, C.cell rfl, C.cell rfl⟩
      have K3 := hide ((Kp.refl [] W2).drew)
      go_region_held3 (fun w' => w'.cell? ⟨w.heap.size, 0, none⟩ = some (.int .i64 n) ∧ w'.cell? ⟨w.heap.size, 1, none⟩ = some (.int .i64 s) ∧ w'.cell? ⟨w.heap.size + 1, 0, none⟩ = some (.int .i64 n') ∧ w'.cell? ⟨w.heap.size + 1, 1, none⟩ = some (.int .i64 s') ∧ w'.cell? ⟨W1.heap.size, 0, none⟩ = some (.int .i64 yk) ∧ w'.cell? ⟨W1.heap.size, 1, none⟩ = some (.int .i64 yo) ∧ w'.cell? ⟨W1.heap.size, 2, none⟩ = some (.int .i64 yz) ∧ w'.cell? ⟨W1.heap.size, 3, none⟩ = some (.int .i64 yb) ∧ w'.cell? ⟨W1.heap.size, 4, none⟩ = some (.int .i64 yr)) (first | exact unhide hS _ (unhide K5) | exact unhide hS _ ((unhide K4).mono (by simp)) | exact unhide hS _ ((unhide K3).mono (by simp))) (first
        | (go_at_call 45; refine (rless_to yk yo yz yb yr m r' _ (unhide hr')).mono ?_; rintro e V ⟨rfl, kk⟩; have K4 := hide ((unhide K3).then kk); clear kk)
        | (go_at_call 10; refine (rput_any ((unhide H).grew ((unhide K2).then (unhide K4))) n' s' yk yo yz yb r' n s hL).mono ?_; rintro e V ⟨rfl, hrt, kk⟩; have K5 := hide ((unhide K4).trans kk (T := [x]) (by simp) (by simp)); replace hrt := hide hrt; clear kk))
      all_goals
        go_wp2
        go_ret
        refine ⟨rfl, ?_, (unhide K2).trans (unhide K5) (by simp) (by simp)⟩
        rw [← unhide hL']
        exact unhide hrt
  · rw [if_pos hz] at hR
    subst hR
    rw [if_neg hz] at hL'
    subst hL'
    obtain ⟨ck, co, cz, cb, cr, hcap⟩ : ∃ ck co cz cb cr : Int, capOf (lkS L n s) = .agg #[.int .i64 ck, .int .i64 co, .int .i64 cz, .int .i64 cb, .int .i64 cr] := by
      cases lkS L n s with
      | none => exact ⟨0, 0, 0, 0, 0, rfl⟩
      | some y => exact ⟨_, _, _, _, _, rfl⟩
    have hz' : (bc != 0) = true := by simp [hz]
    replace hcap := hide hcap
    replace hbc := hide hbc
    replace hz := hide hz
    go_enter Try.func17, Try.ntmps17
    go_wp2_with fail
    refine (rboth_to ((unhide H).grew (unhide k0)) n s n' s' (unhide hcap) (unhide hbc)).mono ?_
    rintro e W1 ⟨rfl, K1⟩
    have K2 := hide (((unhide k0).then K1).alloc (.cells #[.int .i64 ck, .int .i64 co, .int .i64 cz, .int .i64 cb, .int .i64 cr] 37))
    clear K1
    go_wp2
    go_ret
    exact ⟨rfl, ⟨ra, rc, (unhide H).grew (unhide K2)⟩, (unhide K2).mono (by simp)⟩
def moveLL (L : List Sl) (n s n' s' : Int) : List Sl := if bothC L n s n' s' = 0 then (match atL L n s with | some i => (match L[i]? with | some y => moveL L n s n' s' i y | none => L) | none => L) else L
theorem both_fine {L : List Sl} {n s n' s' : Int} (h : bothC L n s n' s' = 0) : ∃ i y, atL L n s = some i ∧ L[i]? = some y ∧ placeOk n' s' = true ∧ atL L n' s' = none := by
  unfold bothC lkS at h
  cases ha : atL L n s with
  | none => rw [ha] at h; cases h
  | some i =>
    obtain ⟨y, hy, _⟩ := atL_some ha
    rw [ha] at h
    simp only [hy] at h
    cases hp : placeOk n' s' with
    | false => rw [hp] at h; simp at h
    | true =>
      rw [hp, if_neg (by simp)] at h
      cases hb : atL L n' s' with
      | none => exact ⟨i, y, rfl, hy, rfl, rfl⟩
      | some k =>
        obtain ⟨q, hq, _⟩ := atL_some hb
        rw [hb] at h
        simp [hq] at h
set_option maxRecDepth 4000 in
set_option maxHeartbeats 2000000 in
theorem rdmove_calls {base x : Nat} {w : World} {ra : Option Addr} {rc : Nat} {L : List Sl} (h : RT base w x ra rc L) (n s n' s' : Int) :
    Calls Try.prog 15 #[.pointer (some ⟨x, 0, none⟩), .agg #[.int .i64 n, .int .i64 s], .agg #[.int .i64 n', .int .i64 s']] w (DupP base x w (bothC L n s n' s') (moveLL L n s n' s')) := by
  obtain ⟨bc, hbc⟩ : ∃ bc, bothC L n s n' s' = bc := ⟨_, rfl⟩
  obtain ⟨L', hL'⟩ : ∃ L', moveLL L n s n' s' = L' := ⟨_, rfl⟩
  rw [hbc, hL']
  unfold moveLL at hL'
  obtain ⟨b0, b1, k0⟩ := two_bx w n s n' s'
  have H := hide h
  have xlt := hide h.head.lt
  replace b0 := hide b0
  replace b1 := hide b1
  replace k0 := hide k0
  clear h
  obtain ⟨ck, co, cz, cb, cr, hcap⟩ : ∃ ck co cz cb cr : Int, capOf (lkS L n s) = .agg #[.int .i64 ck, .int .i64 co, .int .i64 cz, .int .i64 cb, .int .i64 cr] := by
    cases lkS L n s with
    | none => exact ⟨0, 0, 0, 0, 0, rfl⟩
    | some y => exact ⟨_, _, _, _, _, rfl⟩
  replace hcap := hide hcap
  by_cases hz : bc = 0
  · subst hz
    obtain ⟨i, y, hi, hy, hp, hn⟩ := both_fine hbc
    rw [hbc, if_pos rfl, hi] at hL'
    simp only [hy] at hL'
    subst hL'
    replace hbc := hide hbc
    replace hi := hide hi
    replace hy := hide hy
    replace hp := hide hp
    replace hn := hide hn
    go_enter Try.func15, Try.ntmps15
    go_wp2_with fail
    refine (rboth_to ((unhide H).grew (unhide k0)) n s n' s' (unhide hcap) (unhide hbc)).mono ?_
    rintro e W1 ⟨rfl, K1⟩
    have K2 := hide (((unhide k0).then K1).alloc (.cells #[.int .i64 ck, .int .i64 co, .int .i64 cz, .int .i64 cb, .int .i64 cr] 37))
    have F2 := (((unhide b0).kept K1 (by simp)).alloc (.cells #[.int .i64 ck, .int .i64 co, .int .i64 cz, .int .i64 cb, .int .i64 cr] 37))
    have T2 := (((unhide b1).kept K1 (by simp)).alloc (.cells #[.int .i64 ck, .int .i64 co, .int .i64 cz, .int .i64 cb, .int .i64 cr] 37))
    have f0 := F2.cell (i := 0) rfl
    have f1 := F2.cell (i := 1) rfl
    have t0 := T2.cell (i := 0) rfl
    have t1 := T2.cell (i := 1) rfl
    clear K1 F2 T2
    go_wp2_with fail
    refine (rmove_yes ((unhide H).grew (unhide K2)) n s n' s' (unhide hi) (unhide hy) (unhide hp) (unhide hn)).mono ?_
    rintro e W3 ⟨rfl, a3, c3, r3, K3⟩
    have R3 := hide r3
    have K4 := hide ((unhide K2).trans K3 (T := [x]) (by simp) (by simp))
    clear K3 r3
    go_wp2
    go_ret
    exact ⟨rfl, ⟨a3, c3, unhide R3⟩, unhide K4⟩
  · rw [hbc, if_neg hz] at hL'
    subst hL'
    have hz' : (bc == 0) = false := beq_eq_false_iff_ne.2 hz
    replace hbc := hide hbc
    replace hz := hide hz
    go_enter Try.func15, Try.ntmps15
    go_wp2_with fail
    refine (rboth_to ((unhide H).grew (unhide k0)) n s n' s' (unhide hcap) (unhide hbc)).mono ?_
    rintro e W1 ⟨rfl, K1⟩
    have K2 := hide (((unhide k0).then K1).alloc (.cells #[.int .i64 ck, .int .i64 co, .int .i64 cz, .int .i64 cb, .int .i64 cr] 37))
    clear K1
    go_wp2
    go_ret
    exact ⟨rfl, ⟨ra, rc, (unhide H).grew (unhide K2)⟩, (unhide K2).mono (by simp)⟩
/-- What Badge makes of what lies there. -/
def mintB (L : List Sl) (n s m : Int) : Int × Int × Int × Int × Int × Int := match lkS L n s with | some y => bdg y.k y.o y.z y.b y.r m | none => (0, 0, 0, 0, 0, 0)
def mintC (L : List Sl) (n s n' s' m : Int) : Int := if bothC L n s n' s' ≠ 0 then bothC L n s n' s' else (mintB L n s m).2.2.2.2.2
def mintL (L : List Sl) (n s n' s' m : Int) : List Sl := if mintC L n s n' s' m = 0 then putR L n' s' (mintB L n s m).1 (mintB L n s m).2.1 (mintB L n s m).2.2.1 (mintB L n s m).2.2.2.1 (mintB L n s m).2.2.2.2.1 n s else L
set_option maxRecDepth 4000 in
set_option maxHeartbeats 2000000 in
theorem rmint_calls {base x : Nat} {w : World} {ra : Option Addr} {rc : Nat} {L : List Sl} (h : RT base w x ra rc L) (n s n' s' m : Int) (hm : 0 ≤ m ∧ m < 4294967296) (hL : L.length < 65536) :
    Calls Try.prog 13 #[.pointer (some ⟨x, 0, none⟩), .agg #[.int .i64 n, .int .i64 s], .agg #[.int .i64 n', .int .i64 s'], .int .u32 m] w (DupP base x w (mintC L n s n' s' m) (mintL L n s n' s' m)) := by
  obtain ⟨R, hR⟩ : ∃ R, mintC L n s n' s' m = R := ⟨_, rfl⟩
  obtain ⟨L', hL'⟩ : ∃ L', mintL L n s n' s' m = L' := ⟨_, rfl⟩
  rw [hR, hL']
  unfold mintL at hL'
  rw [hR] at hL'
  unfold mintC at hR
  obtain ⟨bc, hbc⟩ : ∃ bc, bothC L n s n' s' = bc := ⟨_, rfl⟩
  rw [hbc] at hR
  obtain ⟨b0, b1, k0⟩ := two_bx w n s n' s'
  have H := hide h
  have xlt := hide h.head.lt
  replace b0 := hide b0
  replace b1 := hide b1
  replace k0 := hide k0
  clear h
  by_cases hz : bc = 0
  · subst hz
    obtain ⟨⟨yn, ys, yu, yv, yk, yo, yz, yb, yr⟩, hy⟩ := both_zero hbc
    rw [if_neg (by simp)] at hR
    have hmb : mintB L n s m = bdg yk yo yz yb yr m := by unfold mintB; rw [hy]
    obtain ⟨⟨dk, dO, dz, db, dr, dc⟩, hd⟩ : ∃ d, bdg yk yo yz yb yr m = d := ⟨_, rfl⟩
    rw [hmb, hd] at hL' hR
    simp only at hL' hR
    subst hR
    have hcap : capOf (lkS L n s) = .agg #[.int .i64 yk, .int .i64 yo, .int .i64 yz, .int .i64 yb, .int .i64 yr] := by rw [hy]; rfl
    replace hcap := hide hcap
    replace hbc := hide hbc
    replace hy := hide hy
    replace hd := hide hd
    replace hmb := hide hmb
    replace hL' := hide hL'
    go_enter Try.func13, Try.ntmps13
    go_wp2_with fail
    refine (rboth_to ((unhide H).grew (unhide k0)) n s n' s' (unhide hcap) (unhide hbc)).mono ?_
    rintro e W1 ⟨rfl, K1⟩
    have K2 := hide (((unhide k0).then K1).alloc (.cells #[.int .i64 yk, .int .i64 yo, .int .i64 yz, .int .i64 yb, .int .i64 yr] 37))
    have C2 := Bk.new W1 37 [.int .i64 yk, .int .i64 yo, .int .i64 yz, .int .i64 yb, .int .i64 yr]
    have F2 := hide (((unhide b0).kept K1 (by simp)).alloc (.cells #[.int .i64 yk, .int .i64 yo, .int .i64 yz, .int .i64 yb, .int .i64 yr] 37))
    have T2 := hide (((unhide b1).kept K1 (by simp)).alloc (.cells #[.int .i64 yk, .int .i64 yo, .int .i64 yz, .int .i64 yb, .int .i64 yr] 37))
    clear K1 C2
    go_wp2_with fail
    refine (rbadge_calls yk yo yz yb yr m _ dk dO dz db dr dc (unhide hd) hm.1 hm.2).mono ?_
    rintro e W3 ⟨rfl, K3⟩
    have K4 := hide (((unhide K2).then K3).alloc (.cells #[.int .i64 dk, .int .i64 dO, .int .i64 dz, .int .i64 db, .int .i64 dr] 37))
    have D4 := Bk.new W3 37 [.int .i64 dk, .int .i64 dO, .int .i64 dz, .int .i64 db, .int .i64 dr]
    have F4 := ((unhide F2).kept K3 (by simp)).alloc (.cells #[.int .i64 dk, .int .i64 dO, .int .i64 dz, .int .i64 db, .int .i64 dr] 37)
    have T4 := ((unhide T2).kept K3 (by simp)).alloc (.cells #[.int .i64 dk, .int .i64 dO, .int .i64 dz, .int .i64 db, .int .i64 dr] 37)
    have f0 := F4.cell (i := 0) rfl
    have f1 := F4.cell (i := 1) rfl
    have t0 := T4.cell (i := 0) rfl
    have t1 := T4.cell (i := 1) rfl
    clear K3 D4 F4 T4 F2 T2
    by_cases hz : dc = 0
    · subst hz
      have hL2 := unhide hL'
      rw [if_pos rfl] at hL2
      replace hL2 := hide hL2
      go_wp2_with fail
      refine (rput_any ((unhide H).grew (unhide K4)) n' s' dk dO dz db dr n s hL).mono ?_
      rintro e V ⟨rfl, hrt, kk⟩
      have K5 := hide ((unhide K4).trans kk (T := [x]) (by simp) (by simp))
      rw [unhide hL2] at hrt
      replace hrt := hide hrt
      clear kk
      go_wp2
      go_ret
      exact ⟨rfl, unhide hrt, unhide K5⟩
    · have hL2 := unhide hL'
      rw [if_neg hz] at hL2
      subst hL2
      have hz' : (dc == 0) = false := beq_eq_false_iff_ne.2 hz
      replace hz := hide hz
      go_wp2
      go_ret
      exact ⟨rfl, ⟨ra, rc, (unhide H).grew (unhide K4)⟩, (unhide K4).mono (by simp)⟩
  · rw [if_pos hz] at hR
    subst hR
    rw [if_neg hz] at hL'
    subst hL'
    obtain ⟨ck, co, cz, cb, cr, hcap⟩ : ∃ ck co cz cb cr : Int, capOf (lkS L n s) = .agg #[.int .i64 ck, .int .i64 co, .int .i64 cz, .int .i64 cb, .int .i64 cr] := by
      cases lkS L n s with
      | none => exact ⟨0, 0, 0, 0, 0, rfl⟩
      | some y => exact ⟨_, _, _, _, _, rfl⟩
    have hz' : (bc != 0) = true := by simp [hz]
    replace hcap := hide hcap
    replace hbc := hide hbc
    replace hz := hide hz
    go_enter Try.func13, Try.ntmps13
    go_wp2_with fail
    refine (rboth_to ((unhide H).grew (unhide k0)) n s n' s' (unhide hcap) (unhide hbc)).mono ?_
    rintro e W1 ⟨rfl, K1⟩
    have K2 := hide (((unhide k0).then K1).alloc (.cells #[.int .i64 ck, .int .i64 co, .int .i64 cz, .int .i64 cb, .int .i64 cr] 37))
    clear K1
    go_wp2
    go_ret
    exact ⟨rfl, ⟨ra, rc, (unhide H).grew (unhide K2)⟩, (unhide K2).mono (by simp)⟩
end Go.Proofs.Ytgpclbkekobaoaa
