/- The document's copy, mint, move: may something go from the one to the other? -/
import Derived.Test.YthjhpcbhkcmghaaKLk
import Derived.Test.YthjhpcbhkcmghaaKCaps
import Derived.Test.YthjhpcbhkcmghaaKTab5
import Derived.Test.YthjhpcbhkcmghaaKTab9
namespace Go.Proofs.Ythjhpcbhkcmghaa
open Go.RowKit
set_option linter.unusedVariables false
def bothC (L : List Sl) (n s n' s' : Int) : Int := match lkS L n s with
  | none => 4
  | some _ => if placeOk n' s' = false then 7 else if (lkS L n' s').isSome = true then 3 else 0
def capOf (o : Option Sl) : Value := match o with | some x => .agg #[.int .i64 x.k, .int .i64 x.o, .int .i64 x.z, .int .i64 x.b, .int .i64 x.r] | none => .agg #[.int .i64 0, .int .i64 0, .int .i64 0, .int .i64 0, .int .i64 0]
theorem rplace_at (n s : Int) (v : Bool) (w : World) (h : placeOk n s = v) :
    Calls Try.prog 33 #[.agg #[.int .i64 n, .int .i64 s]] w fun e w' => e = .returned (.bool v) ∧ Kp [] w w' := by subst h; exact rplace_calls n s w
structure Db (w : World) (t : Nat) (n' s' : Int) (W : World) : Prop where
  kp : Kp [] w W
  tt : Bk W (t + 1) 40 [.int .i64 n', .int .i64 s']
  res : Bk W (t + 1 + 1) 38 [.int .i64 0, .int .i64 0, .int .i64 0, .int .i64 0, .int .i64 0]
theorem Db.grew {w : World} {t : Nat} {n' s' : Int} {W W' : World} (h : Db w t n' s' W) (k : Kp [] W W') : Db w t n' s' W' := ⟨h.kp.then k, h.tt.kept k (by simp), h.res.kept k (by simp)⟩
theorem Db.facts {w : World} {t : Nat} {n' s' : Int} {W : World} (h : Db w t n' s' W) : (∀ i, W.frozen? ⟨t + 1 + 1, i, none⟩ = false) ∧ (W.cell? ⟨t + 1 + 1, 0, none⟩ = some (.int .i64 0) ∧ W.cell? ⟨t + 1 + 1, 1, none⟩ = some (.int .i64 0) ∧ W.cell? ⟨t + 1 + 1, 2, none⟩ = some (.int .i64 0) ∧ W.cell? ⟨t + 1 + 1, 3, none⟩ = some (.int .i64 0) ∧ W.cell? ⟨t + 1 + 1, 4, none⟩ = some (.int .i64 0)) ∧ W.cell? ⟨t + 1, 0, none⟩ = some (.int .i64 n') ∧ W.cell? ⟨t + 1, 1, none⟩ = some (.int .i64 s') :=
  ⟨h.res.frozen, ⟨h.res.cell rfl, h.res.cell rfl, h.res.cell rfl, h.res.cell rfl, h.res.cell rfl⟩, h.tt.cell rfl, h.tt.cell rfl⟩
theorem db_start (w : World) (n s n' s' : Int) : Db w w.heap.size n' s' (((w.alloc (.cells #[.int .i64 n, .int .i64 s] 40)).alloc (.cells #[.int .i64 n', .int .i64 s'] 40)).alloc (.cells #[.int .i64 0, .int .i64 0, .int .i64 0, .int .i64 0, .int .i64 0] 38)) :=
  ⟨(((Kp.refl [] w).alloc _).alloc _).alloc _, (Bk.next (p := w.heap.size + 1) _ _ [.int .i64 n', .int .i64 s'] (by simp)).alloc _, Bk.next (p := w.heap.size + 1 + 1) _ _ [.int .i64 0, .int .i64 0, .int .i64 0, .int .i64 0, .int .i64 0] (by simp)⟩
set_option maxRecDepth 4000 in
set_option maxHeartbeats 2000000 in
theorem rboth_calls {base x : Nat} {w : World} {ra : Option Addr} {rc : Nat} {L : List Sl} (h : RT base w x ra rc L) (n s n' s' : Int) :
    Calls Try.prog 43 #[.pointer (some ⟨x, 0, none⟩), .agg #[.int .i64 n, .int .i64 s], .agg #[.int .i64 n', .int .i64 s']] w fun e w' => e = .returned (.tuple #[capOf (lkS L n s), .int .i64 (bothC L n s n' s')]) ∧ Kp [] w w' := by
  obtain ⟨R, hR⟩ : ∃ R, Value.tuple #[capOf (lkS L n s), .int .i64 (bothC L n s n' s')] = R := ⟨_, rfl⟩
  rw [hR]
  unfold bothC at hR
  have R0 := hide (db_start w n s n' s')
  obtain ⟨t, et⟩ : ∃ t, w.heap.size = t := ⟨_, rfl⟩
  rw [et] at R0
  have hsz : Hid (w.heap.size ≤ t) := by unfold Hid; omega
  have H := hide h
  have hN := rget_lk (h.grew (unhide R0).kp) n s
  clear h
  rcases hN with ⟨hn, hc⟩ | ⟨y, hy, hc⟩
  · rw [hn] at hR
    simp only [capOf] at hR
    subst hR
    replace hn := hide hn
    replace hc := hide hc
    go_enter Try.func43, Try.ntmps43
    go_wp2_with fail
    refine (unhide hc).mono ?_
    rintro e W1 ⟨rfl, K1⟩
    have R1 := hide ((unhide R0).grew (K1.alloc (.cells #[.int .i64 0, .int .i64 0, .int .i64 0, .int .i64 0, .int .i64 0] 38)))
    obtain ⟨f1, ⟨u0, u1, u2, u3, u4⟩, v0, v1⟩ := (unhide R1).facts
    clear et hc R0 K1
    go_wp2
    refine bodyPost_ret (v := .tuple #[.agg #[.int .i64 0, .int .i64 0, .int .i64 0, .int .i64 0, .int .i64 0], .int .i64 4]) (by simp [results, Try.results43, go_sem, *]) rfl ⟨rfl, ?_⟩
    exact kp_put5 (unhide R1).kp (.inr (by have := unhide hsz; omega)) _ _ _ _ _
  · rw [hy] at hR
    obtain ⟨yn, ys, yu, yv, yk, yo, yz, yb, yr⟩ := y
    simp only [capOf] at hR
    simp only at hc
    replace hR := hide hR
    replace hy := hide hy
    replace hc := hide hc
    cases hp : placeOk n' s'
    · have hR2 := unhide hR
      rw [hp, if_pos rfl] at hR2
      subst hR2
      replace hp := hide hp
      clear hR
      go_enter Try.func43, Try.ntmps43
      go_wp2_with fail
      refine (unhide hc).mono ?_
      rintro e W1 ⟨rfl, K1⟩
      have R1 := hide ((unhide R0).grew (K1.alloc (.cells #[.int .i64 yk, .int .i64 yo, .int .i64 yz, .int .i64 yb, .int .i64 yr] 38)))
      have C1 := hide (Bk.new W1 38 [.int .i64 yk, .int .i64 yo, .int .i64 yz, .int .i64 yb, .int .i64 yr])
      obtain ⟨f1, ⟨u0, u1, u2, u3, u4⟩, v0, v1⟩ := (unhide R1).facts
      clear et hc R0 K1
      go_wp2_with fail
      refine (rplace_at n' s' false _ (unhide hp)).mono ?_
      rintro e W2 ⟨rfl, K2⟩
      have R2 := hide ((unhide R1).grew K2)
      have C2 := (unhide C1).kept K2 (by simp)
      have k0 := C2.cell (i := 0) rfl
      have k1 := C2.cell (i := 1) rfl
      have k2 := C2.cell (i := 2) rfl
      have k3 := C2.cell (i := 3) rfl
      have k4 := C2.cell (i := 4) rfl
      clear f1 u0 u1 u2 u3 u4 v0 v1
      obtain ⟨f1, ⟨u0, u1, u2, u3, u4⟩, v0, v1⟩ := (unhide R2).facts
      clear R1 C1 C2 K2
      go_wp2
      refine bodyPost_ret (v := .tuple #[.agg #[.int .i64 yk, .int .i64 yo, .int .i64 yz, .int .i64 yb, .int .i64 yr], .int .i64 7]) (by simp [results, Try.results43, go_sem, *]) rfl ⟨rfl, ?_⟩
      exact kp_put5 (unhide R2).kp (.inr (by have := unhide hsz; omega)) _ _ _ _ _
    · have hR2 := unhide hR
      rw [hp, if_neg (by simp)] at hR2
      replace hR2 := hide hR2
      replace hp := hide hp
      clear hR
      go_enter Try.func43, Try.ntmps43
      go_wp2_with fail
      refine (unhide hc).mono ?_
      rintro e W1 ⟨rfl, K1⟩
      have R1 := hide ((unhide R0).grew (K1.alloc (.cells #[.int .i64 yk, .int .i64 yo, .int .i64 yz, .int .i64 yb, .int .i64 yr] 38)))
      have C1 := hide (Bk.new W1 38 [.int .i64 yk, .int .i64 yo, .int .i64 yz, .int .i64 yb, .int .i64 yr])
      obtain ⟨f1, ⟨u0, u1, u2, u3, u4⟩, v0, v1⟩ := (unhide R1).facts
      clear et hc R0 K1
      go_wp2_with fail
      refine (rplace_at n' s' true _ (unhide hp)).mono ?_
      rintro e W2 ⟨rfl, K2⟩
      have R2 := hide ((unhide R1).grew K2)
      have C2 := hide ((unhide C1).kept K2 (by simp))
      clear f1 u0 u1 u2 u3 u4 v0 v1
      obtain ⟨f1, ⟨u0, u1, u2, u3, u4⟩, v0, v1⟩ := (unhide R2).facts
      clear R1 C1 K2
      rcases rget_lk ((unhide H).grew (unhide R2).kp) n' s' with ⟨hn2, hc2⟩ | ⟨y2, hy2, hc2⟩
      · have hR3 := unhide hR2
        rw [hn2, if_neg (by simp)] at hR3
        subst hR3
        clear hR2
        replace hc2 := hide hc2
        replace hn2 := hide hn2
        go_wp2_with fail
        refine (unhide hc2).mono ?_
        rintro e W3 ⟨rfl, K3⟩
        replace K3 := K3.alloc (.cells #[.int .i64 0, .int .i64 0, .int .i64 0, .int .i64 0, .int .i64 0] 38)
        have R3 := hide ((unhide R2).grew K3)
        have C3 := (unhide C2).kept K3 (by simp)
        have k0 := C3.cell (i := 0) rfl
        have k1 := C3.cell (i := 1) rfl
        have k2 := C3.cell (i := 2) rfl
        have k3 := C3.cell (i := 3) rfl
        have k4 := C3.cell (i := 4) rfl
        clear f1 u0 u1 u2 u3 u4 v0 v1
        obtain ⟨f1, ⟨u0, u1, u2, u3, u4⟩, v0, v1⟩ := (unhide R3).facts
        clear R2 C2 C3 K3 hc2
        go_wp2
        refine bodyPost_ret (v := .tuple #[.agg #[.int .i64 yk, .int .i64 yo, .int .i64 yz, .int .i64 yb, .int .i64 yr], .int .i64 0]) (by simp [results, Try.results43, go_sem, *]) rfl ⟨rfl, ?_⟩
        exact kp_put5 (unhide R3).kp (.inr (by have := unhide hsz; omega)) _ _ _ _ _
      · have hR3 := unhide hR2
        rw [hy2, if_pos (show (some y2).isSome = true from rfl)] at hR3
        subst hR3
        clear hR2
        obtain ⟨qn, qs, qu, qv, qk, qo, qz, qb, qr⟩ := y2
        simp only at hc2
        replace hc2 := hide hc2
        replace hy2 := hide hy2
        go_wp2_with fail
        refine (unhide hc2).mono ?_
        rintro e W3 ⟨rfl, K3⟩
        replace K3 := K3.alloc (.cells #[.int .i64 qk, .int .i64 qo, .int .i64 qz, .int .i64 qb, .int .i64 qr] 38)
        have R3 := hide ((unhide R2).grew K3)
        have C3 := (unhide C2).kept K3 (by simp)
        have k0 := C3.cell (i := 0) rfl
        have k1 := C3.cell (i := 1) rfl
        have k2 := C3.cell (i := 2) rfl
        have k3 := C3.cell (i := 3) rfl
        have k4 := C3.cell (i := 4) rfl
        clear f1 u0 u1 u2 u3 u4 v0 v1
        obtain ⟨f1, ⟨u0, u1, u2, u3, u4⟩, v0, v1⟩ := (unhide R3).facts
        clear R2 C2 C3 K3 hc2
        go_wp2
        refine bodyPost_ret (v := .tuple #[.agg #[.int .i64 yk, .int .i64 yo, .int .i64 yz, .int .i64 yb, .int .i64 yr], .int .i64 3]) (by simp [results, Try.results43, go_sem, *]) rfl ⟨rfl, ?_⟩
        exact kp_put5 (unhide R3).kp (.inr (by have := unhide hsz; omega)) _ _ _ _ _
/-- May it be put? As a Bool. -/
def putOk (L : List Sl) (n s k o z b r u v : Int) : Bool := placeOk n s && ((atL L n s).isNone && (chk k o z b r && ((u == 0 && v == 0) || (atL L u v).isSome)))
theorem putOk_iff (L : List Sl) (n s k o z b r u v : Int) : putOk L n s k o z b r u v = true ↔ putP L n s k o z b r u v := by
  unfold putOk putP
  simp only [Bool.and_eq_true, Bool.or_eq_true, Option.isNone_iff_eq_none, beq_iff_eq]
  constructor
  · rintro ⟨h1, h2, h3, h4⟩
    exact ⟨h1, h2, h3, h4.imp id (fun q e => by rw [e] at q; cases q)⟩
  · rintro ⟨h1, h2, h3, h4⟩
    refine ⟨h1, h2, h3, h4.imp id (fun q => ?_)⟩
    cases h : atL L u v with
    | none => exact absurd h q
    | some i => rfl
/-- What Put leaves. -/
def putR (L : List Sl) (n s k o z b r u v : Int) : List Sl := if putOk L n s k o z b r u v = true then insL L ⟨n, s, u, v, k, o, z, b, r⟩ else L
theorem rput_any {base x : Nat} {w : World} {ra : Option Addr} {rc : Nat} {L : List Sl} (h : RT base w x ra rc L) (n s k o z b r u v : Int) (hL : L.length < 65536) :
    Calls Try.prog 11 #[.pointer (some ⟨x, 0, none⟩), .agg #[.int .i64 n, .int .i64 s], .agg #[.int .i64 k, .int .i64 o, .int .i64 z, .int .i64 b, .int .i64 r], .agg #[.int .i64 u, .int .i64 v]] w fun e w' => e = .returned (.bool (putOk L n s k o z b r u v)) ∧ (∃ ra rc, RT base w' x ra rc (putR L n s k o z b r u v)) ∧ Kp [x] w w' := by
  unfold putR
  by_cases hp : putP L n s k o z b r u v
  · have e := (putOk_iff L n s k o z b r u v).2 hp
    rw [e, if_pos rfl]
    exact (rput_yes h n s k o z b r u v hp hL).mono fun e w' q => ⟨q.1, by obtain ⟨a, c, r, _⟩ := q.2; exact ⟨a, c, r⟩, by obtain ⟨a, c, _, k⟩ := q.2; exact k⟩
  · have e : putOk L n s k o z b r u v = false := by rw [← Bool.not_eq_true, putOk_iff]; exact hp
    rw [e, if_neg (by simp)]
    exact (rput_no h n s k o z b r u v hp).mono fun e w' q => ⟨q.1, ⟨ra, rc, h.grew q.2⟩, q.2.mono (by simp)⟩
def copyC (L : List Sl) (n s n' s' m : Int) : Int := if bothC L n s n' s' ≠ 0 then bothC L n s n' s' else if m < 0 ∨ 7 < m then 7 else 0
def copyL (L : List Sl) (n s n' s' m : Int) : List Sl := if copyC L n s n' s' m = 0 then (match lkS L n s with | some y => putR L n' s' y.k y.o y.z y.b (lessR y.r m) n s | none => L) else L
theorem both_zero {L : List Sl} {n s n' s' : Int} (h : bothC L n s n' s' = 0) : ∃ y, lkS L n s = some y := by
  unfold bothC at h
  cases hy : lkS L n s with
  | none => rw [hy] at h; cases h
  | some y => exact ⟨y, rfl⟩
theorem rboth_to {base x : Nat} {w : World} {ra : Option Addr} {rc : Nat} {L : List Sl} (h : RT base w x ra rc L) (n s n' s' : Int) {v : Value} {c : Int} (hv : capOf (lkS L n s) = v) (hc : bothC L n s n' s' = c) :
    Calls Try.prog 43 #[.pointer (some ⟨x, 0, none⟩), .agg #[.int .i64 n, .int .i64 s], .agg #[.int .i64 n', .int .i64 s']] w fun e w' => e = .returned (.tuple #[v, .int .i64 c]) ∧ Kp [] w w' := by subst hv hc; exact rboth_calls h n s n' s'
/-- A code, the slots, and nothing else of memory. -/
def DupP (base x : Nat) (w : World) (c : Int) (L : List Sl) (e : Ending) (w' : World) : Prop := e = .returned (.int .i64 c) ∧ (∃ ra rc, RT base w' x ra rc L) ∧ Kp [x] w w'
theorem two_bx (w : World) (n s n' s' : Int) : Bk ((w.alloc (.cells #[.int .i64 n, .int .i64 s] 40)).alloc (.cells #[.int .i64 n', .int .i64 s'] 40)) w.heap.size 40 [.int .i64 n, .int .i64 s] ∧ Bk ((w.alloc (.cells #[.int .i64 n, .int .i64 s] 40)).alloc (.cells #[.int .i64 n', .int .i64 s'] 40)) (w.heap.size + 1) 40 [.int .i64 n', .int .i64 s'] ∧ Kp [] w ((w.alloc (.cells #[.int .i64 n, .int .i64 s] 40)).alloc (.cells #[.int .i64 n', .int .i64 s'] 40)) :=
  ⟨(Bk.new w _ [.int .i64 n, .int .i64 s]).alloc _, Bk.next (p := w.heap.size + 1) _ _ [.int .i64 n', .int .i64 s'] (by simp), ((Kp.refl [] w).alloc _).alloc _⟩
def moveLL (L : List Sl) (n s n' s' : Int) : List Sl := if bothC L n s n' s' = 0 then (match atL L n s with | some i => (match L[i]? with | some y => moveL L n s n' s' i y | none => L) | none => L) else L
theorem both_fine {L : List Sl} {n s n' s' : Int} (h : bothC L n s n' s' = 0) : ∃ i y, atL L n s = some i ∧ L[i]? = some y ∧ placeOk n' s' = true ∧ atL L n' s' = none := by
  unfold bothC lkS at h
  cases ha : atL L n s with
  | none => rw [ha] at h; cases h
  | some i =>
    obtain ⟨y, hy, _⟩ := atL_some ha
    rw [ha] at h
    simp only [hy] at h
    cases hp : placeOk n' s' with
    | false => rw [hp] at h; simp at h
    | true =>
      rw [hp, if_neg (by simp)] at h
      cases hb : atL L n' s' with
      | none => exact ⟨i, y, rfl, hy, rfl, rfl⟩
      | some k =>
        obtain ⟨q, hq, _⟩ := atL_some hb
        rw [hb] at h
        simp [hq] at h
/-- What Badge makes of what lies there. -/
def mintB (L : List Sl) (n s m : Int) : Int × Int × Int × Int × Int × Int := match lkS L n s with | some y => bdg y.k y.o y.z y.b y.r m | none => (0, 0, 0, 0, 0, 0)
def mintC (L : List Sl) (n s n' s' m : Int) : Int := if bothC L n s n' s' ≠ 0 then bothC L n s n' s' else (mintB L n s m).2.2.2.2.2
def mintL (L : List Sl) (n s n' s' m : Int) : List Sl := if mintC L n s n' s' m = 0 then putR L n' s' (mintB L n s m).1 (mintB L n s m).2.1 (mintB L n s m).2.2.1 (mintB L n s m).2.2.2.1 (mintB L n s m).2.2.2.2.1 n s else L
end Go.Proofs.Ythjhpcbhkcmghaa
