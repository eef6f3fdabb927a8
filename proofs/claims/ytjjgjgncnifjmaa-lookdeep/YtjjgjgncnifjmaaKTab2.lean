/- The document's table: what stands at a place; lists of places out of it. -/
import Derived.Test.YtjjgjgncnifjmaaKTab
namespace Go.Proofs.Ytjjgjgncnifjmaa
open Go.RowKit
set_option linter.unusedVariables false
theorem atL_none {L : List Sl} {n s : Int} (h : atL L n s = none) : atI L n s = -1 := by unfold atI; rw [h]
theorem atL_atI {L : List Sl} {n s : Int} {i : Nat} (h : atL L n s = some i) : atI L n s = (i : Int) := by unfold atI; rw [h]
def placeP (n s : Int) : Prop := (1 ≤ n ∧ n ≤ 64) ∧ (0 ≤ s ∧ s < 16)
def decPlace (n s : Int) : Decidable (placeP n s) := by unfold placeP; exact (if h : _ then isTrue h else isFalse h)
def placeOk (n s : Int) : Bool := @decide (placeP n s) (decPlace n s)
theorem placeOk_iff (n s : Int) : placeOk n s = true ↔ placeP n s := by unfold placeOk; exact @decide_eq_true_iff _ (decPlace n s)
def beforeP (n s n' s' : Int) : Prop := n < n' ∨ n = n' ∧ s < s'
def decBefore (n s n' s' : Int) : Decidable (beforeP n s n' s') := by unfold beforeP; exact (if h : _ then isTrue h else isFalse h)
def before (n s n' s' : Int) : Bool := @decide (beforeP n s n' s') (decBefore n s n' s')
theorem before_iff (n s n' s' : Int) : before n s n' s' = true ↔ beforeP n s n' s' := by unfold before; exact @decide_eq_true_iff _ (decBefore n s n' s')
set_option maxHeartbeats 400000 in
theorem rplace_calls (n s : Int) (w : World) :
    Calls Try.prog 34 #[.agg #[.int .i64 n, .int .i64 s]] w fun e w' => e = .returned (.bool (placeOk n s)) ∧ Kp [] w w' := by
  obtain ⟨v1, h1⟩ : ∃ v, decide (1 ≤ n) = v := ⟨_, rfl⟩
  obtain ⟨v2, h2⟩ : ∃ v, decide (n ≤ 64) = v := ⟨_, rfl⟩
  obtain ⟨v3, h3⟩ : ∃ v, decide (0 ≤ s) = v := ⟨_, rfl⟩
  have HE := hide (show (v1 && (v2 && (v3 && decide (s < 16)))) = placeOk n s from by rw [← h1, ← h2, ← h3]; refine Bool.eq_iff_iff.2 ?_; rw [placeOk_iff]; simp [placeP, and_assoc])
  cases v1
  · clear h2 h3
    go_enter Try.func34, Try.ntmps34
    go_wp2
    go_ret
    exact ⟨ret_bool (unhide HE), (Kp.refl _ _).alloc _⟩
  cases v2
  · clear h3
    go_enter Try.func34, Try.ntmps34
    go_wp2
    go_ret
    exact ⟨ret_bool (unhide HE), (Kp.refl _ _).alloc _⟩
  cases v3 <;>
  · go_enter Try.func34, Try.ntmps34
    go_wp2
    go_ret
    exact ⟨ret_bool (unhide HE), (Kp.refl _ _).alloc _⟩
set_option maxHeartbeats 400000 in
theorem rbefore_calls (n s n' s' : Int) (w : World) :
    Calls Try.prog 37 #[.agg #[.int .i64 n, .int .i64 s], .agg #[.int .i64 n', .int .i64 s']] w fun e w' => e = .returned (.bool (before n s n' s')) ∧ Kp [] w w' := by
  obtain ⟨v1, h1⟩ : ∃ v, decide (n < n') = v := ⟨_, rfl⟩
  obtain ⟨v2, h2⟩ : ∃ v, (n == n') = v := ⟨_, rfl⟩
  have HE := hide (show (v1 || (v2 && decide (s < s'))) = before n s n' s' from by rw [← h1, ← h2]; refine Bool.eq_iff_iff.2 ?_; rw [before_iff]; simp [beforeP])
  cases v1
  · cases v2 <;>
    · go_enter Try.func37, Try.ntmps37
      go_wp2
      go_ret
      exact ⟨ret_bool (unhide HE), ((Kp.refl _ _).alloc _).alloc _⟩
  · clear h2
    go_enter Try.func37, Try.ntmps37
    go_wp2
    go_ret
    exact ⟨ret_bool (unhide HE), ((Kp.refl _ _).alloc _).alloc _⟩
theorem after_two {w W1 : World} {T T' : TypeId} {a : Array Value} {vs : List Value} (K1 : Kp [] ((w.alloc (.cells a T)).alloc (.cells vs.toArray T')) W1) : Bk W1 (w.heap.size + 1) T' vs ∧ Kp [] w W1 :=
  ⟨Bk.kept (Bk.next (w.alloc (.cells a T)) T' vs (by simp)) K1 (by simp), (((Kp.refl [] w).alloc _).alloc _).then K1⟩
set_option maxHeartbeats 400000 in
theorem rget_no {base : Nat} {w : World} {t : Nat} {a : Option Addr} {cap : Nat} {L : List Sl} (h : RT base w t a cap L) (n s : Int) (hn : atL L n s = none) :
    Calls Try.prog 27 #[.pointer (some ⟨t, 0, none⟩), .agg #[.int .i64 n, .int .i64 s]] w fun e w' => e = .returned (.tuple #[capV 0 0 0 0 0, .bool false]) ∧ Kp [] w w' := by
  have H0 := hide (h.grew (((Kp.refl [] w).alloc (.cells #[.int .i64 n, .int .i64 s] 40)).alloc (.cells #[.int .i64 0, .int .i64 0, .int .i64 0, .int .i64 0, .int .i64 0] 24)))
  have HA := hide (atL_none hn)
  clear h hn
  go_enter Try.func27, Try.ntmps27
  go_wp2_with fail
  refine (at_calls (unhide H0) n s).mono ?_
  rintro e W1 ⟨rfl, K1⟩
  rw [unhide HA]
  obtain ⟨B2, K2⟩ := after_two (vs := [.int .i64 0, .int .i64 0, .int .i64 0, .int .i64 0, .int .i64 0]) K1
  clear K1
  have e0 := B2.cell (i := 0) rfl
  have e1 := B2.cell (i := 1) rfl
  have e2 := B2.cell (i := 2) rfl
  have e3 := B2.cell (i := 3) rfl
  have e4 := B2.cell (i := 4) rfl
  have f0 := B2.frozen
  clear B2
  replace K2 := hide K2
  go_wp2
  exact bodyPost_ret (v := .tuple #[capV 0 0 0 0 0, .bool false]) (by simp [results, Try.results27, go_sem, *]) rfl ⟨rfl, five (unhide K2) (by simp) _ _ _ _ _⟩
set_option maxHeartbeats 400000 in
theorem rget_yes {base : Nat} {w : World} {t : Nat} {a : Option Addr} {cap : Nat} {L : List Sl} (h : RT base w t a cap L) (n s : Int) {i : Nat} {x : Sl} (hn : atL L n s = some i) (hx : L[i]? = some x) :
    Calls Try.prog 27 #[.pointer (some ⟨t, 0, none⟩), .agg #[.int .i64 n, .int .i64 s]] w fun e w' => e = .returned (.tuple #[capV x.k x.o x.z x.b x.r, .bool true]) ∧ Kp [] w w' := by
  have hi : i < L.length := (List.getElem?_eq_some_iff.1 hx).1
  have hs := h.small
  obtain ⟨g, rfl⟩ := h.addr (by omega)
  have H := hide h
  have H0 := hide (h.grew (((Kp.refl [] w).alloc (.cells #[.int .i64 n, .int .i64 s] 40)).alloc (.cells #[.int .i64 0, .int .i64 0, .int .i64 0, .int .i64 0, .int .i64 0] 24)))
  have HA := hide (atL_atI hn)
  have HX := hide hx
  have b1 : (i : Int) < (L.length : Int) := by omega
  have b2 : ((i : Int)).toNat = i := Int.toNat_natCast i
  have b3 : decide ((i : Int) < 0) = false := decide_eq_false (by omega)
  obtain ⟨k, hk⟩ : ∃ v, x.k = v := ⟨_, rfl⟩
  obtain ⟨o, ho⟩ : ∃ v, x.o = v := ⟨_, rfl⟩
  obtain ⟨z, hz⟩ : ∃ v, x.z = v := ⟨_, rfl⟩
  obtain ⟨b, hb⟩ : ∃ v, x.b = v := ⟨_, rfl⟩
  obtain ⟨r, hr⟩ : ∃ v, x.r = v := ⟨_, rfl⟩
  rw [hk, ho, hz, hb, hr]
  replace hk := hide hk
  replace ho := hide ho
  replace hz := hide hz
  replace hb := hide hb
  replace hr := hide hr
  clear h hn hx
  go_enter Try.func27, Try.ntmps27
  go_wp2_with fail
  refine (at_calls (unhide H0) n s).mono ?_
  rintro e W1 ⟨rfl, K1⟩
  rw [unhide HA]
  obtain ⟨B2, K2⟩ := after_two (vs := [.int .i64 0, .int .i64 0, .int .i64 0, .int .i64 0, .int .i64 0]) K1
  have R1 := (unhide H).grew K2
  clear K1
  have e0 := B2.cell (i := 0) rfl
  have e1 := B2.cell (i := 1) rfl
  have e2 := B2.cell (i := 2) rfl
  have e3 := B2.cell (i := 3) rfl
  have e4 := B2.cell (i := 4) rfl
  have f0 := B2.frozen
  have c0 := R1.head.cell (i := 0) rfl
  have x4 : W1.cell? ⟨g, i * 9 + 4, none⟩ = some (.int .i64 k) := by rw [← unhide hk]; exact R1.cell (unhide HX) 4 (by omega)
  have x5 : W1.cell? ⟨g, i * 9 + 5, none⟩ = some (.int .i64 o) := by rw [← unhide ho]; exact R1.cell (unhide HX) 5 (by omega)
  have x6 : W1.cell? ⟨g, i * 9 + 6, none⟩ = some (.int .i64 z) := by rw [← unhide hz]; exact R1.cell (unhide HX) 6 (by omega)
  have x7 : W1.cell? ⟨g, i * 9 + 7, none⟩ = some (.int .i64 b) := by rw [← unhide hb]; exact R1.cell (unhide HX) 7 (by omega)
  have x8 : W1.cell? ⟨g, i * 9 + 8, none⟩ = some (.int .i64 r) := by rw [← unhide hr]; exact R1.cell (unhide HX) 8 (by omega)
  clear B2 R1
  replace K2 := hide K2
  go_wp2
  exact bodyPost_ret (v := .tuple #[capV k o z b r, .bool true]) (by simp [results, Try.results27, go_sem, *]) rfl ⟨rfl, five (unhide K2) (by simp) _ _ _ _ _⟩
/-- The parent, by the list: nothing where the place has none. -/
def parL (L : List Sl) (n s : Int) : Int × Int := match atL L n s with | some i => (match L[i]? with | some x => (x.u, x.v) | none => (0, 0)) | none => (0, 0)
end Go.Proofs.Ytjjgjgncnifjmaa
