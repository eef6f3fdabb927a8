/- The document's table of slots (ringkernref1.Table), as a list; what finds a place in it. -/
import Derived.Test.YthjhpcbhkcmghaaKCaps
import Derived.Deep.AppendLies
import Derived.Deep.CutBlock
import Derived.Deep.DeepCutAuto
import Derived.Deep.RegionHeld3
import Derived.Deep.RegionLaw
import Derived.BigRegion
namespace Go.Proofs.Ythjhpcbhkcmghaa
open Go.RowKit
set_option linter.unusedVariables false
/-- A slot: its place, its parent, its capability. -/
structure Sl where
  n : Int
  s : Int
  u : Int
  v : Int
  k : Int
  o : Int
  z : Int
  b : Int
  r : Int
def Sl.vals (x : Sl) : List Value := [.int .i64 x.n, .int .i64 x.s, .int .i64 x.u, .int .i64 x.v, .int .i64 x.k, .int .i64 x.o, .int .i64 x.z, .int .i64 x.b, .int .i64 x.r]
def rows (L : List Sl) : List Value := L.flatMap Sl.vals
theorem rows_len (L : List Sl) : (rows L).length = L.length * 9 := by
  induction L with
  | nil => rfl
  | cons x L ih => unfold rows at *; rw [List.flatMap_cons, List.length_append, ih]; show 9 + L.length * 9 = (L.length + 1) * 9; omega
theorem rows_app (L M : List Sl) : rows (L ++ M) = rows L ++ rows M := by unfold rows; rw [List.flatMap_append]
theorem rows_get (L : List Sl) (i j : Nat) (x : Sl) (hi : L[i]? = some x) (hj : j < 9) : (rows L)[i * 9 + j]? = x.vals[j]? := by
  induction L generalizing i with
  | nil => cases hi
  | cons y L ih =>
    have e : rows (y :: L) = y.vals ++ rows L := by unfold rows; rw [List.flatMap_cons]
    rw [e]
    cases i with
    | zero =>
      cases hi
      rw [List.getElem?_append_left (by show 0 * 9 + j < 9; omega), Nat.zero_mul, Nat.zero_add]
    | succ i =>
      rw [List.getElem?_append_right (by show 9 ≤ (i + 1) * 9 + j; omega)]
      have : (i + 1) * 9 + j - y.vals.length = i * 9 + j := by show (i + 1) * 9 + j - 9 = i * 9 + j; omega
      rw [this]
      exact ih i (by simpa using hi)
theorem rows_one (L : List Sl) : ∀ v ∈ rows L, v.oneCell' = true := by
  intro v hv
  unfold rows at hv
  obtain ⟨x, _, hx⟩ := List.mem_flatMap.1 hv
  unfold Sl.vals at hx
  simp only [List.mem_cons, List.not_mem_nil, or_false] at hx
  rcases hx with rfl | rfl | rfl | rfl | rfl | rfl | rfl | rfl | rfl <;> rfl
/-- The table at block t has the slots L, in memory that is newer than base. -/
structure RT (base : Nat) (w : World) (t : Nat) (a : Option Addr) (cap : Nat) (L : List Sl) : Prop where
  head : Bk w t 30 [.slice a L.length cap]
  own : w.ownsRow base 78 9 (.slice a L.length cap) L.length (rows L)
  new : base ≤ t
  apart : ∀ g, a = some ⟨g, 0, none⟩ → g ≠ t
  small : L.length ≤ 65536
theorem RT.addr {base : Nat} {w : World} {t : Nat} {a : Option Addr} {cap : Nat} {L : List Sl} (h : RT base w t a cap L) (hp : 0 < L.length) : ∃ g, a = some ⟨g, 0, none⟩ := by
  rcases h.own.2 with ⟨e, hz⟩ | ⟨g, c, cur, e, _⟩
  · omega
  · cases e; exact ⟨g, rfl⟩
theorem RT.kept {base : Nat} {w w' : World} {t : Nat} {a : Option Addr} {cap : Nat} {L : List Sl} {S : List Nat} (h : RT base w t a cap L) (k : Kp S w w') (ht : t ∉ S) (ha : ∀ g, a = some ⟨g, 0, none⟩ → g ∉ S) : RT base w' t a cap L := by
  refine ⟨h.head.kept k ht, ⟨h.own.1, ?_⟩, h.new, h.apart, h.small⟩
  rcases h.own.2 with hz | ⟨g, c, cur, e, hb, hg, rest⟩
  · exact .inl hz
  · cases e
    exact .inr ⟨g, _, cur, rfl, hb, (k.block g (Array.getElem?_eq_some_iff.1 hg).1 (ha g rfl)).trans hg, rest⟩
theorem RT.grew {base : Nat} {w w' : World} {t : Nat} {a : Option Addr} {cap : Nat} {L : List Sl} (h : RT base w t a cap L) (k : Kp [] w w') : RT base w' t a cap L := h.kept k (by simp) (fun g _ => by simp)
theorem RT.drewN {base : Nat} {w : World} {t : Nat} {a : Option Addr} {cap : Nat} {L : List Sl} (h : RT base w t a cap L) (k : Nat) : RT base (w.drewN k) t a cap L := h.grew ((Kp.refl [] w).drewN k)
/-- A slot's cells. -/
theorem RT.cell {base : Nat} {w : World} {t g : Nat} {cap : Nat} {L : List Sl} (h : RT base w t (some ⟨g, 0, none⟩) cap L) {i : Nat} {x : Sl} (hx : L[i]? = some x) (j : Nat) (hj : j < 9) : w.cell? ⟨g, i * 9 + j, none⟩ = x.vals[j]? := by
  have hi : i < L.length := (List.getElem?_eq_some_iff.1 hx).1
  rw [World.ownsRow.cellAt h.own (i * 9 + j) (by omega), rows_get L i j x hx hj]
/-- Where a place stands. -/
def atL (L : List Sl) (n s : Int) : Option Nat := L.findIdx? fun x => x.n == n && x.s == s
def atI (L : List Sl) (n s : Int) : Int := match atL L n s with | some i => (i : Int) | none => -1
theorem atL_some {L : List Sl} {n s : Int} {i : Nat} (h : atL L n s = some i) : ∃ x, L[i]? = some x ∧ x.n = n ∧ x.s = s := by
  unfold atL at h
  obtain ⟨hi, h1, _⟩ := List.findIdx?_eq_some_iff_getElem.1 h
  exact ⟨L[i], List.getElem?_eq_getElem hi, by simp at h1; exact h1.1, by simp at h1; exact h1.2⟩
theorem atI_hit {L : List Sl} {n s : Int} {j : Nat} {x : Sl} (h : ∀ l, l < j → ∀ x, L[l]? = some x → ¬ (x.n = n ∧ x.s = s)) (hx : L[j]? = some x) (h1 : x.n = n) (h2 : x.s = s) : atI L n s = (j : Int) := by
  obtain ⟨hj, rfl⟩ := List.getElem?_eq_some_iff.1 hx
  have : atL L n s = some j := by
    unfold atL
    refine List.findIdx?_eq_some_iff_getElem.2 ⟨hj, by simp [h1, h2], fun l hl => ?_⟩
    have := h l hl _ (List.getElem?_eq_getElem (by omega))
    simpa using this
  unfold atI
  rw [this]
theorem atI_miss {L : List Sl} {n s : Int} (h : ∀ l, l < L.length → ∀ x, L[l]? = some x → ¬ (x.n = n ∧ x.s = s)) : atI L n s = -1 := by
  have : atL L n s = none := by
    unfold atL
    refine List.findIdx?_eq_none_iff.2 fun x hx => ?_
    obtain ⟨l, hl, rfl⟩ := List.mem_iff_getElem.1 hx
    have := h l hl _ (List.getElem?_eq_getElem hl)
    simpa using this
  unfold atI
  rw [this]
theorem not_more {L : List Sl} {n s : Int} {j : Nat} {x : Sl} (h : ∀ l, l < j → ∀ x, L[l]? = some x → ¬ (x.n = n ∧ x.s = s)) (hx : L[j]? = some x) (hn : ¬ (x.n = n ∧ x.s = s)) : ∀ l, l < j + 1 → ∀ x, L[l]? = some x → ¬ (x.n = n ∧ x.s = s) := by
  intro l hl y hy
  by_cases e : l = j
  · subst e; rw [hx] at hy; cases hy; exact hn
  · exact h l (by omega) y hy
set_option maxHeartbeats 1000000 in
theorem at_calls {base : Nat} {w : World} {t : Nat} {a : Option Addr} {cap : Nat} {L : List Sl} (h : RT base w t a cap L) (n s : Int) :
    Calls Try.prog 34 #[.pointer (some ⟨t, 0, none⟩), .agg #[.int .i64 n, .int .i64 s]] w fun e w' => e = .returned (.int .i64 (atI L n s)) ∧ Kp [] w w' := by
  have hs := h.small
  have H0 := hide (h.grew ((Kp.refl [] w).alloc (.cells #[.int .i64 n, .int .i64 s] 40)))
  have K0 := hide ((Kp.refl [] w).alloc (.cells #[.int .i64 n, .int .i64 s] 40))
  have P0 := hide (Bk.new w 40 [.int .i64 n, .int .i64 s])
  have c0 := (unhide H0).head.cell (i := 0) rfl
  clear h
  go_enter Try.func34, Try.ntmps34
  go_wp2_with fail
  go_loopg [5] L.length (fun m i wx => ∃ j : Nat, j ≤ L.length ∧ m = L.length - j ∧ i = .int .i64 j ∧ (∀ l, l < j → ∀ x, L[l]? = some x → ¬ (x.n = n ∧ x.s = s)) ∧ RT base wx t a cap L ∧ Bk wx w.heap.size 40 [.int .i64 n, .int .i64 s] ∧ Kp [] w wx)
  case atStart => exact ⟨0, Nat.zero_le _, rfl, rfl, fun l hl => by omega, unhide H0, unhide P0, unhide K0⟩
  case round =>
    obtain ⟨j, hj, rfl, rfl, hnot, hR, hP, hK⟩ := hrel
    clear H0 K0 P0 c0
    have c0 := hR.head.cell (i := 0) rfl
    have p0 := hP.cell (i := 0) rfl
    have p1 := hP.cell (i := 1) rfl
    by_cases hlt : j < L.length
    · obtain ⟨g, rfl⟩ := hR.addr (by omega)
      obtain ⟨x, hx⟩ : ∃ x, L[j]? = some x := ⟨_, List.getElem?_eq_getElem hlt⟩
      have x0 := hR.cell hx 0 (by omega)
      have x1 := hR.cell hx 1 (by omega)
      replace x0 : wr.cell? ⟨g, j * 9, none⟩ = some (.int .i64 x.n) := x0
      replace x1 : wr.cell? ⟨g, j * 9 + 1, none⟩ = some (.int .i64 x.s) := x1
      have b1 : (j : Int) < (L.length : Int) := by omega
      have b2 : ((j : Int)).toNat = j := Int.toNat_natCast j
      obtain ⟨xn, hxn⟩ : ∃ v, x.n = v := ⟨_, rfl⟩
      obtain ⟨xs, hxs⟩ : ∃ v, x.s = v := ⟨_, rfl⟩
      rw [hxn] at x0
      rw [hxs] at x1
      replace hxn := hide hxn
      replace hxs := hide hxs
      replace hR := hide hR
      replace hP := hide hP
      replace hK := hide hK
      replace hnot := hide hnot
      have hx' := hide hx
      clear hx
      by_cases e1 : xn = n
      · by_cases e2 : xs = s
        · subst e1 e2
          go_wp2_with fail
          go_quiet (fail)
          go_wp2
          go_ret
          exact ⟨ret_int (atI_hit (unhide hnot) (unhide hx') (unhide hxn) (unhide hxs)).symm, (unhide hK).drewN _⟩
        · subst e1
          have e2' : (xs == s) = false := beq_eq_false_iff_ne.2 e2
          go_wp2_with fail
          go_quiet (fail)
          go_wp2
          go_roundg (L.length - (j + 1))
          case measure => omega
          case rel => exact ⟨j + 1, by omega, rfl, by go_num, not_more (unhide hnot) (unhide hx') (fun H => e2 ((unhide hxs).symm.trans H.2)), (unhide hR).drewN _, (unhide hP).drewN _, (unhide hK).drewN _⟩
      · have e1' : (xn == n) = false := beq_eq_false_iff_ne.2 e1
        go_wp2_with fail
        go_quiet (fail)
        go_wp2
        go_roundg (L.length - (j + 1))
        case measure => omega
        case rel => exact ⟨j + 1, by omega, rfl, by go_num, not_more (unhide hnot) (unhide hx') (fun H => e1 ((unhide hxn).symm.trans H.1)), (unhide hR).drewN _, (unhide hP).drewN _, (unhide hK).drewN _⟩
    · have b1 : decide ((j : Int) < (L.length : Int)) = false := decide_eq_false (by omega)
      replace hR := hide hR
      replace hP := hide hP
      replace hK := hide hK
      replace hnot := hide hnot
      go_wp2
      go_ret
      exact ⟨ret_int (atI_miss (fun l hl => unhide hnot l (by omega))).symm, unhide hK⟩
theorem atL_none {L : List Sl} {n s : Int} (h : atL L n s = none) : atI L n s = -1 := by unfold atI; rw [h]
theorem atL_atI {L : List Sl} {n s : Int} {i : Nat} (h : atL L n s = some i) : atI L n s = (i : Int) := by unfold atI; rw [h]
def placeP (n s : Int) : Prop := (1 ≤ n ∧ n ≤ 64) ∧ (0 ≤ s ∧ s < 16)
def decPlace (n s : Int) : Decidable (placeP n s) := by unfold placeP; exact (if h : _ then isTrue h else isFalse h)
def placeOk (n s : Int) : Bool := @decide (placeP n s) (decPlace n s)
theorem placeOk_iff (n s : Int) : placeOk n s = true ↔ placeP n s := by unfold placeOk; exact @decide_eq_true_iff _ (decPlace n s)
def beforeP (n s n' s' : Int) : Prop := n < n' ∨ n = n' ∧ s < s'
def decBefore (n s n' s' : Int) : Decidable (beforeP n s n' s') := by unfold beforeP; exact (if h : _ then isTrue h else isFalse h)
def before (n s n' s' : Int) : Bool := @decide (beforeP n s n' s') (decBefore n s n' s')
theorem before_iff (n s n' s' : Int) : before n s n' s' = true ↔ beforeP n s n' s' := by unfold before; exact @decide_eq_true_iff _ (decBefore n s n' s')
set_option maxHeartbeats 400000 in
theorem rplace_calls (n s : Int) (w : World) :
    Calls Try.prog 33 #[.agg #[.int .i64 n, .int .i64 s]] w fun e w' => e = .returned (.bool (placeOk n s)) ∧ Kp [] w w' := by
  obtain ⟨v1, h1⟩ : ∃ v, decide (1 ≤ n) = v := ⟨_, rfl⟩
  obtain ⟨v2, h2⟩ : ∃ v, decide (n ≤ 64) = v := ⟨_, rfl⟩
  obtain ⟨v3, h3⟩ : ∃ v, decide (0 ≤ s) = v := ⟨_, rfl⟩
  have HE := hide (show (v1 && (v2 && (v3 && decide (s < 16)))) = placeOk n s from by rw [← h1, ← h2, ← h3]; refine Bool.eq_iff_iff.2 ?_; rw [placeOk_iff]; simp [placeP, and_assoc])
  cases v1
  · clear h2 h3
    go_enter Try.func33, Try.ntmps33
    go_wp2
    go_ret
    exact ⟨ret_bool (unhide HE), (Kp.refl _ _).alloc _⟩
  cases v2
  · clear h3
    go_enter Try.func33, Try.ntmps33
    go_wp2
    go_ret
    exact ⟨ret_bool (unhide HE), (Kp.refl _ _).alloc _⟩
  cases v3 <;>
  · go_enter Try.func33, Try.ntmps33
    go_wp2
    go_ret
    exact ⟨ret_bool (unhide HE), (Kp.refl _ _).alloc _⟩
set_option maxHeartbeats 400000 in
theorem rbefore_calls (n s n' s' : Int) (w : World) :
    Calls Try.prog 36 #[.agg #[.int .i64 n, .int .i64 s], .agg #[.int .i64 n', .int .i64 s']] w fun e w' => e = .returned (.bool (before n s n' s')) ∧ Kp [] w w' := by
  obtain ⟨v1, h1⟩ : ∃ v, decide (n < n') = v := ⟨_, rfl⟩
  obtain ⟨v2, h2⟩ : ∃ v, (n == n') = v := ⟨_, rfl⟩
  have HE := hide (show (v1 || (v2 && decide (s < s'))) = before n s n' s' from by rw [← h1, ← h2]; refine Bool.eq_iff_iff.2 ?_; rw [before_iff]; simp [beforeP])
  cases v1
  · cases v2 <;>
    · go_enter Try.func36, Try.ntmps36
      go_wp2
      go_ret
      exact ⟨ret_bool (unhide HE), ((Kp.refl _ _).alloc _).alloc _⟩
  · clear h2
    go_enter Try.func36, Try.ntmps36
    go_wp2
    go_ret
    exact ⟨ret_bool (unhide HE), ((Kp.refl _ _).alloc _).alloc _⟩
theorem after_two {w W1 : World} {T T' : TypeId} {a : Array Value} {vs : List Value} (K1 : Kp [] ((w.alloc (.cells a T)).alloc (.cells vs.toArray T')) W1) : Bk W1 (w.heap.size + 1) T' vs ∧ Kp [] w W1 :=
  ⟨Bk.kept (Bk.next (w.alloc (.cells a T)) T' vs (by simp)) K1 (by simp), (((Kp.refl [] w).alloc _).alloc _).then K1⟩
set_option maxHeartbeats 400000 in
theorem rget_no {base : Nat} {w : World} {t : Nat} {a : Option Addr} {cap : Nat} {L : List Sl} (h : RT base w t a cap L) (n s : Int) (hn : atL L n s = none) :
    Calls Try.prog 12 #[.pointer (some ⟨t, 0, none⟩), .agg #[.int .i64 n, .int .i64 s]] w fun e w' => e = .returned (.tuple #[capV 0 0 0 0 0, .bool false]) ∧ Kp [] w w' := by
  have H0 := hide (h.grew (((Kp.refl [] w).alloc (.cells #[.int .i64 n, .int .i64 s] 40)).alloc (.cells #[.int .i64 0, .int .i64 0, .int .i64 0, .int .i64 0, .int .i64 0] 38)))
  have HA := hide (atL_none hn)
  clear h hn
  go_enter Try.func12, Try.ntmps12
  go_wp2_with fail
  refine (at_calls (unhide H0) n s).mono ?_
  rintro e W1 ⟨rfl, K1⟩
  rw [unhide HA]
  obtain ⟨B2, K2⟩ := after_two (vs := [.int .i64 0, .int .i64 0, .int .i64 0, .int .i64 0, .int .i64 0]) K1
  clear K1
  have e0 := B2.cell (i := 0) rfl
  have e1 := B2.cell (i := 1) rfl
  have e2 := B2.cell (i := 2) rfl
  have e3 := B2.cell (i := 3) rfl
  have e4 := B2.cell (i := 4) rfl
  have f0 := B2.frozen
  clear B2
  replace K2 := hide K2
  go_wp2
  exact bodyPost_ret (v := .tuple #[capV 0 0 0 0 0, .bool false]) (by simp [results, Try.results12, go_sem, *]) rfl ⟨rfl, five (unhide K2) (by simp) _ _ _ _ _⟩
set_option maxHeartbeats 400000 in
theorem rget_yes {base : Nat} {w : World} {t : Nat} {a : Option Addr} {cap : Nat} {L : List Sl} (h : RT base w t a cap L) (n s : Int) {i : Nat} {x : Sl} (hn : atL L n s = some i) (hx : L[i]? = some x) :
    Calls Try.prog 12 #[.pointer (some ⟨t, 0, none⟩), .agg #[.int .i64 n, .int .i64 s]] w fun e w' => e = .returned (.tuple #[capV x.k x.o x.z x.b x.r, .bool true]) ∧ Kp [] w w' := by
  have hi : i < L.length := (List.getElem?_eq_some_iff.1 hx).1
  have hs := h.small
  obtain ⟨g, rfl⟩ := h.addr (by omega)
  have H := hide h
  have H0 := hide (h.grew (((Kp.refl [] w).alloc (.cells #[.int .i64 n, .int .i64 s] 40)).alloc (.cells #[.int .i64 0, .int .i64 0, .int .i64 0, .int .i64 0, .int .i64 0] 38)))
  have HA := hide (atL_atI hn)
  have HX := hide hx
  have b1 : (i : Int) < (L.length : Int) := by omega
  have b2 : ((i : Int)).toNat = i := Int.toNat_natCast i
  have b3 : decide ((i : Int) < 0) = false := decide_eq_false (by omega)
  obtain ⟨k, hk⟩ : ∃ v, x.k = v := ⟨_, rfl⟩
  obtain ⟨o, ho⟩ : ∃ v, x.o = v := ⟨_, rfl⟩
  obtain ⟨z, hz⟩ : ∃ v, x.z = v := ⟨_, rfl⟩
  obtain ⟨b, hb⟩ : ∃ v, x.b = v := ⟨_, rfl⟩
  obtain ⟨r, hr⟩ : ∃ v, x.r = v := ⟨_, rfl⟩
  rw [hk, ho, hz, hb, hr]
  replace hk := hide hk
  replace ho := hide ho
  replace hz := hide hz
  replace hb := hide hb
  replace hr := hide hr
  clear h hn hx
  go_enter Try.func12, Try.ntmps12
  go_wp2_with fail
  refine (at_calls (unhide H0) n s).mono ?_
  rintro e W1 ⟨rfl, K1⟩
  rw [unhide HA]
  obtain ⟨B2, K2⟩ := after_two (vs := [.int .i64 0, .int .i64 0, .int .i64 0, .int .i64 0, .int .i64 0]) K1
  have R1 := (unhide H).grew K2
  clear K1
  have e0 := B2.cell (i := 0) rfl
  have e1 := B2.cell (i := 1) rfl
  have e2 := B2.cell (i := 2) rfl
  have e3 := B2.cell (i := 3) rfl
  have e4 := B2.cell (i := 4) rfl
  have f0 := B2.frozen
  have c0 := R1.head.cell (i := 0) rfl
  have x4 : W1.cell? ⟨g, i * 9 + 4, none⟩ = some (.int .i64 k) := by rw [← unhide hk]; exact R1.cell (unhide HX) 4 (by omega)
  have x5 : W1.cell? ⟨g, i * 9 + 5, none⟩ = some (.int .i64 o) := by rw [← unhide ho]; exact R1.cell (unhide HX) 5 (by omega)
  have x6 : W1.cell? ⟨g, i * 9 + 6, none⟩ = some (.int .i64 z) := by rw [← unhide hz]; exact R1.cell (unhide HX) 6 (by omega)
  have x7 : W1.cell? ⟨g, i * 9 + 7, none⟩ = some (.int .i64 b) := by rw [← unhide hb]; exact R1.cell (unhide HX) 7 (by omega)
  have x8 : W1.cell? ⟨g, i * 9 + 8, none⟩ = some (.int .i64 r) := by rw [← unhide hr]; exact R1.cell (unhide HX) 8 (by omega)
  clear B2 R1
  replace K2 := hide K2
  go_wp2
  exact bodyPost_ret (v := .tuple #[capV k o z b r, .bool true]) (by simp [results, Try.results12, go_sem, *]) rfl ⟨rfl, five (unhide K2) (by simp) _ _ _ _ _⟩
set_option maxHeartbeats 400000 in
theorem rparent_no {base : Nat} {w : World} {t : Nat} {a : Option Addr} {cap : Nat} {L : List Sl} (h : RT base w t a cap L) (n s : Int) (hn : atL L n s = none) :
    Calls Try.prog 28 #[.pointer (some ⟨t, 0, none⟩), .agg #[.int .i64 n, .int .i64 s]] w fun e w' => e = .returned (.agg #[.int .i64 0, .int .i64 0]) ∧ Kp [] w w' := by
  have H0 := hide (h.grew (((Kp.refl [] w).alloc (.cells #[.int .i64 n, .int .i64 s] 40)).alloc (.cells #[.int .i64 0, .int .i64 0] 40)))
  have HA := hide (atL_none hn)
  clear h hn
  go_enter Try.func28, Try.ntmps28
  go_wp2_with fail
  refine (at_calls (unhide H0) n s).mono ?_
  rintro e W1 ⟨rfl, K1⟩
  rw [unhide HA]
  obtain ⟨B2, K2⟩ := after_two (vs := [.int .i64 0, .int .i64 0]) K1
  clear K1
  have e0 := B2.cell (i := 0) rfl
  have e1 := B2.cell (i := 1) rfl
  have f0 := B2.frozen
  clear B2
  replace K2 := hide K2
  go_wp2
  exact bodyPost_ret (v := .agg #[.int .i64 0, .int .i64 0]) (by simp [results, Try.results28, go_sem, *]) rfl ⟨rfl, ((unhide K2).setCell (.inr (by simp)) _).setCell (.inr (by simp)) _⟩
set_option maxHeartbeats 400000 in
theorem rparent_yes {base : Nat} {w : World} {t : Nat} {a : Option Addr} {cap : Nat} {L : List Sl} (h : RT base w t a cap L) (n s : Int) {i : Nat} {x : Sl} (hn : atL L n s = some i) (hx : L[i]? = some x) :
    Calls Try.prog 28 #[.pointer (some ⟨t, 0, none⟩), .agg #[.int .i64 n, .int .i64 s]] w fun e w' => e = .returned (.agg #[.int .i64 x.u, .int .i64 x.v]) ∧ Kp [] w w' := by
  have hi : i < L.length := (List.getElem?_eq_some_iff.1 hx).1
  have hs := h.small
  obtain ⟨g, rfl⟩ := h.addr (by omega)
  have H := hide h
  have H0 := hide (h.grew (((Kp.refl [] w).alloc (.cells #[.int .i64 n, .int .i64 s] 40)).alloc (.cells #[.int .i64 0, .int .i64 0] 40)))
  have HA := hide (atL_atI hn)
  have HX := hide hx
  have b1 : (i : Int) < (L.length : Int) := by omega
  have b2 : ((i : Int)).toNat = i := Int.toNat_natCast i
  have b3 : decide ((i : Int) < 0) = false := decide_eq_false (by omega)
  obtain ⟨u, hu⟩ : ∃ v, x.u = v := ⟨_, rfl⟩
  obtain ⟨v, hv⟩ : ∃ v, x.v = v := ⟨_, rfl⟩
  rw [hu, hv]
  replace hu := hide hu
  replace hv := hide hv
  clear h hn hx
  go_enter Try.func28, Try.ntmps28
  go_wp2_with fail
  refine (at_calls (unhide H0) n s).mono ?_
  rintro e W1 ⟨rfl, K1⟩
  rw [unhide HA]
  obtain ⟨B2, K2⟩ := after_two (vs := [.int .i64 0, .int .i64 0]) K1
  have R1 := (unhide H).grew K2
  clear K1
  have e0 := B2.cell (i := 0) rfl
  have e1 := B2.cell (i := 1) rfl
  have f0 := B2.frozen
  have c0 := R1.head.cell (i := 0) rfl
  have x2 : W1.cell? ⟨g, i * 9 + 2, none⟩ = some (.int .i64 u) := by rw [← unhide hu]; exact R1.cell (unhide HX) 2 (by omega)
  have x3 : W1.cell? ⟨g, i * 9 + 3, none⟩ = some (.int .i64 v) := by rw [← unhide hv]; exact R1.cell (unhide HX) 3 (by omega)
  clear B2 R1
  replace K2 := hide K2
  go_wp2
  exact bodyPost_ret (v := .agg #[.int .i64 u, .int .i64 v]) (by simp [results, Try.results28, go_sem, *]) rfl ⟨rfl, ((unhide K2).setCell (.inr (by simp)) _).setCell (.inr (by simp)) _⟩
/-- The parent, by the list: nothing where the place has none. -/
def parL (L : List Sl) (n s : Int) : Int × Int := match atL L n s with | some i => (match L[i]? with | some x => (x.u, x.v) | none => (0, 0)) | none => (0, 0)
theorem rparent_calls {base : Nat} {w : World} {t : Nat} {a : Option Addr} {cap : Nat} {L : List Sl} (h : RT base w t a cap L) (n s u v : Int) (hp : parL L n s = (u, v)) :
    Calls Try.prog 28 #[.pointer (some ⟨t, 0, none⟩), .agg #[.int .i64 n, .int .i64 s]] w fun e w' => e = .returned (.agg #[.int .i64 u, .int .i64 v]) ∧ Kp [] w w' := by
  unfold parL at hp
  cases ha : atL L n s with
  | none => rw [ha] at hp; cases hp; exact rparent_no h n s ha
  | some i =>
    obtain ⟨x, hx, _, _⟩ := atL_some ha
    rw [ha] at hp
    simp only [hx] at hp
    cases hp
    exact rparent_yes h n s ha hx
/-- Places as the cells of a row. -/
def prow (ps : List (Int × Int)) : List Value := ps.flatMap fun q => [.int .i64 q.1, .int .i64 q.2]
theorem prow_app (a b : List (Int × Int)) : prow (a ++ b) = prow a ++ prow b := by unfold prow; rw [List.flatMap_append]
theorem prow_len (ps : List (Int × Int)) : (prow ps).length = ps.length * 2 := by
  induction ps with
  | nil => rfl
  | cons x L ih => unfold prow at *; rw [List.flatMap_cons, List.length_append, ih]; show 2 + L.length * 2 = (L.length + 1) * 2; omega
/-- The places of the slots that are asked for. -/
def sel (f : Sl → Bool) (L : List Sl) : List (Int × Int) := (L.filter f).map fun x => (x.n, x.s)
theorem sel_len (f : Sl → Bool) (L : List Sl) : (sel f L).length ≤ L.length := by unfold sel; rw [List.length_map]; exact List.length_filter_le _ _
theorem sel_yes {f : Sl → Bool} {L : List Sl} {j : Nat} {x : Sl} (hx : L[j]? = some x) (hf : f x = true) : sel f (L.take (j + 1)) = sel f (L.take j) ++ [(x.n, x.s)] := by
  obtain ⟨hj, rfl⟩ := List.getElem?_eq_some_iff.1 hx
  unfold sel
  rw [List.take_succ_eq_append_getElem hj, List.filter_append, List.map_append]
  simp [hf]
theorem sel_no {f : Sl → Bool} {L : List Sl} {j : Nat} {x : Sl} (hx : L[j]? = some x) (hf : f x = false) : sel f (L.take (j + 1)) = sel f (L.take j) := by
  obtain ⟨hj, rfl⟩ := List.getElem?_eq_some_iff.1 hx
  unfold sel
  rw [List.take_succ_eq_append_getElem hj, List.filter_append, List.map_append]
  simp [hf]
/-- A list of places in new memory. -/
def Pl (base : Nat) (w : World) (v : Value) (ps : List (Int × Int)) : Prop := w.ownsRow base 40 2 v ps.length (prow ps)
theorem Pl.nil (base : Nat) (w : World) : Pl base w (.slice none 0 0) [] := ⟨rfl, .inl ⟨rfl, rfl⟩⟩
theorem Pl.form {base : Nat} {w : World} {v : Value} {ps : List (Int × Int)} (h : Pl base w v ps) : ∃ a c, v = .slice a ps.length c := by
  rcases h.2 with ⟨e, hz⟩ | ⟨g, c, cur, e, _⟩
  · exact ⟨none, 0, by rw [e, hz]⟩
  · exact ⟨_, c, e⟩
theorem Pl.kept {base : Nat} {w w' : World} {v : Value} {ps : List (Int × Int)} {S : List Nat} (h : Pl base w v ps) (k : Kp S w w') (hn : ∀ g, v.ownBlock = some g → g ∉ S) : Pl base w' v ps := by
  refine ⟨h.1, ?_⟩
  rcases h.2 with hz | ⟨g, c, cur, e, hb, hg, rest⟩
  · exact .inl hz
  · exact .inr ⟨g, c, cur, e, hb, (k.block g (Array.getElem?_eq_some_iff.1 hg).1 (hn g (by rw [e]; rfl))).trans hg, rest⟩
theorem Pl.more {base : Nat} {w : World} {v : Value} {ps : List (Int × Int)} {n s : Int} (h : w.ownsRow base 40 2 v (ps.length + 1) (prow ps ++ [.int .i64 n, .int .i64 s])) : Pl base w v (ps ++ [(n, s)]) := by
  unfold Pl
  rw [prow_app, List.length_append]
  exact h
theorem Pl.mono {base base' : Nat} {w : World} {v : Value} {ps : List (Int × Int)} (h : Pl base w v ps) (hb : base' ≤ base) : Pl base' w v ps := by
  refine ⟨h.1, ?_⟩
  rcases h.2 with hz | ⟨g, c, cur, e, hg, rest⟩
  · exact .inl hz
  · exact .inr ⟨g, c, cur, e, Nat.le_trans hb hg, rest⟩
def ListP (w : World) (ps : List (Int × Int)) (e : Ending) (w' : World) : Prop := ∃ v, e = .returned v ∧ Pl w.heap.size w' v ps ∧ Kp [] w w'
theorem Try.infoPlace : (Try.prog.info? 40).map (fun i => (i.zero, i.size, i.bytes)) = some (some (.agg #[.int .i64 0, .int .i64 0]), 2, 16) := by kernel_rfl
theorem place_new (w : World) (n s : Int) : ∀ j u, ([Value.int .i64 n, .int .i64 s] : List Value)[j]? = some u → (w.alloc (.cells #[.int .i64 n, .int .i64 s] 40)).cell? ((⟨w.heap.size, 0, none⟩ : Addr).add j) = some u := fun j u h => by
  rw [Addr.add_mid, Nat.zero_add]
  exact (Bk.new w 40 [.int .i64 n, .int .i64 s]).cell h
theorem kp_grown {w wr w' : World} {row : Option Nat} (K : Kp [] w wr) (hg : wr.grownBy w' row) (hr : ∀ k, row = some k → w.heap.size ≤ k) : Kp [] w w' :=
  Kp.ofBelow ((K.below (Nat.le_refl _) (by simp)).grown hg K.size hr) []
set_option maxHeartbeats 1000000 in
theorem rall_calls {base : Nat} {w : World} {t : Nat} {a : Option Addr} {cap : Nat} {L : List Sl} (h : RT base w t a cap L) :
    Calls Try.prog 21 #[.pointer (some ⟨t, 0, none⟩)] w (ListP w (sel (fun _ => true) L)) := by
  obtain ⟨i0, hi, hinf⟩ := Option.map_eq_some_iff.1 Try.infoPlace
  simp only [Prod.mk.injEq] at hinf
  obtain ⟨hz0, hz1, hz2⟩ := hinf
  have hs := h.small
  have H := hide h
  clear h
  go_enter Try.func21, Try.ntmps21
  go_wp2_with fail
  go_loopg [3, 4] L.length (fun m v i wx => ∃ j : Nat, j ≤ L.length ∧ m = L.length - j ∧ i = .int .i64 j ∧ Pl w.heap.size wx v (sel (fun _ => true) (L.take j)) ∧ Kp [] w wx)
  case atStart => exact ⟨0, Nat.zero_le _, rfl, rfl, Pl.nil _ _, Kp.refl _ _⟩
  case round =>
    obtain ⟨j, hj, rfl, rfl, hP, hK⟩ := hrel
    have hR := (unhide H).grew hK
    have c0 := hR.head.cell (i := 0) rfl
    by_cases hlt : j < L.length
    · obtain ⟨g, rfl⟩ := hR.addr (by omega)
      obtain ⟨x, hx⟩ : ∃ x, L[j]? = some x := ⟨_, List.getElem?_eq_getElem hlt⟩
      obtain ⟨n, hn⟩ : ∃ v, x.n = v := ⟨_, rfl⟩
      obtain ⟨s, hs'⟩ : ∃ v, x.s = v := ⟨_, rfl⟩
      have x0 : wr.cell? ⟨g, j * 9, none⟩ = some (.int .i64 n) := by rw [← hn]; exact hR.cell hx 0 (by omega)
      have x1 : wr.cell? ⟨g, j * 9 + 1, none⟩ = some (.int .i64 s) := by rw [← hs']; exact hR.cell hx 1 (by omega)
      have b1 : (j : Int) < (L.length : Int) := by omega
      have b2 : ((j : Int)).toNat = j := Int.toNat_natCast j
      have hlen := sel_len (fun _ => true) (L.take j)
      rw [List.length_take] at hlen
      have hmore := sel_yes (f := fun _ => true) hx rfl
      rw [hn, hs'] at hmore
      obtain ⟨ps, hps⟩ : ∃ ps, sel (fun _ => true) (L.take j) = ps := ⟨_, rfl⟩
      rw [hps] at hP hmore hlen
      replace hmore := hide hmore
      clear hR hn hs' hx hps
      replace hP := hide hP
      replace hK := hide hK
      go_wp2_with (first
        | (at_builtin; refine wpList_append_own _ rfl _ _ 59 rfl w.heap.size 40 i0 (.agg #[.int .i64 0, .int .i64 0]) 2 16 Try.underlying59 hi hz0 hz1 hz2 rfl (by decide) _ _ _ rfl ((unhide hP).alloc _) ⟨wr.heap.size, 0, none⟩ 1 1 [.int .i64 n, .int .i64 s] rfl rfl (place_new _ _ _) ?c2 ?c3 ?c4 ?c5 ?_)
        | go_in)
      case c2 => intro u hu; simp at hu; rcases hu with rfl | rfl <;> rfl
      case c3 => unfold maxLen; omega
      case c4 => omega
      case c5 => have := (unhide hK).size; simp; omega
      intro v' w1 hown' hgrow hnil
      have hP1 : Hid (Pl w.heap.size w1 v' (sel (fun _ => true) (L.take (j + 1)))) := by
        unfold Hid
        rw [unhide hmore]
        exact Pl.more hown'
      have hK1 := hide (kp_grown ((unhide hK).alloc _) hgrow (fun k hk => (World.ownsRow.lt (unhide hP) k hk).1))
      clear hP hK hmore hown' hgrow hnil
      go_wp2
      go_roundg (L.length - (j + 1))
      case measure => omega
      case rel => exact ⟨j + 1, by omega, rfl, by go_num, unhide hP1, unhide hK1⟩
    · have b1 : decide ((j : Int) < (L.length : Int)) = false := decide_eq_false (by omega)
      rw [List.take_of_length_le (show L.length ≤ j by omega)] at hP
      replace hP := hide hP
      replace hK := hide hK
      clear hR
      go_wp2
      go_ret
      exact ⟨_, rfl, unhide hP, unhide hK⟩
/-- The children of a place. -/
def kidF (n s : Int) (x : Sl) : Bool := (x.u == n && x.v == s) && !(n == 0 && s == 0)
/-- Those of one name. -/
def nameF (k o z : Int) (x : Sl) : Bool := namesP x.k x.o x.z k o z
/-- Up from a place, no further than the one that is asked for, or to where there is no parent. -/
def climb (L : List Sl) (n s : Int) : Nat → Int → Int → Int × Int
  | 0, u, v => (u, v)
  | m + 1, u, v => if (u = n ∧ v = s) ∨ (u = 0 ∧ v = 0) then (u, v) else climb L n s m (parL L u v).1 (parL L u v).2
theorem climb_stop {L : List Sl} {n s u v : Int} (h : (u = n ∧ v = s) ∨ (u = 0 ∧ v = 0)) (m : Nat) : climb L n s m u v = (u, v) := by
  cases m with
  | zero => rfl
  | succ m => unfold climb; rw [if_pos h]
theorem climb_up {L : List Sl} {n s u v u' v' : Int} (h : ¬ ((u = n ∧ v = s) ∨ (u = 0 ∧ v = 0))) (hp : parL L u v = (u', v')) (m : Nat) : climb L n s (m + 1) u v = climb L n s m u' v' := by
  rw [climb, if_neg h, hp]
def lowF (L : List Sl) (n s : Int) (x : Sl) : Bool := ((climb L n s (L.length + 1) x.u x.v).1 == n && (climb L n s (L.length + 1) x.u x.v).2 == s) && !(n == 0 && s == 0)
end Go.Proofs.Ythjhpcbhkcmghaa
