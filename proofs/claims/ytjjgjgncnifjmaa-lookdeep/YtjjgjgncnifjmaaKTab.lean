/- The document's table of slots (ringkernref1.Table), as a list; what finds a place in it. -/
import Derived.Test.YtjjgjgncnifjmaaKCaps3
import Derived.Deep.AppendLies
import Derived.Deep.CutBlock
import Derived.Deep.DeepCutAuto
import Derived.Deep.RegionHeld3
import Derived.Deep.RegionLaw
import Derived.BigRegion
namespace Go.Proofs.Ytjjgjgncnifjmaa
open Go.RowKit
set_option linter.unusedVariables false
/-- A slot: its place, its parent, its capability. -/
structure Sl where
  n : Int
  s : Int
  u : Int
  v : Int
  k : Int
  o : Int
  z : Int
  b : Int
  r : Int
def Sl.vals (x : Sl) : List Value := [.int .i64 x.n, .int .i64 x.s, .int .i64 x.u, .int .i64 x.v, .int .i64 x.k, .int .i64 x.o, .int .i64 x.z, .int .i64 x.b, .int .i64 x.r]
def rows (L : List Sl) : List Value := L.flatMap Sl.vals
theorem rows_len (L : List Sl) : (rows L).length = L.length * 9 := by
  induction L with
  | nil => rfl
  | cons x L ih => unfold rows at *; rw [List.flatMap_cons, List.length_append, ih]; show 9 + L.length * 9 = (L.length + 1) * 9; omega
theorem rows_app (L M : List Sl) : rows (L ++ M) = rows L ++ rows M := by unfold rows; rw [List.flatMap_append]
theorem rows_get (L : List Sl) (i j : Nat) (x : Sl) (hi : L[i]? = some x) (hj : j < 9) : (rows L)[i * 9 + j]? = x.vals[j]? := by
  induction L generalizing i with
  | nil => cases hi
  | cons y L ih =>
    have e : rows (y :: L) = y.vals ++ rows L := by unfold rows; rw [List.flatMap_cons]
    rw [e]
    cases i with
    | zero =>
      cases hi
      rw [List.getElem?_append_left (by show 0 * 9 + j < 9; omega), Nat.zero_mul, Nat.zero_add]
    | succ i =>
      rw [List.getElem?_append_right (by show 9 ≤ (i + 1) * 9 + j; omega)]
      have : (i + 1) * 9 + j - y.vals.length = i * 9 + j := by show (i + 1) * 9 + j - 9 = i * 9 + j; omega
      rw [this]
      exact ih i (by simpa using hi)
theorem rows_one (L : List Sl) : ∀ v ∈ rows L, v.oneCell' = true := by
  intro v hv
  unfold rows at hv
  obtain ⟨x, _, hx⟩ := List.mem_flatMap.1 hv
  unfold Sl.vals at hx
  simp only [List.mem_cons, List.not_mem_nil, or_false] at hx
  rcases hx with rfl | rfl | rfl | rfl | rfl | rfl | rfl | rfl | rfl <;> rfl
/-- The table at block t has the slots L, in memory that is newer than base. -/
structure RT (base : Nat) (w : World) (t : Nat) (a : Option Addr) (cap : Nat) (L : List Sl) : Prop where
  head : Bk w t 59 [.slice a L.length cap]
  own : w.ownsRow base 75 9 (.slice a L.length cap) L.length (rows L)
  new : base ≤ t
  apart : ∀ g, a = some ⟨g, 0, none⟩ → g ≠ t
  small : L.length ≤ 65536
theorem RT.addr {base : Nat} {w : World} {t : Nat} {a : Option Addr} {cap : Nat} {L : List Sl} (h : RT base w t a cap L) (hp : 0 < L.length) : ∃ g, a = some ⟨g, 0, none⟩ := by
  rcases h.own.2 with ⟨e, hz⟩ | ⟨g, c, cur, e, _⟩
  · omega
  · cases e; exact ⟨g, rfl⟩
theorem RT.kept {base : Nat} {w w' : World} {t : Nat} {a : Option Addr} {cap : Nat} {L : List Sl} {S : List Nat} (h : RT base w t a cap L) (k : Kp S w w') (ht : t ∉ S) (ha : ∀ g, a = some ⟨g, 0, none⟩ → g ∉ S) : RT base w' t a cap L := by
  refine ⟨h.head.kept k ht, ⟨h.own.1, ?_⟩, h.new, h.apart, h.small⟩
  rcases h.own.2 with hz | ⟨g, c, cur, e, hb, hg, rest⟩
  · exact .inl hz
  · cases e
    exact .inr ⟨g, _, cur, rfl, hb, (k.block g (Array.getElem?_eq_some_iff.1 hg).1 (ha g rfl)).trans hg, rest⟩
theorem RT.grew {base : Nat} {w w' : World} {t : Nat} {a : Option Addr} {cap : Nat} {L : List Sl} (h : RT base w t a cap L) (k : Kp [] w w') : RT base w' t a cap L := h.kept k (by simp) (fun g _ => by simp)
theorem RT.drewN {base : Nat} {w : World} {t : Nat} {a : Option Addr} {cap : Nat} {L : List Sl} (h : RT base w t a cap L) (k : Nat) : RT base (w.drewN k) t a cap L := h.grew ((Kp.refl [] w).drewN k)
/-- A slot's cells. -/
theorem RT.cell {base : Nat} {w : World} {t g : Nat} {cap : Nat} {L : List Sl} (h : RT base w t (some ⟨g, 0, none⟩) cap L) {i : Nat} {x : Sl} (hx : L[i]? = some x) (j : Nat) (hj : j < 9) : w.cell? ⟨g, i * 9 + j, none⟩ = x.vals[j]? := by
  have hi : i < L.length := (List.getElem?_eq_some_iff.1 hx).1
  rw [World.ownsRow.cellAt h.own (i * 9 + j) (by omega), rows_get L i j x hx hj]
/-- Where a place stands. -/
def atL (L : List Sl) (n s : Int) : Option Nat := L.findIdx? fun x => x.n == n && x.s == s
def atI (L : List Sl) (n s : Int) : Int := match atL L n s with | some i => (i : Int) | none => -1
theorem atL_some {L : List Sl} {n s : Int} {i : Nat} (h : atL L n s = some i) : ∃ x, L[i]? = some x ∧ x.n = n ∧ x.s = s := by
  unfold atL at h
  obtain ⟨hi, h1, _⟩ := List.findIdx?_eq_some_iff_getElem.1 h
  exact ⟨L[i], List.getElem?_eq_getElem hi, by simp at h1; exact h1.1, by simp at h1; exact h1.2⟩
theorem atI_hit {L : List Sl} {n s : Int} {j : Nat} {x : Sl} (h : ∀ l, l < j → ∀ x, L[l]? = some x → ¬ (x.n = n ∧ x.s = s)) (hx : L[j]? = some x) (h1 : x.n = n) (h2 : x.s = s) : atI L n s = (j : Int) := by
  obtain ⟨hj, rfl⟩ := List.getElem?_eq_some_iff.1 hx
  have : atL L n s = some j := by
    unfold atL
    refine List.findIdx?_eq_some_iff_getElem.2 ⟨hj, by simp [h1, h2], fun l hl => ?_⟩
    have := h l hl _ (List.getElem?_eq_getElem (by omega))
    simpa using this
  unfold atI
  rw [this]
theorem atI_miss {L : List Sl} {n s : Int} (h : ∀ l, l < L.length → ∀ x, L[l]? = some x → ¬ (x.n = n ∧ x.s = s)) : atI L n s = -1 := by
  have : atL L n s = none := by
    unfold atL
    refine List.findIdx?_eq_none_iff.2 fun x hx => ?_
    obtain ⟨l, hl, rfl⟩ := List.mem_iff_getElem.1 hx
    have := h l hl _ (List.getElem?_eq_getElem hl)
    simpa using this
  unfold atI
  rw [this]
theorem not_more {L : List Sl} {n s : Int} {j : Nat} {x : Sl} (h : ∀ l, l < j → ∀ x, L[l]? = some x → ¬ (x.n = n ∧ x.s = s)) (hx : L[j]? = some x) (hn : ¬ (x.n = n ∧ x.s = s)) : ∀ l, l < j + 1 → ∀ x, L[l]? = some x → ¬ (x.n = n ∧ x.s = s) := by
  intro l hl y hy
  by_cases e : l = j
  · subst e; rw [hx] at hy; cases hy; exact hn
  · exact h l (by omega) y hy
set_option maxHeartbeats 1000000 in
theorem at_calls {base : Nat} {w : World} {t : Nat} {a : Option Addr} {cap : Nat} {L : List Sl} (h : RT base w t a cap L) (n s : Int) :
    Calls Try.prog 35 #[.pointer (some ⟨t, 0, none⟩), .agg #[.int .i64 n, .int .i64 s]] w fun e w' => e = .returned (.int .i64 (atI L n s)) ∧ Kp [] w w' := by
  have hs := h.small
  have H0 := hide (h.grew ((Kp.refl [] w).alloc (.cells #[.int .i64 n, .int .i64 s] 40)))
  have K0 := hide ((Kp.refl [] w).alloc (.cells #[.int .i64 n, .int .i64 s] 40))
  have P0 := hide (Bk.new w 40 [.int .i64 n, .int .i64 s])
  have c0 := (unhide H0).head.cell (i := 0) rfl
  clear h
  go_enter Try.func35, Try.ntmps35
  go_wp2_with fail
  go_loopg [5] L.length (fun m i wx => ∃ j : Nat, j ≤ L.length ∧ m = L.length - j ∧ i = .int .i64 j ∧ (∀ l, l < j → ∀ x, L[l]? = some x → ¬ (x.n = n ∧ x.s = s)) ∧ RT base wx t a cap L ∧ Bk wx w.heap.size 40 [.int .i64 n, .int .i64 s] ∧ Kp [] w wx)
  case atStart => exact ⟨0, Nat.zero_le _, rfl, rfl, fun l hl => by omega, unhide H0, unhide P0, unhide K0⟩
  case round =>
    obtain ⟨j, hj, rfl, rfl, hnot, hR, hP, hK⟩ := hrel
    clear H0 K0 P0 c0
    have c0 := hR.head.cell (i := 0) rfl
    have p0 := hP.cell (i := 0) rfl
    have p1 := hP.cell (i := 1) rfl
    by_cases hlt : j < L.length
    · obtain ⟨g, rfl⟩ := hR.addr (by omega)
      obtain ⟨x, hx⟩ : ∃ x, L[j]? = some x := ⟨_, List.getElem?_eq_getElem hlt⟩
      have x0 := hR.cell hx 0 (by omega)
      have x1 := hR.cell hx 1 (by omega)
      replace x0 : wr.cell? ⟨g, j * 9, none⟩ = some (.int .i64 x.n) := x0
      replace x1 : wr.cell? ⟨g, j * 9 + 1, none⟩ = some (.int .i64 x.s) := x1
      have b1 : (j : Int) < (L.length : Int) := by omega
      have b2 : ((j : Int)).toNat = j := Int.toNat_natCast j
      obtain ⟨xn, hxn⟩ : ∃ v, x.n = v := ⟨_, rfl⟩
      obtain ⟨xs, hxs⟩ : ∃ v, x.s = v := ⟨_, rfl⟩
      rw [hxn] at x0
      rw [hxs] at x1
      replace hxn := hide hxn
      replace hxs := hide hxs
      replace hR := hide hR
      replace hP := hide hP
      replace hK := hide hK
      replace hnot := hide hnot
      have hx' := hide hx
      clear hx
      by_cases e1 : xn = n
      · by_cases e2 : xs = s
        · subst e1 e2
          go_wp2_with fail
          go_quiet (fail)
          go_wp2
          go_ret
          exact ⟨ret_int (atI_hit (unhide hnot) (unhide hx') (unhide hxn) (unhide hxs)).symm, (unhide hK).drewN _⟩
        · subst e1
          have e2' : (xs == s) = false := beq_eq_false_iff_ne.2 e2
          go_wp2_with fail
          go_quiet (fail)
          go_wp2
          go_roundg (L.length - (j + 1))
          case measure => omega
          case rel => exact ⟨j + 1, by omega, rfl, by go_num, not_more (unhide hnot) (unhide hx') (fun H => e2 ((unhide hxs).symm.trans H.2)), (unhide hR).drewN _, (unhide hP).drewN _, (unhide hK).drewN _⟩
      · have e1' : (xn == n) = false := beq_eq_false_iff_ne.2 e1
        go_wp2_with fail
        go_quiet (fail)
        go_wp2
        go_roundg (L.length - (j + 1))
        case measure => omega
        case rel => exact ⟨j + 1, by omega, rfl, by go_num, not_more (unhide hnot) (unhide hx') (fun H => e1 ((unhide hxn).symm.trans H.1)), (unhide hR).drewN _, (unhide hP).drewN _, (unhide hK).drewN _⟩
    · have b1 : decide ((j : Int) < (L.length : Int)) = false := decide_eq_false (by omega)
      replace hR := hide hR
      replace hP := hide hP
      replace hK := hide hK
      replace hnot := hide hnot
      go_wp2
      go_ret
      exact ⟨ret_int (atI_miss (fun l hl => unhide hnot l (by omega))).symm, unhide hK⟩
end Go.Proofs.Ytjjgjgncnifjmaa
