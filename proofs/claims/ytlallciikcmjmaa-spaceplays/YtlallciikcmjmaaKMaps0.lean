/- The document's maps of pages (ringkernref10.Maps), as a list: where a page stands, what it is mapped to. -/
import Derived.Test.YtlallciikcmjmaaKSeg
import Derived.Deep.DeepCutAuto
import Derived.Deep.CutBlock
import Derived.Deep.RegionHeld3
import Derived.Deep.RegionLaw
import Derived.BigRegion
namespace Go.Proofs.Ytlallciikcmjmaa
open Go.RowKit
set_option linter.unusedVariables false
/-- A page, and what it is mapped to: a space, a number, a frame, rights. -/
structure Pg where
  s : Int
  p : Int
  f : Int
  r : Int
def pgE : Gr.Enc Pg 68 4 := ⟨fun x => [.int .i64 x.s, .int .i64 x.p, .int .i64 x.f, .int .i64 x.r], fun _ => rfl, fun x v hv => by
  simp only [List.mem_cons, List.not_mem_nil, or_false] at hv
  rcases hv with rfl | rfl | rfl | rfl <;> rfl⟩
def pgAt (L : List Pg) (s p : Int) : Option Nat := L.findIdx? fun x => x.s == s && x.p == p
def pgI (L : List Pg) (s p : Int) : Int := match pgAt L s p with | some i => (i : Int) | none => -1
theorem pgAt_some {L : List Pg} {s p : Int} {i : Nat} (h : pgAt L s p = some i) : ∃ x, L[i]? = some x ∧ x.s = s ∧ x.p = p := by
  unfold pgAt at h
  obtain ⟨hi, h1, _⟩ := List.findIdx?_eq_some_iff_getElem.1 h
  exact ⟨L[i], List.getElem?_eq_getElem hi, by simp at h1; exact h1.1, by simp at h1; exact h1.2⟩
theorem pgI_hit {L : List Pg} {s p : Int} {j : Nat} {x : Pg} (h : ∀ l, l < j → ∀ x, L[l]? = some x → ¬ (x.s = s ∧ x.p = p)) (hx : L[j]? = some x) (h1 : x.s = s) (h2 : x.p = p) : pgI L s p = (j : Int) := by
  obtain ⟨hj, rfl⟩ := List.getElem?_eq_some_iff.1 hx
  have e : pgAt L s p = some j := by
    unfold pgAt
    refine List.findIdx?_eq_some_iff_getElem.2 ⟨hj, by simp [h1, h2], fun l hl => ?_⟩
    have := h l hl _ (List.getElem?_eq_getElem (by omega))
    simpa using this
  unfold pgI
  rw [e]
theorem pgI_miss {L : List Pg} {s p : Int} (h : ∀ l, l < L.length → ∀ x, L[l]? = some x → ¬ (x.s = s ∧ x.p = p)) : pgI L s p = -1 := by
  have e : pgAt L s p = none := by
    unfold pgAt
    refine List.findIdx?_eq_none_iff.2 fun x hx => ?_
    obtain ⟨l, hl, rfl⟩ := List.mem_iff_getElem.1 hx
    have := h l hl _ (List.getElem?_eq_getElem hl)
    simpa using this
  unfold pgI
  rw [e]
theorem pgI_none {L : List Pg} {s p : Int} (h : pgAt L s p = none) : pgI L s p = -1 := by unfold pgI; rw [h]
theorem pgI_some {L : List Pg} {s p : Int} {i : Nat} (h : pgAt L s p = some i) : pgI L s p = (i : Int) := by unfold pgI; rw [h]
theorem pg_more {L : List Pg} {s p : Int} {j : Nat} {x : Pg} (h : ∀ l, l < j → ∀ x, L[l]? = some x → ¬ (x.s = s ∧ x.p = p)) (hx : L[j]? = some x) (hn : ¬ (x.s = s ∧ x.p = p)) : ∀ l, l < j + 1 → ∀ x, L[l]? = some x → ¬ (x.s = s ∧ x.p = p) := by
  intro l hl y hy
  by_cases e : l = j
  · subst e; rw [hx] at hy; cases hy; exact hn
  · exact h l (by omega) y hy
/-- The maps at block y, in memory that is newer than base. -/
structure RP (base : Nat) (w : World) (y : Nat) (a : Option Addr) (cap : Nat) (L : List Pg) : Prop where
  head : Bk w y 41 [.slice a L.length cap]
  own : Gr.Rw pgE base w (.slice a L.length cap) L
  new : base ≤ y
  small : L.length ≤ 65536
theorem RP.lt {base : Nat} {w : World} {y : Nat} {a : Option Addr} {cap : Nat} {L : List Pg} (h : RP base w y a cap L) : y < w.heap.size := h.head.lt
theorem RP.kept {base : Nat} {w w' : World} {y : Nat} {a : Option Addr} {cap : Nat} {L : List Pg} {S : List Nat} (h : RP base w y a cap L) (k : Kp S w w') (hy : y ∉ S) (ha : ∀ g, (Value.slice a L.length cap).ownBlock = some g → g ∉ S) : RP base w' y a cap L :=
  ⟨h.head.kept k hy, h.own.kept k ha, h.new, h.small⟩
theorem RP.grew {base : Nat} {w w' : World} {y : Nat} {a : Option Addr} {cap : Nat} {L : List Pg} (h : RP base w y a cap L) (k : Kp [] w w') : RP base w' y a cap L := h.kept k (by simp) (by simp)
theorem RP.drewN {base : Nat} {w : World} {y : Nat} {a : Option Addr} {cap : Nat} {L : List Pg} (h : RP base w y a cap L) (k : Nat) : RP base (w.drewN k) y a cap L := h.grew ((Kp.refl [] w).drewN k)
theorem RP.addr {base : Nat} {w : World} {y : Nat} {a : Option Addr} {cap : Nat} {L : List Pg} (h : RP base w y a cap L) (hp : 0 < L.length) : ∃ g, a = some ⟨g, 0, none⟩ := by
  rcases h.own.addr with ⟨_, e⟩ | ⟨g, c, e, _⟩
  · rw [e] at hp; simp at hp
  · cases e; exact ⟨g, rfl⟩
theorem RP.any {base : Nat} {w : World} {y : Nat} {a : Option Addr} {cap : Nat} {L : List Pg} (h : RP base w y a cap L) : (a = none ∧ cap = 0 ∧ L = []) ∨ ∃ g, a = some ⟨g, 0, none⟩ := by
  rcases h.own.addr with ⟨e, e2⟩ | ⟨g, c, e, _⟩
  · subst e2
    cases e
    exact .inl ⟨rfl, rfl, rfl⟩
  · cases e; exact .inr ⟨g, rfl⟩
theorem RP.cells {base : Nat} {w : World} {y g : Nat} {cap : Nat} {L : List Pg} (h : RP base w y (some ⟨g, 0, none⟩) cap L) {i : Nat} {x : Pg} (hx : L[i]? = some x) : w.cell? ⟨g, i * 4, none⟩ = some (.int .i64 x.s) ∧ w.cell? ⟨g, i * 4 + 1, none⟩ = some (.int .i64 x.p) ∧ w.cell? ⟨g, i * 4 + 2, none⟩ = some (.int .i64 x.f) ∧ w.cell? ⟨g, i * 4 + 3, none⟩ = some (.int .i64 x.r) :=
  ⟨h.own.cell (j := 0) hx rfl, h.own.cell (j := 1) hx rfl, h.own.cell (j := 2) hx rfl, h.own.cell (j := 3) hx rfl⟩
theorem RP.start (base : Nat) (w : World) (hb : base ≤ w.heap.size) : RP base (w.alloc (.cells #[.slice none 0 0] 41)) w.heap.size none 0 [] :=
  ⟨Bk.new w _ [.slice none 0 0], .nil _ _, hb, by simp⟩
set_option maxHeartbeats 1000000 in
theorem rpat_calls {base : Nat} {w : World} {y : Nat} {a : Option Addr} {cap : Nat} {L : List Pg} (h : RP base w y a cap L) (s p : Int) :
    Calls Try.prog 33 #[.pointer (some ⟨y, 0, none⟩), .agg #[.int .i64 s, .int .i64 p]] w fun e w' => e = .returned (.int .i64 (pgI L s p)) ∧ Kp [] w w' := by
  have hs := h.small
  have H0 := hide (h.grew ((Kp.refl [] w).alloc (.cells #[.int .i64 s, .int .i64 p] 30)))
  have K0 := hide ((Kp.refl [] w).alloc (.cells #[.int .i64 s, .int .i64 p] 30))
  have P0 := hide (Bk.new w 30 [.int .i64 s, .int .i64 p])
  have c0 := (unhide H0).head.cell (i := 0) rfl
  clear h
  go_enter Try.func33, Try.ntmps33
  go_wp2_with fail
  go_loopg [5] L.length (fun m i wx => ∃ j : Nat, j ≤ L.length ∧ m = L.length - j ∧ i = .int .i64 j ∧ (∀ l, l < j → ∀ x, L[l]? = some x → ¬ (x.s = s ∧ x.p = p)) ∧ RP base wx y a cap L ∧ Bk wx w.heap.size 30 [.int .i64 s, .int .i64 p] ∧ Kp [] w wx)
  case atStart => exact ⟨0, Nat.zero_le _, rfl, rfl, fun l hl => by omega, unhide H0, unhide P0, unhide K0⟩
  case round =>
    obtain ⟨j, hj, rfl, rfl, hnot, hR, hP, hK⟩ := hrel
    clear H0 K0 P0 c0
    have c0 := hR.head.cell (i := 0) rfl
    have p0 := hP.cell (i := 0) rfl
    have p1 := hP.cell (i := 1) rfl
    by_cases hlt : j < L.length
    · obtain ⟨g, rfl⟩ := hR.addr (by omega)
      obtain ⟨x, hx⟩ : ∃ x, L[j]? = some x := ⟨_, List.getElem?_eq_getElem hlt⟩
      obtain ⟨x0, x1, x2, x3⟩ := hR.cells hx
      have b1 : (j : Int) < (L.length : Int) := by omega
      have b2 : ((j : Int)).toNat = j := Int.toNat_natCast j
      obtain ⟨xs, xp, xf, xr⟩ := x
      simp only at x0 x1 x2 x3
      clear x2 x3
      replace hR := hide hR
      replace hP := hide hP
      replace hK := hide hK
      replace hnot := hide hnot
      have hx' := hide hx
      clear hx
      by_cases e1 : xs = s
      · by_cases e2 : xp = p
        · subst e1 e2
          go_wp2_with fail
          go_quiet (fail)
          go_wp2
          go_ret
          exact ⟨ret_int (pgI_hit (unhide hnot) (unhide hx') rfl rfl).symm, (unhide hK).drewN _⟩
        · subst e1
          have e2' : (xp == p) = false := beq_eq_false_iff_ne.2 e2
          go_wp2_with fail
          go_quiet (fail)
          go_wp2
          go_roundg (L.length - (j + 1))
          case measure => omega
          case rel => exact ⟨j + 1, by omega, rfl, by go_num, pg_more (unhide hnot) (unhide hx') (fun H => e2 H.2), (unhide hR).drewN _, (unhide hP).drewN _, (unhide hK).drewN _⟩
      · have e1' : (xs == s) = false := beq_eq_false_iff_ne.2 e1
        go_wp2_with fail
        go_quiet (fail)
        go_wp2
        go_roundg (L.length - (j + 1))
        case measure => omega
        case rel => exact ⟨j + 1, by omega, rfl, by go_num, pg_more (unhide hnot) (unhide hx') (fun H => e1 H.1), (unhide hR).drewN _, (unhide hP).drewN _, (unhide hK).drewN _⟩
    · have b1 : decide ((j : Int) < (L.length : Int)) = false := decide_eq_false (by omega)
      replace hR := hide hR
      replace hP := hide hP
      replace hK := hide hK
      replace hnot := hide hnot
      go_wp2
      go_ret
      exact ⟨ret_int (pgI_miss (fun l hl => unhide hnot l (by omega))).symm, unhide hK⟩
theorem rpat_to {base : Nat} {w : World} {y : Nat} {a : Option Addr} {cap : Nat} {L : List Pg} (h : RP base w y a cap L) {s p i : Int} (hi : pgI L s p = i) :
    Calls Try.prog 33 #[.pointer (some ⟨y, 0, none⟩), .agg #[.int .i64 s, .int .i64 p]] w fun e w' => e = .returned (.int .i64 i) ∧ Kp [] w w' := by subst hi; exact rpat_calls h s p
end Go.Proofs.Ytlallciikcmjmaa
