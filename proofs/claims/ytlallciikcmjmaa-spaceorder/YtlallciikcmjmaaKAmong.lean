/- Is a page one of these (ringkernlaw10.among)? -/
import Derived.Test.YtlallciikcmjmaaKSpIn
import Derived.Test.YtlallciikcmjmaaKSameG
namespace Go.Proofs.Ytlallciikcmjmaa
open Go.RowKit
set_option linter.unusedVariables false
def amongB (ps : List (Int × Int)) (s p : Int) : Bool := ps.any fun q => q.1 == s && q.2 == p
theorem amongB_iff {ps : List (Int × Int)} {s p : Int} : amongB ps s p = true ↔ (s, p) ∈ ps := by
  unfold amongB
  rw [List.any_eq_true]
  constructor
  · rintro ⟨q, hq, h⟩
    rw [Bool.and_eq_true, beq_iff_eq, beq_iff_eq] at h
    have e : q = (s, p) := Prod.ext h.1 h.2
    rw [← e]; exact hq
  · intro h
    exact ⟨_, h, by simp⟩
theorem amongB_miss {ps : List (Int × Int)} {s p : Int} (h : ∀ l, l < ps.length → ∀ q, ps[l]? = some q → ¬ (q.1 = s ∧ q.2 = p)) : amongB ps s p = false := by
  cases hb : amongB ps s p with
  | false => rfl
  | true =>
    have hm := amongB_iff.1 hb
    obtain ⟨l, hl, he⟩ := List.mem_iff_getElem.1 hm
    exact absurd ⟨by rw [he], by rw [he]⟩ (h l hl _ (List.getElem?_eq_getElem hl))
theorem q_more {ps : List (Int × Int)} {s p : Int} {j : Nat} {x : Int × Int} (h : ∀ l, l < j → ∀ q, ps[l]? = some q → ¬ (q.1 = s ∧ q.2 = p)) (hx : ps[j]? = some x) (hn : ¬ (x.1 = s ∧ x.2 = p)) : ∀ l, l < j + 1 → ∀ q, ps[l]? = some q → ¬ (q.1 = s ∧ q.2 = p) := by
  intro l hl y hy
  by_cases e : l = j
  · subst e; rw [hx] at hy; cases hy; exact hn
  · exact h l (by omega) y hy
set_option maxHeartbeats 1000000 in
theorem among_calls {w : World} {v : Value} {ps : List (Int × Int)} (h : GV w v ps) (s p : Int) :
    Calls Try.prog 10 #[v, .agg #[.int .i64 s, .int .i64 p]] w fun e w' => e = .returned (.bool (amongB ps s p)) ∧ Kp [] w w' := by
  have H0 := hide (h.kept ((Kp.refl [] w).alloc (.cells #[.int .i64 s, .int .i64 p] 30)))
  have K0 := hide ((Kp.refl [] w).alloc (.cells #[.int .i64 s, .int .i64 p] 30))
  have P0 := hide (Bk.new w 30 [.int .i64 s, .int .i64 p])
  obtain ⟨a1, c1, rfl, hs, hz⟩ := h
  clear hz
  go_enter Try.func10, Try.ntmps10
  go_wp2_with fail
  go_loopg [5] ps.length (fun m i wx => ∃ j : Nat, j ≤ ps.length ∧ m = ps.length - j ∧ i = .int .i64 j ∧ (∀ l, l < j → ∀ q, ps[l]? = some q → ¬ (q.1 = s ∧ q.2 = p)) ∧ GV wx (.slice a1 ps.length c1) ps ∧ Bk wx w.heap.size 30 [.int .i64 s, .int .i64 p] ∧ Kp [] w wx)
  case atStart => exact ⟨0, Nat.zero_le _, rfl, rfl, fun l hl => by omega, unhide H0, unhide P0, unhide K0⟩
  case round =>
    obtain ⟨j, hj, rfl, rfl, hnot, hR, hP, hK⟩ := hrel
    clear H0 K0 P0
    have p0 := hP.cell (i := 0) rfl
    have p1 := hP.cell (i := 1) rfl
    by_cases hlt : j < ps.length
    · obtain ⟨a2, c2, e2, _, hz⟩ := hR
      simp only [Value.slice.injEq] at e2
      obtain ⟨rfl, _, rfl⟩ := e2
      obtain ⟨g, rfl, hc⟩ := hz.resolve_left (by omega)
      obtain ⟨x, hx⟩ : ∃ x, ps[j]? = some x := ⟨_, List.getElem?_eq_getElem hlt⟩
      obtain ⟨x0, x1⟩ := hc j x hx
      have hR' : Hid (GV wr (.slice (some ⟨g, 0, none⟩) ps.length c1) ps) := ⟨_, _, rfl, hs, .inr ⟨g, rfl, hc⟩⟩
      have b1 : (j : Int) < (ps.length : Int) := by omega
      have b2 : ((j : Int)).toNat = j := Int.toNat_natCast j
      obtain ⟨xs, xp⟩ := x
      simp only at x0 x1
      replace hP := hide hP
      replace hK := hide hK
      replace hnot := hide hnot
      have hx' := hide hx
      clear hx hc hz
      by_cases e1 : xs = s
      · by_cases e2 : xp = p
        · subst e1 e2
          go_wp2_with fail
          go_quiet (fail)
          go_wp2
          go_ret
          exact ⟨ret_bool (amongB_iff.2 (List.mem_of_getElem? (unhide hx'))).symm, (unhide hK).drewN _⟩
        · subst e1
          have e2' : (xp == p) = false := beq_eq_false_iff_ne.2 e2
          go_wp2_with fail
          go_quiet (fail)
          go_wp2
          go_roundg (ps.length - (j + 1))
          case measure => omega
          case rel => exact ⟨j + 1, by omega, rfl, by go_num, q_more (unhide hnot) (unhide hx') (fun H => e2 H.2), unhide hR', (unhide hP).drewN _, (unhide hK).drewN _⟩
      · have e1' : (xs == s) = false := beq_eq_false_iff_ne.2 e1
        go_wp2_with fail
        go_quiet (fail)
        go_wp2
        go_roundg (ps.length - (j + 1))
        case measure => omega
        case rel => exact ⟨j + 1, by omega, rfl, by go_num, q_more (unhide hnot) (unhide hx') (fun H => e1 H.1), unhide hR', (unhide hP).drewN _, (unhide hK).drewN _⟩
    · have b1 : decide ((j : Int) < (ps.length : Int)) = false := decide_eq_false (by omega)
      replace hR := hide hR
      replace hP := hide hP
      replace hK := hide hK
      replace hnot := hide hnot
      go_wp2
      go_ret
      exact ⟨ret_bool (amongB_miss (fun l hl => unhide hnot l (by omega))).symm, unhide hK⟩
theorem among_to {w : World} {v : Value} {ps : List (Int × Int)} {s p : Int} {b : Bool} (h : GV w v ps) (hb : amongB ps s p = b) :
    Calls Try.prog 10 #[v, .agg #[.int .i64 s, .int .i64 p]] w fun e w' => e = .returned (.bool b) ∧ Kp [] w w' := by subst hb; exact among_calls h s p
end Go.Proofs.Ytlallciikcmjmaa
