/- Is the program's endpoint as the document's? (the law's own question) -/
import Derived.Test.YthnpkojfkhndoaaKTe
import Derived.BigQuiet
namespace Go.Proofs.Ythnpkojfkhndoaa
open Go.RowKit
set_option linter.unusedVariables false
set_option linter.unusedSimpArgs false
set_option maxRecDepth 10000 in
set_option maxHeartbeats 8000000 in
theorem same_calls {w wx : World} {t : Nat} {S : List Ms} {R : List Rc} {B : List Box} (h : Te w t S R S R B wx) :
    Calls Try.prog 14 #[.pointer (some ⟨t, 0, none⟩), .pointer (some ⟨t + 1, 0, none⟩)] wx fun e w' => e = .returned (.bool true) ∧ Kp [] wx w' := by
  have Z := hide h
  clear h
  go_enter Try.func14, Try.ntmps14
  go_wp2_with fail
  refine (Te.ask (unhide Z) (fun F h => esenders h)).mono ?_
  rintro e W1 ⟨v, rfl, hS1, K1⟩
  obtain ⟨a1, c1, rfl⟩ := hS1.form
  have Z1 := hide ((unhide Z).grew K1)
  replace hS1 := hide hS1
  replace K1 := hide K1
  clear Z
  go_wp2_with fail
  refine (Te.ask (unhide Z1) (fun F h => ereceivers h)).mono ?_
  rintro e W2 ⟨v, rfl, hR1, K2⟩
  obtain ⟨a2, c2, rfl⟩ := hR1.form
  have Z2 := (unhide Z1).grew K2
  have V1 := hide ((unhide hS1).grew K2)
  have V2 := hide hR1
  have K02 := hide ((unhide K1).then K2)
  obtain ⟨pa, pca, pb, pcb, hr⟩ := Z2.dd
  have D := hide hr
  have hs := hr.ssm
  have hr2 := hr.rsm
  have d0 := hr.head.cell (i := 0) rfl
  have d1 := hr.head.cell (i := 1) rfl
  clear Z1 Z2 hS1 hR1 K1 K2 hr
  go_wp2_with fail
  clear d0 d1
  go_loopg [7] S.length (fun m i wx => ∃ j : Nat, j ≤ S.length ∧ m = S.length - j ∧ i = .int .i64 j ∧ Kp [] W2 wx)
  case atStart => exact ⟨0, Nat.zero_le _, rfl, rfl, Kp.refl _ _⟩
  case round =>
    obtain ⟨j, hj, rfl, rfl, hK⟩ := hrel
    have hR := (unhide D).grew hK
    have c0 := hR.head.cell (i := 0) rfl
    have hV := (unhide V1).grew hK
    by_cases hlt : j < S.length
    · obtain ⟨g1, o1, rfl, _⟩ := hV.addr (by omega)
      obtain ⟨g2, o2, rfl, _⟩ := hR.s.addr (by omega)
      obtain ⟨x, hx⟩ : ∃ x, S[j]? = some x := ⟨_, List.getElem?_eq_getElem hlt⟩
      obtain ⟨xs, xp, xw, xb, xc⟩ := x
      have x0 : wr.cell? ⟨g1, o1 + j * 5, none⟩ = some (.int .i64 xs) := by have := hV.cell (i := j) (j := 0) hx rfl; simpa [← Nat.add_assoc] using this
      have x1 : wr.cell? ⟨g1, o1 + j * 5 + 1, none⟩ = some (.int .i64 xp) := by have := hV.cell (i := j) (j := 1) hx rfl; simpa [← Nat.add_assoc] using this
      have x2 : wr.cell? ⟨g1, o1 + j * 5 + 2, none⟩ = some (.int .u32 xw) := by have := hV.cell (i := j) (j := 2) hx rfl; simpa [← Nat.add_assoc] using this
      have x3 : wr.cell? ⟨g1, o1 + j * 5 + 3, none⟩ = some (.int .i64 xb) := by have := hV.cell (i := j) (j := 3) hx rfl; simpa [← Nat.add_assoc] using this
      have x4 : wr.cell? ⟨g1, o1 + j * 5 + 4, none⟩ = some (.bool xc) := by have := hV.cell (i := j) (j := 4) hx rfl; simpa [← Nat.add_assoc] using this
      have y0 : wr.cell? ⟨g2, o2 + j * 5, none⟩ = some (.int .i64 xs) := by have := hR.s.cell (i := j) (j := 0) hx rfl; simpa [← Nat.add_assoc] using this
      have y1 : wr.cell? ⟨g2, o2 + j * 5 + 1, none⟩ = some (.int .i64 xp) := by have := hR.s.cell (i := j) (j := 1) hx rfl; simpa [← Nat.add_assoc] using this
      have y2 : wr.cell? ⟨g2, o2 + j * 5 + 2, none⟩ = some (.int .u32 xw) := by have := hR.s.cell (i := j) (j := 2) hx rfl; simpa [← Nat.add_assoc] using this
      have y3 : wr.cell? ⟨g2, o2 + j * 5 + 3, none⟩ = some (.int .i64 xb) := by have := hR.s.cell (i := j) (j := 3) hx rfl; simpa [← Nat.add_assoc] using this
      have y4 : wr.cell? ⟨g2, o2 + j * 5 + 4, none⟩ = some (.bool xc) := by have := hR.s.cell (i := j) (j := 4) hx rfl; simpa [← Nat.add_assoc] using this
      have b1 : (j : Int) < (S.length : Int) := by omega
      have b2 : ((j : Int)).toNat = j := Int.toNat_natCast j
      have hne : ∀ w', (binOp .neq 39 (.agg #[.int .i64 xs, .int .i64 xp]) (.agg #[.int .i64 xs, .int .i64 xp])).run Try.prog w' = .ok (.bool false) w' := fun w' => by rw [neqi]; simp
      clear hR hV hx
      replace hK := hide hK
      go_wp2_with fail
      go_quiet (fail)
      go_wp2
      go_roundg (S.length - (j + 1))
      case measure => omega
      case rel => exact ⟨j + 1, by omega, rfl, by go_num, (unhide hK).drewN _⟩
    · have b1 : decide ((j : Int) < (S.length : Int)) = false := decide_eq_false (by omega)
      clear hR hV c0
      replace hK := hide hK
      go_wp2_with fail
      go_loopg [8] R.length (fun m i wx => ∃ j : Nat, j ≤ R.length ∧ m = R.length - j ∧ i = .int .i64 j ∧ Kp [] W2 wx)
      case atStart => exact ⟨0, Nat.zero_le _, rfl, rfl, unhide hK⟩
      case round =>
        obtain ⟨j, hj, rfl, rfl, hK⟩ := hrel
        have hR := (unhide D).grew hK
        have c0 := hR.head.cell (i := 1) rfl
        have hV := (unhide V2).grew hK
        by_cases hlt : j < R.length
        · obtain ⟨g1, o1, rfl, _⟩ := hV.addr (by omega)
          obtain ⟨g2, o2, rfl, _⟩ := hR.r.addr (by omega)
          obtain ⟨x, hx⟩ : ∃ x, R[j]? = some x := ⟨_, List.getElem?_eq_getElem hlt⟩
          obtain ⟨xs, xp, xr⟩ := x
          have x0 : wr.cell? ⟨g1, o1 + j * 3, none⟩ = some (.int .i64 xs) := by have := hV.cell (i := j) (j := 0) hx rfl; simpa [← Nat.add_assoc] using this
          have x1 : wr.cell? ⟨g1, o1 + j * 3 + 1, none⟩ = some (.int .i64 xp) := by have := hV.cell (i := j) (j := 1) hx rfl; simpa [← Nat.add_assoc] using this
          have x2 : wr.cell? ⟨g1, o1 + j * 3 + 2, none⟩ = some (.int .i64 xr) := by have := hV.cell (i := j) (j := 2) hx rfl; simpa [← Nat.add_assoc] using this
          have y0 : wr.cell? ⟨g2, o2 + j * 3, none⟩ = some (.int .i64 xs) := by have := hR.r.cell (i := j) (j := 0) hx rfl; simpa [← Nat.add_assoc] using this
          have y1 : wr.cell? ⟨g2, o2 + j * 3 + 1, none⟩ = some (.int .i64 xp) := by have := hR.r.cell (i := j) (j := 1) hx rfl; simpa [← Nat.add_assoc] using this
          have y2 : wr.cell? ⟨g2, o2 + j * 3 + 2, none⟩ = some (.int .i64 xr) := by have := hR.r.cell (i := j) (j := 2) hx rfl; simpa [← Nat.add_assoc] using this
          have b1 : (j : Int) < (R.length : Int) := by omega
          have b2 : ((j : Int)).toNat = j := Int.toNat_natCast j
          have hne : ∀ w', (binOp .neq 39 (.agg #[.int .i64 xs, .int .i64 xp]) (.agg #[.int .i64 xs, .int .i64 xp])).run Try.prog w' = .ok (.bool false) w' := fun w' => by rw [neqi]; simp
          clear hR hV hx
          replace hK := hide hK
          go_wp2_with fail
          go_quiet (fail)
          go_wp2
          go_roundg (R.length - (j + 1))
          case measure => omega
          case rel => exact ⟨j + 1, by omega, rfl, by go_num, (unhide hK).drewN _⟩
        · have b1 : decide ((j : Int) < (R.length : Int)) = false := decide_eq_false (by omega)
          clear hR hV c0
          replace hK := hide hK
          go_wp2
          go_ret
          exact ⟨rfl, (unhide K02).then (unhide hK)⟩
end Go.Proofs.Ythnpkojfkhndoaa
