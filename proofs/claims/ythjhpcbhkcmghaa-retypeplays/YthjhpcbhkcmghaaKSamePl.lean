/- Two lists of places that are the same (ringkernref.SamePlaces). -/
import Derived.Test.YthjhpcbhkcmghaaKTab
namespace Go.Proofs.Ythjhpcbhkcmghaa
open Go.RowKit
set_option linter.unusedVariables false
/-- A list of places, to be read. -/
def PV (w : World) (v : Value) (ps : List (Int × Int)) : Prop :=
  ∃ a c, v = .slice a ps.length c ∧ ps.length ≤ 65536 ∧ (ps.length = 0 ∨ ∃ g, a = some ⟨g, 0, none⟩ ∧ ∀ i q, ps[i]? = some q → w.cell? ⟨g, i * 2, none⟩ = some (.int .i64 q.1) ∧ w.cell? ⟨g, i * 2 + 1, none⟩ = some (.int .i64 q.2))
theorem prow_get (ps : List (Int × Int)) (i : Nat) (q : Int × Int) (h : ps[i]? = some q) : (prow ps)[i * 2]? = some (.int .i64 q.1) ∧ (prow ps)[i * 2 + 1]? = some (.int .i64 q.2) := by
  induction ps generalizing i with
  | nil => cases h
  | cons y L ih =>
    have e : prow (y :: L) = [.int .i64 y.1, .int .i64 y.2] ++ prow L := by unfold prow; rw [List.flatMap_cons]
    rw [e]
    cases i with
    | zero => cases h; exact ⟨rfl, rfl⟩
    | succ i =>
      have := ih i (by simpa using h)
      rw [List.getElem?_append_right (by show 2 ≤ (i + 1) * 2; omega), List.getElem?_append_right (by show 2 ≤ (i + 1) * 2 + 1; omega)]
      have e1 : (i + 1) * 2 - [Value.int .i64 y.1, .int .i64 y.2].length = i * 2 := by show (i + 1) * 2 - 2 = i * 2; omega
      have e2 : (i + 1) * 2 + 1 - [Value.int .i64 y.1, .int .i64 y.2].length = i * 2 + 1 := by show (i + 1) * 2 + 1 - 2 = i * 2 + 1; omega
      rw [e1, e2]
      exact this
theorem Pl.view {base : Nat} {w : World} {v : Value} {ps : List (Int × Int)} (h : Pl base w v ps) (hs : ps.length ≤ 65536) : PV w v ps := by
  rcases h.2 with ⟨e, hz⟩ | ⟨g, c, cur, e, _⟩
  · exact ⟨none, 0, by rw [e, hz], hs, .inl hz⟩
  · refine ⟨_, c, e, hs, .inr ⟨g, rfl, fun i q hq => ?_⟩⟩
    subst e
    have hi : i < ps.length := (List.getElem?_eq_some_iff.1 hq).1
    have := prow_get ps i q hq
    exact ⟨(World.ownsRow.cellAt h (i * 2) (by omega)).trans this.1, (World.ownsRow.cellAt h (i * 2 + 1) (by omega)).trans this.2⟩
theorem PV.kept {w w' : World} {v : Value} {ps : List (Int × Int)} (h : PV w v ps) (k : Kp [] w w') : PV w' v ps := by
  obtain ⟨a, c, e, hs, hz⟩ := h
  refine ⟨a, c, e, hs, ?_⟩
  rcases hz with hz | ⟨g, ha, hc⟩
  · exact .inl hz
  · refine .inr ⟨g, ha, fun i q hq => ?_⟩
    have h1 := (hc i q hq).1
    have h2 := (hc i q hq).2
    have hlt := World.block_lt_of_cell? w _ h1
    have hb := k.below (Nat.le_refl _) (by simp)
    exact ⟨(hb.cell (p := ⟨g, i * 2, none⟩) hlt).trans h1, (hb.cell (p := ⟨g, i * 2 + 1, none⟩) hlt).trans h2⟩
set_option maxHeartbeats 1000000 in
theorem samepl_calls {w : World} {v1 v2 : Value} {ps : List (Int × Int)} (h1 : PV w v1 ps) (h2 : PV w v2 ps) :
    Calls Try.prog 22 #[v1, v2] w fun e w' => e = .returned (.bool true) ∧ ∃ k, w' = w.drewN k := by
  obtain ⟨a1, c1, rfl, hs, hz1⟩ := h1
  obtain ⟨a2, c2, rfl, _, hz2⟩ := h2
  replace hz1 := hide hz1
  replace hz2 := hide hz2
  go_enter Try.func22, Try.ntmps22
  go_wp2_with fail
  go_loopg [5] ps.length (fun m i wx => ∃ j : Nat, j ≤ ps.length ∧ m = ps.length - j ∧ i = .int .i64 j ∧ ∃ k, wx = w.drewN k)
  case atStart => exact ⟨0, Nat.zero_le _, rfl, rfl, 0, rfl⟩
  case round =>
    obtain ⟨j, hj, rfl, rfl, k, rfl⟩ := hrel
    by_cases hlt : j < ps.length
    · obtain ⟨g1, rfl, hc1⟩ := (unhide hz1).resolve_left (by omega)
      obtain ⟨g2, rfl, hc2⟩ := (unhide hz2).resolve_left (by omega)
      obtain ⟨⟨n, s⟩, hq⟩ : ∃ q, ps[j]? = some q := ⟨_, List.getElem?_eq_getElem hlt⟩
      have x0 := (hc1 j _ hq).1
      have x1 := (hc1 j _ hq).2
      have y0 := (hc2 j _ hq).1
      have y1 := (hc2 j _ hq).2
      have b1 : (j : Int) < (ps.length : Int) := by omega
      have b2 : ((j : Int)).toNat = j := Int.toNat_natCast j
      clear hc1 hc2 hq
      go_wp2_with fail
      go_quiet (fail)
      go_wp2
      go_roundg (ps.length - (j + 1))
      case measure => omega
      case rel => exact ⟨j + 1, by omega, rfl, by go_num, _, rfl⟩
    · have b1 : decide ((j : Int) < (ps.length : Int)) = false := decide_eq_false (by omega)
      go_wp2
      go_ret
      exact ⟨rfl, _, rfl⟩
end Go.Proofs.Ythjhpcbhkcmghaa
