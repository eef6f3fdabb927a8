/- Two lists of IDs that are the same (ringkernref.SameIDs). -/
import Derived.Test.YtgahekhlbcnmaaaKRLst2
namespace Go.Proofs.Ytgahekhlbcnmaaa
open Go.RowKit
set_option linter.unusedVariables false
/-- A list of IDs, to be read. -/
def LV (w : World) (v : Value) (ps : List (Int × Int)) : Prop :=
  ∃ a c, v = .slice a ps.length c ∧ ps.length ≤ 65536 ∧ (ps.length = 0 ∨ ∃ g off, a = some ⟨g, off, none⟩ ∧ ∀ i q, ps[i]? = some q → w.cell? ⟨g, off + i * 2, none⟩ = some (.int .i64 q.1) ∧ w.cell? ⟨g, off + i * 2 + 1, none⟩ = some (.int .i64 q.2))
theorem LV.of {base : Nat} {w : World} {v : Value} {ps : List (Int × Int)} (h : Gr.Ro idE base w v ps) (hs : ps.length ≤ 65536) : LV w v ps := by
  obtain ⟨a, c, rfl⟩ := h.form
  refine ⟨a, c, rfl, hs, ?_⟩
  by_cases hp : ps.length = 0
  · exact .inl hp
  · obtain ⟨g, off, rfl, _⟩ := h.addr (by omega)
    refine .inr ⟨g, off, rfl, fun i q hq => ⟨h.cell (j := 0) hq rfl, ?_⟩⟩
    have := h.cell (j := 1) hq rfl
    rwa [← Nat.add_assoc] at this
theorem LV.kept {w w' : World} {v : Value} {ps : List (Int × Int)} (h : LV w v ps) (k : Kp [] w w') : LV w' v ps := by
  obtain ⟨a, c, e, hs, hz⟩ := h
  refine ⟨a, c, e, hs, ?_⟩
  rcases hz with hz | ⟨g, off, ha, hc⟩
  · exact .inl hz
  · exact .inr ⟨g, off, ha, fun i q hq => ⟨k.cell (hc i q hq).1, k.cell (hc i q hq).2⟩⟩
set_option maxHeartbeats 1000000 in
theorem sameid_calls {w : World} {v1 v2 : Value} {ps : List (Int × Int)} (h1 : LV w v1 ps) (h2 : LV w v2 ps) :
    Calls Try.prog 17 #[v1, v2] w fun e w' => e = .returned (.bool true) ∧ ∃ k, w' = w.drewN k := by
  obtain ⟨a1, c1, rfl, hs, hz1⟩ := h1
  obtain ⟨a2, c2, rfl, _, hz2⟩ := h2
  replace hz1 := hide hz1
  replace hz2 := hide hz2
  go_enter Try.func17, Try.ntmps17
  go_wp2_with fail
  go_loopg [5] ps.length (fun m i wx => ∃ j : Nat, j ≤ ps.length ∧ m = ps.length - j ∧ i = .int .i64 j ∧ ∃ k, wx = w.drewN k)
  case atStart => exact ⟨0, Nat.zero_le _, rfl, rfl, 0, rfl⟩
  case round =>
    obtain ⟨j, hj, rfl, rfl, k, rfl⟩ := hrel
    by_cases hlt : j < ps.length
    · obtain ⟨g1, o1, rfl, hc1⟩ := (unhide hz1).resolve_left (by omega)
      obtain ⟨g2, o2, rfl, hc2⟩ := (unhide hz2).resolve_left (by omega)
      obtain ⟨⟨n, s⟩, hq⟩ : ∃ q, ps[j]? = some q := ⟨_, List.getElem?_eq_getElem hlt⟩
      have x0 := (hc1 j _ hq).1
      have x1 := (hc1 j _ hq).2
      have y0 := (hc2 j _ hq).1
      have y1 := (hc2 j _ hq).2
      simp only at x0 x1 y0 y1
      have b1 : (j : Int) < (ps.length : Int) := by omega
      have b2 : ((j : Int)).toNat = j := Int.toNat_natCast j
      clear hc1 hc2 hq
      go_wp2_with fail
      go_quiet (fail)
      go_wp2
      go_roundg (ps.length - (j + 1))
      case measure => omega
      case rel => exact ⟨j + 1, by omega, rfl, by go_num, _, rfl⟩
    · have b1 : decide ((j : Int) < (ps.length : Int)) = false := decide_eq_false (by omega)
      go_wp2
      go_ret
      exact ⟨rfl, _, rfl⟩
theorem sameid_kp {w : World} {v1 v2 : Value} {ps : List (Int × Int)} (h1 : LV w v1 ps) (h2 : LV w v2 ps) :
    Calls Try.prog 17 #[v1, v2] w fun e w' => e = .returned (.bool true) ∧ Kp [] w w' :=
  (sameid_calls h1 h2).mono fun e w' ⟨q, k, hk⟩ => ⟨q, by subst hk; exact (Kp.refl [] w).drewN k⟩
end Go.Proofs.Ytgahekhlbcnmaaa
