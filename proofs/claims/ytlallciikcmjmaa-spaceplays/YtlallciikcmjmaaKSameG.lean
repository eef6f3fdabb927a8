/- Two lists of pages that are the same (ringkernref.SamePages1). -/
import Derived.Test.YtlallciikcmjmaaKMaps1
namespace Go.Proofs.Ytlallciikcmjmaa
open Go.RowKit
set_option linter.unusedVariables false
/-- A list of pages, to be read. -/
def GV (w : World) (v : Value) (ps : List (Int × Int)) : Prop :=
  ∃ a c, v = .slice a ps.length c ∧ ps.length ≤ 65536 ∧ (ps.length = 0 ∨ ∃ g, a = some ⟨g, 0, none⟩ ∧ ∀ i q, ps[i]? = some q → w.cell? ⟨g, i * 2, none⟩ = some (.int .i64 q.1) ∧ w.cell? ⟨g, i * 2 + 1, none⟩ = some (.int .i64 q.2))
theorem GV.of {base : Nat} {w : World} {v : Value} {ps : List (Int × Int)} (h : Gr.Rw pageE base w v ps) (hs : ps.length ≤ 65536) : GV w v ps := by
  rcases h.addr with ⟨e, e2⟩ | ⟨g, c, e, _⟩
  · subst e2
    exact ⟨none, 0, e, hs, .inl rfl⟩
  · refine ⟨_, c, e, hs, .inr ⟨g, rfl, fun i q hq => ?_⟩⟩
    subst e
    exact ⟨h.cell (j := 0) hq rfl, h.cell (j := 1) hq rfl⟩
theorem GV.kept {w w' : World} {v : Value} {ps : List (Int × Int)} (h : GV w v ps) (k : Kp [] w w') : GV w' v ps := by
  obtain ⟨a, c, e, hs, hz⟩ := h
  refine ⟨a, c, e, hs, ?_⟩
  rcases hz with hz | ⟨g, ha, hc⟩
  · exact .inl hz
  · refine .inr ⟨g, ha, fun i q hq => ?_⟩
    have h1 := (hc i q hq).1
    have h2 := (hc i q hq).2
    have hlt := World.block_lt_of_cell? w _ h1
    have hb := k.below (Nat.le_refl _) (by simp)
    exact ⟨(hb.cell (p := ⟨g, i * 2, none⟩) hlt).trans h1, (hb.cell (p := ⟨g, i * 2 + 1, none⟩) hlt).trans h2⟩
set_option maxHeartbeats 1000000 in
theorem samepg_calls {w : World} {v1 v2 : Value} {ps : List (Int × Int)} (h1 : GV w v1 ps) (h2 : GV w v2 ps) :
    Calls Try.prog 22 #[v1, v2] w fun e w' => e = .returned (.bool true) ∧ ∃ k, w' = w.drewN k := by
  obtain ⟨a1, c1, rfl, hs, hz1⟩ := h1
  obtain ⟨a2, c2, rfl, _, hz2⟩ := h2
  replace hz1 := hide hz1
  replace hz2 := hide hz2
  go_enter Try.func22, Try.ntmps22
  go_wp2_with fail
  go_loopg [5] ps.length (fun m i wx => ∃ j : Nat, j ≤ ps.length ∧ m = ps.length - j ∧ i = .int .i64 j ∧ ∃ k, wx = w.drewN k)
  case atStart => exact ⟨0, Nat.zero_le _, rfl, rfl, 0, rfl⟩
  case round =>
    obtain ⟨j, hj, rfl, rfl, k, rfl⟩ := hrel
    by_cases hlt : j < ps.length
    · obtain ⟨g1, rfl, hc1⟩ := (unhide hz1).resolve_left (by omega)
      obtain ⟨g2, rfl, hc2⟩ := (unhide hz2).resolve_left (by omega)
      obtain ⟨⟨n, s⟩, hq⟩ : ∃ q, ps[j]? = some q := ⟨_, List.getElem?_eq_getElem hlt⟩
      have x0 := (hc1 j _ hq).1
      have x1 := (hc1 j _ hq).2
      have y0 := (hc2 j _ hq).1
      have y1 := (hc2 j _ hq).2
      have b1 : (j : Int) < (ps.length : Int) := by omega
      have b2 : ((j : Int)).toNat = j := Int.toNat_natCast j
      clear hc1 hc2 hq
      go_wp2_with fail
      go_quiet (fail)
      go_wp2
      go_roundg (ps.length - (j + 1))
      case measure => omega
      case rel => exact ⟨j + 1, by omega, rfl, by go_num, _, rfl⟩
    · have b1 : decide ((j : Int) < (ps.length : Int)) = false := decide_eq_false (by omega)
      go_wp2
      go_ret
      exact ⟨rfl, _, rfl⟩
end Go.Proofs.Ytlallciikcmjmaa
