/- Two lists of integers that are the same (ringkernref.SameInts), wherever they lie. -/
import Derived.Test.YtennmoaaieedpaaKQue2
namespace Go.Proofs.Ytennmoaaieedpaa
open Go.RowKit
set_option linter.unusedVariables false
/-- A slice of these, to be read. -/
def IV (w : World) (v : Value) (zs : List Int) : Prop := ∃ a c, v = .slice a zs.length c ∧ zs.length ≤ 65536 ∧ (0 < zs.length → ∃ g, a = some ⟨g, 0, none⟩ ∧ ∀ j z, zs[j]? = some z → w.cell? ⟨g, j, none⟩ = some (.int .i64 z))
theorem IV.of {base : Nat} {w : World} {v : Value} {zs : List Int} (h : Gr.Rw intE base w v zs) (hs : zs.length ≤ 65536) : IV w v zs := by
  rcases h.addr with ⟨rfl, rfl⟩ | ⟨g, c, rfl, _⟩
  · exact ⟨none, 0, rfl, by simp, by simp⟩
  · refine ⟨_, c, rfl, hs, fun _ => ⟨g, rfl, fun j z hz => ?_⟩⟩
    have := h.cell (j := 0) hz rfl
    rwa [Nat.mul_one, Nat.add_zero] at this
theorem IV.kept {w w' : World} {v : Value} {zs : List Int} (h : IV w v zs) (k : Kp [] w w') : IV w' v zs := by
  obtain ⟨a, c, e, hs, hc⟩ := h
  exact ⟨a, c, e, hs, fun hp => by obtain ⟨g, e2, h2⟩ := hc hp; exact ⟨g, e2, fun j z hz => k.cell (h2 j z hz)⟩⟩
set_option maxHeartbeats 1000000 in
theorem sameint_dr {w : World} {v1 v2 : Value} {zs : List Int} (h1 : IV w v1 zs) (h2 : IV w v2 zs) :
    Calls Try.prog 18 #[v1, v2] w fun e w' => e = .returned (.bool true) ∧ ∃ k, w' = w.drewN k := by
  obtain ⟨a1, k1, rfl, hs, h1⟩ := h1
  obtain ⟨a2, k2, rfl, _, h2⟩ := h2
  replace h1 := hide h1
  replace h2 := hide h2
  go_enter Try.func18, Try.ntmps18
  go_wp2_with fail
  go_loopg [5] zs.length (fun m i wx => ∃ j : Nat, j ≤ zs.length ∧ m = zs.length - j ∧ i = .int .i64 j ∧ ∃ k, wx = w.drewN k)
  case atStart => exact ⟨0, Nat.zero_le _, rfl, rfl, 0, rfl⟩
  case round =>
    obtain ⟨j, hj, rfl, rfl, k, rfl⟩ := hrel
    by_cases hlt : j < zs.length
    · obtain ⟨g1, rfl, h3⟩ := unhide h1 (by omega)
      obtain ⟨g2, rfl, h4⟩ := unhide h2 (by omega)
      obtain ⟨q, hq⟩ : ∃ q, zs[j]? = some q := ⟨_, List.getElem?_eq_getElem hlt⟩
      have c1 := h3 j q hq
      have c2 := h4 j q hq
      have b1 : (j : Int) < (zs.length : Int) := by omega
      have tj : ((j : Int)).toNat = j := Int.toNat_natCast j
      clear hq h3 h4
      go_wp2_with fail
      go_quiet (fail)
      go_wp2
      go_roundg (zs.length - (j + 1))
      case measure => omega
      case rel => exact ⟨j + 1, by omega, rfl, by go_num, _, rfl⟩
    · have b1 : decide ((j : Int) < (zs.length : Int)) = false := decide_eq_false (by omega)
      go_wp2
      go_ret
      exact ⟨rfl, _, rfl⟩
theorem sameint_calls {w : World} {v1 v2 : Value} {zs : List Int} (h1 : IV w v1 zs) (h2 : IV w v2 zs) :
    Calls Try.prog 18 #[v1, v2] w fun e w' => e = .returned (.bool true) ∧ Kp [] w w' :=
  (sameint_dr h1 h2).mono fun e w' ⟨h, k, hk⟩ => ⟨h, by subst hk; exact (Kp.refl [] w).drewN k⟩
end Go.Proofs.Ytennmoaaieedpaa
