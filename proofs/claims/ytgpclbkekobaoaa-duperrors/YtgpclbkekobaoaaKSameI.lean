/- Two lists of ints that are the same (ringkernref.SameInts). -/
import Derived.Test.YtgpclbkekobaoaaKTab
import Derived.Deep.DeepCutAuto
namespace Go.Proofs.Ytgpclbkekobaoaa
open Go.RowKit
set_option linter.unusedVariables false
set_option maxHeartbeats 1000000 in
theorem sameints_dr {w : World} {g1 g2 c1 c2 : Nat} {zs : List Int} (h1 : ∀ i q, zs[i]? = some q → w.cell? ⟨g1, i, none⟩ = some (.int .i64 q)) (h2 : ∀ i q, zs[i]? = some q → w.cell? ⟨g2, i, none⟩ = some (.int .i64 q)) (hs : zs.length ≤ 65536) :
    Calls Try.prog 28 #[.slice (some ⟨g1, 0, none⟩) zs.length c1, .slice (some ⟨g2, 0, none⟩) zs.length c2] w fun e w' => e = .returned (.bool true) ∧ ∃ k, w' = w.drewN k := by
  replace h1 := hide h1
  replace h2 := hide h2
  go_enter Try.func28, Try.ntmps28
  go_wp2_with fail
  go_loopg [5] zs.length (fun m i wx => ∃ j : Nat, j ≤ zs.length ∧ m = zs.length - j ∧ i = .int .i64 j ∧ ∃ k, wx = w.drewN k)
  case atStart => exact ⟨0, Nat.zero_le _, rfl, rfl, 0, rfl⟩
  case round =>
    obtain ⟨j, hj, rfl, rfl, k, rfl⟩ := hrel
    by_cases hlt : j < zs.length
    · obtain ⟨q, hq⟩ : ∃ q, zs[j]? = some q := ⟨_, List.getElem?_eq_getElem hlt⟩
      have c1 := unhide h1 j q hq
      have c2 := unhide h2 j q hq
      have b1 : (j : Int) < (zs.length : Int) := by omega
      have tj : ((j : Int)).toNat = j := Int.toNat_natCast j
      clear hq
      go_wp2_with fail
      go_quiet (fail)
      go_wp2
      go_roundg (zs.length - (j + 1))
      case measure => omega
      case rel => exact ⟨j + 1, by omega, rfl, by go_num, _, rfl⟩
    · have b1 : decide ((j : Int) < (zs.length : Int)) = false := decide_eq_false (by omega)
      go_wp2
      go_ret
      exact ⟨rfl, _, rfl⟩
theorem sameints_calls {w : World} {g1 g2 c1 c2 : Nat} {zs : List Int} (h1 : ∀ i q, zs[i]? = some q → w.cell? ⟨g1, i, none⟩ = some (.int .i64 q)) (h2 : ∀ i q, zs[i]? = some q → w.cell? ⟨g2, i, none⟩ = some (.int .i64 q)) (hs : zs.length ≤ 65536) :
    Calls Try.prog 28 #[.slice (some ⟨g1, 0, none⟩) zs.length c1, .slice (some ⟨g2, 0, none⟩) zs.length c2] w fun e w' => e = .returned (.bool true) ∧ Kp [] w w' :=
  (sameints_dr h1 h2 hs).mono fun e w' ⟨h, k, hk⟩ => ⟨h, by subst hk; exact (Kp.refl [] w).drewN k⟩
end Go.Proofs.Ytgpclbkekobaoaa
