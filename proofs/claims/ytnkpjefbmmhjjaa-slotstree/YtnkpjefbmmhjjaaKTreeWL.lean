/- SlotsTree for arguments of any length. -/
import Derived.Test.YtnkpjefbmmhjjaaKTreeW
namespace Go.Proofs.Ytnkpjefbmmhjjaa
open Go.RowKit
set_option linter.unusedVariables false
theorem tree_walk (a0 : Option Addr) (len0 cap0 : Nat) (V : Nat → Nat → Value) (a1 : Option Addr) (len1 cap1 : Nat) (zs : List Int) (w : World) (hR : Recs w a0 len0 4 V)
   (y1 : ∀ i, i < len0 → (∃ n, V i 0 = .int .i64 n ∧ (Lit.int .i64 n).wf = true) ∧ (∃ n, V i 1 = .int .i64 n ∧ (Lit.int .i64 n).wf = true) ∧ (∃ n, V i 2 = .int .i64 n ∧ (Lit.int .i64 n).wf = true) ∧ (∃ n, V i 3 = .int .i64 n ∧ (Lit.int .i64 n).wf = true)) (hl : zs.length = len1) (hI : Ints .i64 w a1 zs) :
    Calls Try.prog 4 #[.slice a0 len0 cap0, .slice a1 len1 cap1] w fun e w' => e = .returned (.bool true) ∧ Below w.heap.size w w' := by
  subst hl
  by_cases h : len0 ≤ 40 ∧ zs.length ≤ 60
  · exact tree_in a0 a1 len0 cap0 cap1 V zs w h.1 h.2 hR y1 hI
  · exact tree_long a0 a1 len0 cap0 zs.length cap1 w (by omega)
end Go.Proofs.Ytnkpjefbmmhjjaa
