/- The program's table: Below. -/
import Derived.Test.YthjhpcbhkcmghaaKGrp
import Derived.Test.YthjhpcbhkcmghaaKTree
namespace Go.Proofs.Ythjhpcbhkcmghaa
open Go.RowKit
set_option linter.unusedVariables false
/-- The children of a place, as the map has them. -/
def kidsOf (D : List Sl) (q : Int × Int) : List (Int × Int) := if q = (0, 0) then [] else sel (sonF q.1 q.2) D
theorem kids_of {D L : List Sl} (h : D.Perm L) : Kids L (kidsOf D) := ⟨by unfold kidsOf; rw [if_pos rfl], fun q hq => by unfold kidsOf; rw [if_neg hq]; exact sel_perm h⟩
theorem kidsOf_len (D : List Sl) (q : Int × Int) : (kidsOf D q).length ≤ D.length := by
  unfold kidsOf
  split
  · simp
  · exact sel_len _ _
theorem Bfs.step {K : Int × Int → List (Int × Int)} {p : Int × Int} {out : List (Int × Int)} {j : Nat} {q : Int × Int} (h : Bfs K p out j) (hq : out[j]? = some q) : Bfs K p (out ++ K q) (j + 1) := by
  obtain ⟨hj, e⟩ := List.getElem?_eq_some_iff.1 hq
  unfold Bfs at *
  rw [List.take_append_of_le_length (by omega), List.take_succ_eq_append_getElem hj, e, List.flatMap_append]
  conv => lhs; rw [h]
  simp
theorem Bfs.start (K : Int × Int → List (Int × Int)) (p : Int × Int) : Bfs K p (K p) 0 := by unfold Bfs; simp
end Go.Proofs.Ythjhpcbhkcmghaa
