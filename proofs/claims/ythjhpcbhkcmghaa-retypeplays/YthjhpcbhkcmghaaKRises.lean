/- Places, rising. -/
import Derived.Test.YthjhpcbhkcmghaaKTab
namespace Go.Proofs.Ythjhpcbhkcmghaa
open Go.RowKit
set_option linter.unusedVariables false
/-- Rising: each ahead of those behind it. -/
def Rises (ps : List (Int × Int)) : Prop := ps.Pairwise fun x y => beforeP x.1 x.2 y.1 y.2
theorem rises_unique {ps qs : List (Int × Int)} (h : ps.Perm qs) (h1 : ps.Pairwise fun x y => ¬ beforeP y.1 y.2 x.1 x.2) (h2 : qs.Pairwise fun x y => ¬ beforeP y.1 y.2 x.1 x.2) : ps = qs := by
  refine h.eq_of_pairwise (fun a b _ _ h1 h2 => ?_) h1 h2
  unfold beforeP at *
  exact Prod.ext (by omega) (by omega)
theorem Rises.le {ps : List (Int × Int)} (h : Rises ps) : ps.Pairwise fun x y => ¬ beforeP y.1 y.2 x.1 x.2 := h.imp fun hab => by unfold beforeP at *; omega
end Go.Proofs.Ythjhpcbhkcmghaa
