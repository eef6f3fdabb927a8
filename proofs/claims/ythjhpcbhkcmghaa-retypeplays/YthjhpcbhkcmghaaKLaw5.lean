/- What layer 5's statements begin with. -/
import Derived.Test.YthjhpcbhkcmghaaKSlots11
import Derived.Test.YthjhpcbhkcmghaaKTree
import Derived.Test.YthjhpcbhkcmghaaKRef
import Derived.Test.YthjhpcbhkcmghaaKTb
namespace Go.Proofs.Ythjhpcbhkcmghaa
open Go.RowKit
set_option linter.unusedVariables false
/-- As put_yes, with what comes of it given by name. -/
theorem put_to {w : World} {t : Nat} {m : Option Nat} {L L' : List Sl} (h : PT w t m L) {n s k o z b r u v : Int} (hi : PIn (n, s)) (hu : PIn (u, v)) (hp : putP L n s k o z b r u v) (hL : L.length < 65536) (e : insL L ⟨n, s, u, v, k, o, z, b, r⟩ = L') :
    Calls Try.prog 10 #[.pointer (some ⟨t, 0, none⟩), .agg #[.int .i64 n, .int .i64 s], .agg #[.int .i64 k, .int .i64 o, .int .i64 z, .int .i64 b, .int .i64 r], .agg #[.int .i64 u, .int .i64 v]] w (PPutP w t m L') := by subst e; exact put_yes h hi hu hp hL
end Go.Proofs.Ythjhpcbhkcmghaa
