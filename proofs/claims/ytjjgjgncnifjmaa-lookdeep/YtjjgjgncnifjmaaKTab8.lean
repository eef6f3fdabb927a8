/- The document's table: Move. -/
import Derived.Test.YtjjgjgncnifjmaaKTab7
namespace Go.Proofs.Ytjjgjgncnifjmaa
open Go.RowKit
set_option linter.unusedVariables false
/-- On the way: the table has M, both places and the slot that moves lie in blocks of their own. -/
structure Mv (base : Nat) (w : World) (Q t : Nat) (a : Option Addr) (cap : Nat) (M : List Sl) (n s n' s' : Int) (x : Sl) (wx : World) : Prop where
  rt : RT base wx t a cap M
  p : Bk wx w.heap.size 40 [.int .i64 n, .int .i64 s]
  q : Bk wx (w.heap.size + 1) 40 [.int .i64 n', .int .i64 s']
  x : Bk wx Q 75 x.vals
  kp : Kp [t] w wx
  far : ∀ g, a = some ⟨g, 0, none⟩ → Q + 1 ≤ g
def moveL (L : List Sl) (n s n' s' : Int) (i : Nat) (x : Sl) : List Sl := (insL (L.eraseIdx i) { x with n := n', s := s' }).map (reF n s n' s')
end Go.Proofs.Ytjjgjgncnifjmaa
