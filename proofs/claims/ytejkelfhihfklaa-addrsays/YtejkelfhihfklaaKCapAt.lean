/- A capability's own block. -/
import Derived.Test.YtejkelfhihfklaaRows
import Derived.Test.YtejkelfhihfklaaKCaps2
namespace Go.Proofs.Ytejkelfhihfklaa
open Go.RowKit
set_option linter.unusedVariables false
/-- A capability's own block. -/
def CapAt (w : World) (p : Nat) (k o s b r : Int) : Prop := Bk w p 24 [.int .i64 k, .int .i64 o, .int .i64 s, .int .i64 b, .int .i64 r]
theorem CapAt.cells {w : World} {p : Nat} {k o s b r : Int} (h : CapAt w p k o s b r) :
    w.cell? ⟨p, 0, none⟩ = some (.int .i64 k) ∧ w.cell? ⟨p, 1, none⟩ = some (.int .i64 o) ∧ w.cell? ⟨p, 2, none⟩ = some (.int .i64 s) ∧ w.cell? ⟨p, 3, none⟩ = some (.int .i64 b) ∧ w.cell? ⟨p, 4, none⟩ = some (.int .i64 r) ∧ ∀ i, w.frozen? ⟨p, i, none⟩ = false :=
  ⟨Bk.cell h rfl, Bk.cell h rfl, Bk.cell h rfl, Bk.cell h rfl, Bk.cell h rfl, Bk.frozen h⟩
theorem CapAt.kept {w w' : World} {p : Nat} {k o s b r : Int} {S : List Nat} (h : CapAt w p k o s b r) (kp : Kp S w w') (hp : p ∉ S) : CapAt w' p k o s b r := Bk.kept h kp hp
theorem CapAt.alloc {w : World} {p : Nat} {k o s b r : Int} (h : CapAt w p k o s b r) (o' : Obj) : CapAt (w.alloc o') p k o s b r := Bk.alloc h o'
theorem CapAt.next (w : World) (k o s b r : Int) {p : Nat} (hp : w.heap.size = p) : CapAt (w.alloc (.cells #[.int .i64 k, .int .i64 o, .int .i64 s, .int .i64 b, .int .i64 r] 24)) p k o s b r := Bk.next w _ [.int .i64 k, .int .i64 o, .int .i64 s, .int .i64 b, .int .i64 r] hp
end Go.Proofs.Ytejkelfhihfklaa
