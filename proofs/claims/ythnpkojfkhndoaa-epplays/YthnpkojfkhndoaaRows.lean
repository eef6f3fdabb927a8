/-
  No cell of these rows narrows 'for every input' (looked for: loops, veiled, ifaces, maps, wideKeys, modest, calm, conditions, laid).
  DERIVED. THE GIVEN ROWS OF THIS SEAT. 3 by the template 'for every input the law returns true; each argument reads behind the call as it read before'; 0 by the template 'total and deterministic' (their statements: YthnpkojfkhndoaaTotals.lean).
  GIVEN WITH THE SEED: the statements are not yours to turn. If you find one false, say at which input.
  Laid BY PROGRAM, IN A SANDBOX (cutbox-rows.mjs): the forced cells as the released guide's own fill.sh prints them over the translation 56b1cfb8ef471a2c… (all of the seat's roots in one cut). By AI agents, Wed Nov 11 2026. No macro, syntax, notation, axiom, sorry.
-/
import Derived.Test.YthnpkojfkhndoaaChecked
import GoSem.Claim
import GoSem.ClaimJoined
import GoSem.ClaimMapViews
import Derived.JoinedTies
import Derived.KernelRfl
namespace Go.Proofs.Ythnpkojfkhndoaa
/- THE CELL 'sum', in the pinned program and in every row, IS THE sha256 OF THE DUMP (.gsa) THAT YthnpkojfkhndoaaProg.lean LOADS. Nothing in Lean hashes anything: it is a label: what it is worth is what the hold of that sum in a sandbox is worth. -/
noncomputable def Try.pinned : Pinned := { name := "ythnpkojfkhndoaa", sum := "56b1cfb8ef471a2c8c34e139aa70808a43a7317978723328921e7043f41ee35e", checked := Try.checked }
namespace Rows
def none {H : Type} : Left H := { results := [], args := [] }

/-- 'ringkernlaw14.EpPlays': WHATEVER THE INPUT: true; the input reads as it did. -/
def epPlaysSpec : ChangeSpec := { name := "epPlays", fn := fun _ => fun
  | [d] => { results := [.lit (.bool true)], args := [d] }
  | _ => none }
def epPlaysRow : OpenClaim := { program := "ythnpkojfkhndoaa", sum := "56b1cfb8ef471a2c8c34e139aa70808a43a7317978723328921e7043f41ee35e", func := "ringkern/ringkernlaw14.EpPlays", spec := "epPlays", unfollowed := true, recurses := true, apart := false }
def EpPlaysSaid : Prop := epPlaysRow.holds Try.pinned (OpenSpec.ofChange epPlaysSpec)

/-- ITS FALSE NEIGHBOUR: 'it returns false'. Refute it at one input. -/
def epPlaysWrong : ChangeSpec := { name := "epPlays", fn := fun _ => fun
  | [d] => { results := [.lit (.bool false)], args := [d] }
  | _ => none }
def EpPlaysWrongFalsely : Prop := epPlaysRow.holds Try.pinned (OpenSpec.ofChange epPlaysWrong)

/-- 'ringkernlaw14.EpPairs': WHATEVER THE INPUT: true; the input reads as it did. -/
def epPairsSpec : ChangeSpec := { name := "epPairs", fn := fun _ => fun
  | [d] => { results := [.lit (.bool true)], args := [d] }
  | _ => none }
def epPairsRow : OpenClaim := { program := "ythnpkojfkhndoaa", sum := "56b1cfb8ef471a2c8c34e139aa70808a43a7317978723328921e7043f41ee35e", func := "ringkern/ringkernlaw14.EpPairs", spec := "epPairs", apart := false }
def EpPairsSaid : Prop := epPairsRow.holds Try.pinned (OpenSpec.ofChange epPairsSpec)

/-- ITS FALSE NEIGHBOUR: 'it returns false'. Refute it at one input. -/
def epPairsWrong : ChangeSpec := { name := "epPairs", fn := fun _ => fun
  | [d] => { results := [.lit (.bool false)], args := [d] }
  | _ => none }
def EpPairsWrongFalsely : Prop := epPairsRow.holds Try.pinned (OpenSpec.ofChange epPairsWrong)

/-- 'ringkernlaw14.EpDrops': WHATEVER THE INPUT: true; the input reads as it did. -/
def epDropsSpec : ChangeSpec := { name := "epDrops", fn := fun _ => fun
  | [d1, d2, d3] => { results := [.lit (.bool true)], args := [d1, d2, d3] }
  | _ => none }
def epDropsRow : OpenClaim := { program := "ythnpkojfkhndoaa", sum := "56b1cfb8ef471a2c8c34e139aa70808a43a7317978723328921e7043f41ee35e", func := "ringkern/ringkernlaw14.EpDrops", spec := "epDrops", unfollowed := true, recurses := true, apart := false }
def EpDropsSaid : Prop := epDropsRow.holds Try.pinned (OpenSpec.ofChange epDropsSpec)

/-- ITS FALSE NEIGHBOUR: 'it returns false'. Refute it at one input. -/
def epDropsWrong : ChangeSpec := { name := "epDrops", fn := fun _ => fun
  | [d1, d2, d3] => { results := [.lit (.bool false)], args := [d1, d2, d3] }
  | _ => none }
def EpDropsWrongFalsely : Prop := epDropsRow.holds Try.pinned (OpenSpec.ofChange epDropsWrong)

/- THE SECOND FORM. 'bulk': how many values and letters a reading holds, each counted each time it is reached (what is shared counts as often as it is met; a slice's spare places count too). A statement '..UptoSaid' is the law's where the arguments, and the package variables that the reading takes, are together of bulk at most 1048576: NARROWER than '..Said'. Prove '..Said' where nothing that the law and all that it calls make is longer than what came in: it says more and counts as full. Else prove '..UptoSaid'. A law counts once. -/
mutual
def uptoBulk {H : Type} : DataW H → Nat
  | .lit (.string bytes) => bytes.length + 1
  | .lit _ => 1
  | .nil => 1
  | .ptr d => uptoBulk d + 1
  | .slice elems spare => uptoBulkAll elems + uptoBulkAll spare + 1
  | .agg parts => uptoBulkAll parts + 1
  | .iface _ d => uptoBulk d + 1
  | .map entries => uptoBulkEntries entries + 1
  | .held _ => 1
def uptoBulkAll {H : Type} : List (DataW H) → Nat
  | [] => 0
  | d :: r => uptoBulk d + uptoBulkAll r
def uptoBulkEntries {H : Type} : List (Lit × DataW H) → Nat
  | [] => 0
  | x :: r => uptoBulkEntry x + uptoBulkEntries r
def uptoBulkEntry {H : Type} : Lit × DataW H → Nat
  | (.string bytes, d) => bytes.length + uptoBulk d + 1
  | (_, d) => uptoBulk d + 1
 end
def uptoSmall : (H : Type) → List (DataW H) → Bool := fun _ ds => decide (uptoBulkAll ds ≤ 1048576)
def OpenSpec.upto (s : _root_.Go.ChangeSpec) : _root_.Go.OpenSpec := { _root_.Go.OpenSpec.ofChange s with cond := some uptoSmall }

/-- 'ringkernlaw14.EpPlays', WHERE WHAT IT READS IS OF BULK AT MOST 1048576: true; the input reads as it did. -/
def epPlaysUptoRow : OpenClaim := { program := "ythnpkojfkhndoaa", sum := "56b1cfb8ef471a2c8c34e139aa70808a43a7317978723328921e7043f41ee35e", func := "ringkern/ringkernlaw14.EpPlays", spec := "epPlays", unfollowed := true, recurses := true, apart := false, narrowed := true }
def EpPlaysUptoSaid : Prop := epPlaysUptoRow.holds Try.pinned (OpenSpec.upto epPlaysSpec)

/-- 'ringkernlaw14.EpPairs', WHERE WHAT IT READS IS OF BULK AT MOST 1048576: true; the input reads as it did. -/
def epPairsUptoRow : OpenClaim := { program := "ythnpkojfkhndoaa", sum := "56b1cfb8ef471a2c8c34e139aa70808a43a7317978723328921e7043f41ee35e", func := "ringkern/ringkernlaw14.EpPairs", spec := "epPairs", apart := false, narrowed := true }
def EpPairsUptoSaid : Prop := epPairsUptoRow.holds Try.pinned (OpenSpec.upto epPairsSpec)

/-- 'ringkernlaw14.EpDrops', WHERE WHAT IT READS IS OF BULK AT MOST 1048576: true; the input reads as it did. -/
def epDropsUptoRow : OpenClaim := { program := "ythnpkojfkhndoaa", sum := "56b1cfb8ef471a2c8c34e139aa70808a43a7317978723328921e7043f41ee35e", func := "ringkern/ringkernlaw14.EpDrops", spec := "epDrops", unfollowed := true, recurses := true, apart := false, narrowed := true }
def EpDropsUptoSaid : Prop := epDropsUptoRow.holds Try.pinned (OpenSpec.upto epDropsSpec)

end Rows
end Go.Proofs.Ythnpkojfkhndoaa
