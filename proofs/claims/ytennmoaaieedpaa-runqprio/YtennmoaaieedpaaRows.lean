/-
  No cell of these rows narrows 'for every input' (looked for: loops, veiled, ifaces, maps, wideKeys, modest, calm, conditions, laid).
  DERIVED. THE GIVEN ROWS OF THIS SEAT. 3 by the template 'for every input the law returns true; each argument reads behind the call as it read before'; 0 by the template 'total and deterministic' (their statements: YtennmoaaieedpaaTotals.lean).
  GIVEN WITH THE SEED: the statements are not yours to turn. If you find one false, say at which input.
  Laid BY PROGRAM, IN A SANDBOX (cutbox-rows.mjs): the forced cells as the released guide's own fill.sh prints them over the translation 39d51e32f16489a5… (all of the seat's roots in one cut). By AI agents, Wed Nov 11 2026. No macro, syntax, notation, axiom, sorry.
-/
import Derived.Test.YtennmoaaieedpaaChecked
import GoSem.Claim
import GoSem.ClaimJoined
import GoSem.ClaimMapViews
import Derived.JoinedTies
import Derived.KernelRfl
namespace Go.Proofs.Ytennmoaaieedpaa
/- THE CELL 'sum', in the pinned program and in every row, IS THE sha256 OF THE DUMP (.gsa) THAT YtennmoaaieedpaaProg.lean LOADS. Nothing in Lean hashes anything: it is a label: what it is worth is what the hold of that sum in a sandbox is worth. -/
noncomputable def Try.pinned : Pinned := { name := "ytennmoaaieedpaa", sum := "39d51e32f16489a5319bcfb23dd7ee5603aa37ba475a4f366c00bf63bef219c4", checked := Try.checked }
namespace Rows
def none {H : Type} : Left H := { results := [], args := [] }

/-- 'ringkernlaw11.RunqPlays': WHATEVER THE INPUT: true; the input reads as it did. -/
def runqPlaysSpec : ChangeSpec := { name := "runqPlays", fn := fun _ => fun
  | [d] => { results := [.lit (.bool true)], args := [d] }
  | _ => none }
def runqPlaysRow : OpenClaim := { program := "ytennmoaaieedpaa", sum := "39d51e32f16489a5319bcfb23dd7ee5603aa37ba475a4f366c00bf63bef219c4", func := "ringkern/ringkernlaw11.RunqPlays", spec := "runqPlays", unfollowed := true, recurses := true, apart := false }
def RunqPlaysSaid : Prop := runqPlaysRow.holds Try.pinned (OpenSpec.ofChange runqPlaysSpec)

/-- ITS FALSE NEIGHBOUR: 'it returns false'. Refute it at one input. -/
def runqPlaysWrong : ChangeSpec := { name := "runqPlays", fn := fun _ => fun
  | [d] => { results := [.lit (.bool false)], args := [d] }
  | _ => none }
def RunqPlaysWrongFalsely : Prop := runqPlaysRow.holds Try.pinned (OpenSpec.ofChange runqPlaysWrong)

/-- 'ringkernlaw11.RunqRound': WHATEVER THE INPUT: true; the input reads as it did. -/
def runqRoundSpec : ChangeSpec := { name := "runqRound", fn := fun _ => fun
  | [d1, d2, d3, d4] => { results := [.lit (.bool true)], args := [d1, d2, d3, d4] }
  | _ => none }
def runqRoundRow : OpenClaim := { program := "ytennmoaaieedpaa", sum := "39d51e32f16489a5319bcfb23dd7ee5603aa37ba475a4f366c00bf63bef219c4", func := "ringkern/ringkernlaw11.RunqRound", spec := "runqRound", unfollowed := true, recurses := true, apart := false }
def RunqRoundSaid : Prop := runqRoundRow.holds Try.pinned (OpenSpec.ofChange runqRoundSpec)

/-- ITS FALSE NEIGHBOUR: 'it returns false'. Refute it at one input. -/
def runqRoundWrong : ChangeSpec := { name := "runqRound", fn := fun _ => fun
  | [d1, d2, d3, d4] => { results := [.lit (.bool false)], args := [d1, d2, d3, d4] }
  | _ => none }
def RunqRoundWrongFalsely : Prop := runqRoundRow.holds Try.pinned (OpenSpec.ofChange runqRoundWrong)

/-- 'ringkernlaw11.RunqPrio': WHATEVER THE INPUT: true; the input reads as it did. -/
def runqPrioSpec : ChangeSpec := { name := "runqPrio", fn := fun _ => fun
  | [d1, d2, d3] => { results := [.lit (.bool true)], args := [d1, d2, d3] }
  | _ => none }
def runqPrioRow : OpenClaim := { program := "ytennmoaaieedpaa", sum := "39d51e32f16489a5319bcfb23dd7ee5603aa37ba475a4f366c00bf63bef219c4", func := "ringkern/ringkernlaw11.RunqPrio", spec := "runqPrio", unfollowed := true, recurses := true, apart := false }
def RunqPrioSaid : Prop := runqPrioRow.holds Try.pinned (OpenSpec.ofChange runqPrioSpec)

/-- ITS FALSE NEIGHBOUR: 'it returns false'. Refute it at one input. -/
def runqPrioWrong : ChangeSpec := { name := "runqPrio", fn := fun _ => fun
  | [d1, d2, d3] => { results := [.lit (.bool false)], args := [d1, d2, d3] }
  | _ => none }
def RunqPrioWrongFalsely : Prop := runqPrioRow.holds Try.pinned (OpenSpec.ofChange runqPrioWrong)

/- THE SECOND FORM. 'bulk': how many values and letters a reading holds, each counted each time it is reached (what is shared counts as often as it is met; a slice's spare places count too). A statement '..UptoSaid' is the law's where the arguments, and the package variables that the reading takes, are together of bulk at most 1048576: NARROWER than '..Said'. Prove '..Said' where nothing that the law and all that it calls make is longer than what came in: it says more and counts as full. Else prove '..UptoSaid'. A law counts once. -/
mutual
def uptoBulk {H : Type} : DataW H → Nat
  | .lit (.string bytes) => bytes.length + 1
  | .lit _ => 1
  | .nil => 1
  | .ptr d => uptoBulk d + 1
  | .slice elems spare => uptoBulkAll elems + uptoBulkAll spare + 1
  | .agg parts => uptoBulkAll parts + 1
  | .iface _ d => uptoBulk d + 1
  | .map entries => uptoBulkEntries entries + 1
  | .held _ => 1
def uptoBulkAll {H : Type} : List (DataW H) → Nat
  | [] => 0
  | d :: r => uptoBulk d + uptoBulkAll r
def uptoBulkEntries {H : Type} : List (Lit × DataW H) → Nat
  | [] => 0
  | x :: r => uptoBulkEntry x + uptoBulkEntries r
def uptoBulkEntry {H : Type} : Lit × DataW H → Nat
  | (.string bytes, d) => bytes.length + uptoBulk d + 1
  | (_, d) => uptoBulk d + 1
 end
def uptoSmall : (H : Type) → List (DataW H) → Bool := fun _ ds => decide (uptoBulkAll ds ≤ 1048576)
def OpenSpec.upto (s : _root_.Go.ChangeSpec) : _root_.Go.OpenSpec := { _root_.Go.OpenSpec.ofChange s with cond := some uptoSmall }

/-- 'ringkernlaw11.RunqPlays', WHERE WHAT IT READS IS OF BULK AT MOST 1048576: true; the input reads as it did. -/
def runqPlaysUptoRow : OpenClaim := { program := "ytennmoaaieedpaa", sum := "39d51e32f16489a5319bcfb23dd7ee5603aa37ba475a4f366c00bf63bef219c4", func := "ringkern/ringkernlaw11.RunqPlays", spec := "runqPlays", unfollowed := true, recurses := true, apart := false, narrowed := true }
def RunqPlaysUptoSaid : Prop := runqPlaysUptoRow.holds Try.pinned (OpenSpec.upto runqPlaysSpec)

/-- 'ringkernlaw11.RunqRound', WHERE WHAT IT READS IS OF BULK AT MOST 1048576: true; the input reads as it did. -/
def runqRoundUptoRow : OpenClaim := { program := "ytennmoaaieedpaa", sum := "39d51e32f16489a5319bcfb23dd7ee5603aa37ba475a4f366c00bf63bef219c4", func := "ringkern/ringkernlaw11.RunqRound", spec := "runqRound", unfollowed := true, recurses := true, apart := false, narrowed := true }
def RunqRoundUptoSaid : Prop := runqRoundUptoRow.holds Try.pinned (OpenSpec.upto runqRoundSpec)

/-- 'ringkernlaw11.RunqPrio', WHERE WHAT IT READS IS OF BULK AT MOST 1048576: true; the input reads as it did. -/
def runqPrioUptoRow : OpenClaim := { program := "ytennmoaaieedpaa", sum := "39d51e32f16489a5319bcfb23dd7ee5603aa37ba475a4f366c00bf63bef219c4", func := "ringkern/ringkernlaw11.RunqPrio", spec := "runqPrio", unfollowed := true, recurses := true, apart := false, narrowed := true }
def RunqPrioUptoSaid : Prop := runqPrioUptoRow.holds Try.pinned (OpenSpec.upto runqPrioSpec)

end Rows
end Go.Proofs.Ytennmoaaieedpaa
