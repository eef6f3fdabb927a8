/-
  No cell of these rows narrows 'for every input' (looked for: loops, veiled, ifaces, maps, wideKeys, modest, calm, conditions, laid).
  DERIVED. THE GIVEN ROWS OF THIS SEAT. 4 by the template 'for every input the law returns true; each argument reads behind the call as it read before'; 0 by the template 'total and deterministic' (their statements: YtgpclbkekobaoaaTotals.lean).
  GIVEN WITH THE SEED: the statements are not yours to turn. If you find one false, say at which input.
  Laid BY PROGRAM, IN A SANDBOX (cutbox-rows.mjs): the forced cells as the released guide's own fill.sh prints them over the translation b9b85e1892fd263e… (all of the seat's roots in one cut). By AI agents, Wed Nov 11 2026. No macro, syntax, notation, axiom, sorry.
-/
import Derived.Test.YtgpclbkekobaoaaChecked
import GoSem.Claim
import GoSem.ClaimJoined
import GoSem.ClaimMapViews
import Derived.JoinedTies
import Derived.KernelRfl
namespace Go.Proofs.Ytgpclbkekobaoaa
/- THE CELL 'sum', in the pinned program and in every row, IS THE sha256 OF THE DUMP (.gsa) THAT YtgpclbkekobaoaaProg.lean LOADS. Nothing in Lean hashes anything: it is a label: what it is worth is what the hold of that sum in a sandbox is worth. -/
noncomputable def Try.pinned : Pinned := { name := "ytgpclbkekobaoaa", sum := "b9b85e1892fd263e8cc4de2034be2937149ad63ba4382b347eb28dab1ac5d455", checked := Try.checked }
namespace Rows
def none {H : Type} : Left H := { results := [], args := [] }

/-- 'ringkernlaw7.DupPlays': WHATEVER THE INPUT: true; the input reads as it did. -/
def dupPlaysSpec : ChangeSpec := { name := "dupPlays", fn := fun _ => fun
  | [d1, d2] => { results := [.lit (.bool true)], args := [d1, d2] }
  | _ => none }
def dupPlaysRow : OpenClaim := { program := "ytgpclbkekobaoaa", sum := "b9b85e1892fd263e8cc4de2034be2937149ad63ba4382b347eb28dab1ac5d455", func := "ringkern/ringkernlaw7.DupPlays", spec := "dupPlays", unfollowed := true, recurses := true, plainKeys := false, apart := false }
def DupPlaysSaid : Prop := dupPlaysRow.holds Try.pinned (OpenSpec.ofChange dupPlaysSpec)

/-- ITS FALSE NEIGHBOUR: 'it returns false'. Refute it at one input. -/
def dupPlaysWrong : ChangeSpec := { name := "dupPlays", fn := fun _ => fun
  | [d1, d2] => { results := [.lit (.bool false)], args := [d1, d2] }
  | _ => none }
def DupPlaysWrongFalsely : Prop := dupPlaysRow.holds Try.pinned (OpenSpec.ofChange dupPlaysWrong)

/-- 'ringkernlaw7.DupNames': WHATEVER THE INPUT: true; the input reads as it did. -/
def dupNamesSpec : ChangeSpec := { name := "dupNames", fn := fun _ => fun
  | [d1, d2, d3] => { results := [.lit (.bool true)], args := [d1, d2, d3] }
  | _ => none }
def dupNamesRow : OpenClaim := { program := "ytgpclbkekobaoaa", sum := "b9b85e1892fd263e8cc4de2034be2937149ad63ba4382b347eb28dab1ac5d455", func := "ringkern/ringkernlaw7.DupNames", spec := "dupNames", unfollowed := true, recurses := true, plainKeys := false, apart := false }
def DupNamesSaid : Prop := dupNamesRow.holds Try.pinned (OpenSpec.ofChange dupNamesSpec)

/-- ITS FALSE NEIGHBOUR: 'it returns false'. Refute it at one input. -/
def dupNamesWrong : ChangeSpec := { name := "dupNames", fn := fun _ => fun
  | [d1, d2, d3] => { results := [.lit (.bool false)], args := [d1, d2, d3] }
  | _ => none }
def DupNamesWrongFalsely : Prop := dupNamesRow.holds Try.pinned (OpenSpec.ofChange dupNamesWrong)

/-- 'ringkernlaw7.DupErrors': WHATEVER THE INPUT: true; the input reads as it did. -/
def dupErrorsSpec : ChangeSpec := { name := "dupErrors", fn := fun _ => fun
  | [d1, d2] => { results := [.lit (.bool true)], args := [d1, d2] }
  | _ => none }
def dupErrorsRow : OpenClaim := { program := "ytgpclbkekobaoaa", sum := "b9b85e1892fd263e8cc4de2034be2937149ad63ba4382b347eb28dab1ac5d455", func := "ringkern/ringkernlaw7.DupErrors", spec := "dupErrors", unfollowed := true, recurses := true, plainKeys := false, apart := false }
def DupErrorsSaid : Prop := dupErrorsRow.holds Try.pinned (OpenSpec.ofChange dupErrorsSpec)

/-- ITS FALSE NEIGHBOUR: 'it returns false'. Refute it at one input. -/
def dupErrorsWrong : ChangeSpec := { name := "dupErrors", fn := fun _ => fun
  | [d1, d2] => { results := [.lit (.bool false)], args := [d1, d2] }
  | _ => none }
def DupErrorsWrongFalsely : Prop := dupErrorsRow.holds Try.pinned (OpenSpec.ofChange dupErrorsWrong)

/-- 'ringkernlaw7.DupRows': WHATEVER THE INPUT: true; the input reads as it did. -/
def dupRowsSpec : ChangeSpec := { name := "dupRows", fn := fun _ => fun
  | [d] => { results := [.lit (.bool true)], args := [d] }
  | _ => none }
def dupRowsRow : OpenClaim := { program := "ytgpclbkekobaoaa", sum := "b9b85e1892fd263e8cc4de2034be2937149ad63ba4382b347eb28dab1ac5d455", func := "ringkern/ringkernlaw7.DupRows", spec := "dupRows", unfollowed := true, recurses := true, plainKeys := false, apart := false }
def DupRowsSaid : Prop := dupRowsRow.holds Try.pinned (OpenSpec.ofChange dupRowsSpec)

/-- ITS FALSE NEIGHBOUR: 'it returns false'. Refute it at one input. -/
def dupRowsWrong : ChangeSpec := { name := "dupRows", fn := fun _ => fun
  | [d] => { results := [.lit (.bool false)], args := [d] }
  | _ => none }
def DupRowsWrongFalsely : Prop := dupRowsRow.holds Try.pinned (OpenSpec.ofChange dupRowsWrong)

/- THE SECOND FORM. 'bulk': how many values and letters a reading holds, each counted each time it is reached (what is shared counts as often as it is met; a slice's spare places count too). A statement '..UptoSaid' is the law's where the arguments, and the package variables that the reading takes, are together of bulk at most 1048576: NARROWER than '..Said'. Prove '..Said' where nothing that the law and all that it calls make is longer than what came in: it says more and counts as full. Else prove '..UptoSaid'. A law counts once. -/
mutual
def uptoBulk {H : Type} : DataW H → Nat
  | .lit (.string bytes) => bytes.length + 1
  | .lit _ => 1
  | .nil => 1
  | .ptr d => uptoBulk d + 1
  | .slice elems spare => uptoBulkAll elems + uptoBulkAll spare + 1
  | .agg parts => uptoBulkAll parts + 1
  | .iface _ d => uptoBulk d + 1
  | .map entries => uptoBulkEntries entries + 1
  | .held _ => 1
def uptoBulkAll {H : Type} : List (DataW H) → Nat
  | [] => 0
  | d :: r => uptoBulk d + uptoBulkAll r
def uptoBulkEntries {H : Type} : List (Lit × DataW H) → Nat
  | [] => 0
  | x :: r => uptoBulkEntry x + uptoBulkEntries r
def uptoBulkEntry {H : Type} : Lit × DataW H → Nat
  | (.string bytes, d) => bytes.length + uptoBulk d + 1
  | (_, d) => uptoBulk d + 1
 end
def uptoSmall : (H : Type) → List (DataW H) → Bool := fun _ ds => decide (uptoBulkAll ds ≤ 1048576)
def OpenSpec.upto (s : _root_.Go.ChangeSpec) : _root_.Go.OpenSpec := { _root_.Go.OpenSpec.ofChange s with cond := some uptoSmall }

/-- 'ringkernlaw7.DupPlays', WHERE WHAT IT READS IS OF BULK AT MOST 1048576: true; the input reads as it did. -/
def dupPlaysUptoRow : OpenClaim := { program := "ytgpclbkekobaoaa", sum := "b9b85e1892fd263e8cc4de2034be2937149ad63ba4382b347eb28dab1ac5d455", func := "ringkern/ringkernlaw7.DupPlays", spec := "dupPlays", unfollowed := true, recurses := true, plainKeys := false, apart := false, narrowed := true }
def DupPlaysUptoSaid : Prop := dupPlaysUptoRow.holds Try.pinned (OpenSpec.upto dupPlaysSpec)

/-- 'ringkernlaw7.DupNames', WHERE WHAT IT READS IS OF BULK AT MOST 1048576: true; the input reads as it did. -/
def dupNamesUptoRow : OpenClaim := { program := "ytgpclbkekobaoaa", sum := "b9b85e1892fd263e8cc4de2034be2937149ad63ba4382b347eb28dab1ac5d455", func := "ringkern/ringkernlaw7.DupNames", spec := "dupNames", unfollowed := true, recurses := true, plainKeys := false, apart := false, narrowed := true }
def DupNamesUptoSaid : Prop := dupNamesUptoRow.holds Try.pinned (OpenSpec.upto dupNamesSpec)

/-- 'ringkernlaw7.DupErrors', WHERE WHAT IT READS IS OF BULK AT MOST 1048576: true; the input reads as it did. -/
def dupErrorsUptoRow : OpenClaim := { program := "ytgpclbkekobaoaa", sum := "b9b85e1892fd263e8cc4de2034be2937149ad63ba4382b347eb28dab1ac5d455", func := "ringkern/ringkernlaw7.DupErrors", spec := "dupErrors", unfollowed := true, recurses := true, plainKeys := false, apart := false, narrowed := true }
def DupErrorsUptoSaid : Prop := dupErrorsUptoRow.holds Try.pinned (OpenSpec.upto dupErrorsSpec)

/-- 'ringkernlaw7.DupRows', WHERE WHAT IT READS IS OF BULK AT MOST 1048576: true; the input reads as it did. -/
def dupRowsUptoRow : OpenClaim := { program := "ytgpclbkekobaoaa", sum := "b9b85e1892fd263e8cc4de2034be2937149ad63ba4382b347eb28dab1ac5d455", func := "ringkern/ringkernlaw7.DupRows", spec := "dupRows", unfollowed := true, recurses := true, plainKeys := false, apart := false, narrowed := true }
def DupRowsUptoSaid : Prop := dupRowsUptoRow.holds Try.pinned (OpenSpec.upto dupRowsSpec)

end Rows
end Go.Proofs.Ytgpclbkekobaoaa
