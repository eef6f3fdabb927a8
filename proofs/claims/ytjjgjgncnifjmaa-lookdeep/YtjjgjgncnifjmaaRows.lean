/-
  No cell of these rows narrows 'for every input' (looked for: loops, veiled, ifaces, maps, wideKeys, modest, calm, conditions, laid).
  DERIVED. THE GIVEN ROWS OF THIS SEAT. 4 by the template 'for every input the law returns true; each argument reads behind the call as it read before'; 0 by the template 'total and deterministic' (their statements: YtjjgjgncnifjmaaTotals.lean).
  GIVEN WITH THE SEED: the statements are not yours to turn. If you find one false, say at which input.
  Laid BY PROGRAM, IN A SANDBOX (cutbox-rows.mjs): the forced cells as the released guide's own fill.sh prints them over the translation 711e100d43a1e27f… (all of the seat's roots in one cut). By AI agents, Wed Nov 11 2026. No macro, syntax, notation, axiom, sorry.
-/
import Derived.Test.YtjjgjgncnifjmaaChecked
import GoSem.Claim
import GoSem.ClaimJoined
import GoSem.ClaimMapViews
import Derived.JoinedTies
import Derived.KernelRfl
namespace Go.Proofs.Ytjjgjgncnifjmaa
/- THE CELL 'sum', in the pinned program and in every row, IS THE sha256 OF THE DUMP (.gsa) THAT YtjjgjgncnifjmaaProg.lean LOADS. Nothing in Lean hashes anything: it is a label: what it is worth is what the hold of that sum in a sandbox is worth. -/
noncomputable def Try.pinned : Pinned := { name := "ytjjgjgncnifjmaa", sum := "711e100d43a1e27f5772e89816aedaa53c3d9cbd5b36d1cbac6e49673c323543", checked := Try.checked }
namespace Rows
def none {H : Type} : Left H := { results := [], args := [] }

/-- 'ringkernlaw6.LookSays': WHATEVER THE INPUT: true; the input reads as it did. -/
def lookSaysSpec : ChangeSpec := { name := "lookSays", fn := fun _ => fun
  | [d1, d2, d3, d4] => { results := [.lit (.bool true)], args := [d1, d2, d3, d4] }
  | _ => none }
def lookSaysRow : OpenClaim := { program := "ytjjgjgncnifjmaa", sum := "711e100d43a1e27f5772e89816aedaa53c3d9cbd5b36d1cbac6e49673c323543", func := "ringkern/ringkernlaw6.LookSays", spec := "lookSays", plainKeys := false, apart := false }
def LookSaysSaid : Prop := lookSaysRow.holds Try.pinned (OpenSpec.ofChange lookSaysSpec)

/-- ITS FALSE NEIGHBOUR: 'it returns false'. Refute it at one input. -/
def lookSaysWrong : ChangeSpec := { name := "lookSays", fn := fun _ => fun
  | [d1, d2, d3, d4] => { results := [.lit (.bool false)], args := [d1, d2, d3, d4] }
  | _ => none }
def LookSaysWrongFalsely : Prop := lookSaysRow.holds Try.pinned (OpenSpec.ofChange lookSaysWrong)

/-- 'ringkernlaw6.LookWays': WHATEVER THE INPUT: true; the input reads as it did. -/
def lookWaysSpec : ChangeSpec := { name := "lookWays", fn := fun _ => fun
  | [d1, d2, d3] => { results := [.lit (.bool true)], args := [d1, d2, d3] }
  | _ => none }
def lookWaysRow : OpenClaim := { program := "ytjjgjgncnifjmaa", sum := "711e100d43a1e27f5772e89816aedaa53c3d9cbd5b36d1cbac6e49673c323543", func := "ringkern/ringkernlaw6.LookWays", spec := "lookWays", unfollowed := true, recurses := true, plainKeys := false, apart := false }
def LookWaysSaid : Prop := lookWaysRow.holds Try.pinned (OpenSpec.ofChange lookWaysSpec)

/-- ITS FALSE NEIGHBOUR: 'it returns false'. Refute it at one input. -/
def lookWaysWrong : ChangeSpec := { name := "lookWays", fn := fun _ => fun
  | [d1, d2, d3] => { results := [.lit (.bool false)], args := [d1, d2, d3] }
  | _ => none }
def LookWaysWrongFalsely : Prop := lookWaysRow.holds Try.pinned (OpenSpec.ofChange lookWaysWrong)

/-- 'ringkernlaw6.LookDeep': WHATEVER THE INPUT: true; the input reads as it did. -/
def lookDeepSpec : ChangeSpec := { name := "lookDeep", fn := fun _ => fun
  | [d1, d2] => { results := [.lit (.bool true)], args := [d1, d2] }
  | _ => none }
def lookDeepRow : OpenClaim := { program := "ytjjgjgncnifjmaa", sum := "711e100d43a1e27f5772e89816aedaa53c3d9cbd5b36d1cbac6e49673c323543", func := "ringkern/ringkernlaw6.LookDeep", spec := "lookDeep", plainKeys := false, apart := false }
def LookDeepSaid : Prop := lookDeepRow.holds Try.pinned (OpenSpec.ofChange lookDeepSpec)

/-- ITS FALSE NEIGHBOUR: 'it returns false'. Refute it at one input. -/
def lookDeepWrong : ChangeSpec := { name := "lookDeep", fn := fun _ => fun
  | [d1, d2] => { results := [.lit (.bool false)], args := [d1, d2] }
  | _ => none }
def LookDeepWrongFalsely : Prop := lookDeepRow.holds Try.pinned (OpenSpec.ofChange lookDeepWrong)

/-- 'ringkernlaw6.LookGuards': WHATEVER THE INPUT: true; the input reads as it did. -/
def lookGuardsSpec : ChangeSpec := { name := "lookGuards", fn := fun _ => fun
  | [d1, d2, d3, d4] => { results := [.lit (.bool true)], args := [d1, d2, d3, d4] }
  | _ => none }
def lookGuardsRow : OpenClaim := { program := "ytjjgjgncnifjmaa", sum := "711e100d43a1e27f5772e89816aedaa53c3d9cbd5b36d1cbac6e49673c323543", func := "ringkern/ringkernlaw6.LookGuards", spec := "lookGuards", plainKeys := false, apart := false }
def LookGuardsSaid : Prop := lookGuardsRow.holds Try.pinned (OpenSpec.ofChange lookGuardsSpec)

/-- ITS FALSE NEIGHBOUR: 'it returns false'. Refute it at one input. -/
def lookGuardsWrong : ChangeSpec := { name := "lookGuards", fn := fun _ => fun
  | [d1, d2, d3, d4] => { results := [.lit (.bool false)], args := [d1, d2, d3, d4] }
  | _ => none }
def LookGuardsWrongFalsely : Prop := lookGuardsRow.holds Try.pinned (OpenSpec.ofChange lookGuardsWrong)

/- THE SECOND FORM. 'bulk': how many values and letters a reading holds, each counted each time it is reached (what is shared counts as often as it is met; a slice's spare places count too). A statement '..UptoSaid' is the law's where the arguments, and the package variables that the reading takes, are together of bulk at most 1048576: NARROWER than '..Said'. Prove '..Said' where nothing that the law and all that it calls make is longer than what came in: it says more and counts as full. Else prove '..UptoSaid'. A law counts once. -/
mutual
def uptoBulk {H : Type} : DataW H → Nat
  | .lit (.string bytes) => bytes.length + 1
  | .lit _ => 1
  | .nil => 1
  | .ptr d => uptoBulk d + 1
  | .slice elems spare => uptoBulkAll elems + uptoBulkAll spare + 1
  | .agg parts => uptoBulkAll parts + 1
  | .iface _ d => uptoBulk d + 1
  | .map entries => uptoBulkEntries entries + 1
  | .held _ => 1
def uptoBulkAll {H : Type} : List (DataW H) → Nat
  | [] => 0
  | d :: r => uptoBulk d + uptoBulkAll r
def uptoBulkEntries {H : Type} : List (Lit × DataW H) → Nat
  | [] => 0
  | x :: r => uptoBulkEntry x + uptoBulkEntries r
def uptoBulkEntry {H : Type} : Lit × DataW H → Nat
  | (.string bytes, d) => bytes.length + uptoBulk d + 1
  | (_, d) => uptoBulk d + 1
 end
def uptoSmall : (H : Type) → List (DataW H) → Bool := fun _ ds => decide (uptoBulkAll ds ≤ 1048576)
def OpenSpec.upto (s : _root_.Go.ChangeSpec) : _root_.Go.OpenSpec := { _root_.Go.OpenSpec.ofChange s with cond := some uptoSmall }

/-- 'ringkernlaw6.LookSays', WHERE WHAT IT READS IS OF BULK AT MOST 1048576: true; the input reads as it did. -/
def lookSaysUptoRow : OpenClaim := { program := "ytjjgjgncnifjmaa", sum := "711e100d43a1e27f5772e89816aedaa53c3d9cbd5b36d1cbac6e49673c323543", func := "ringkern/ringkernlaw6.LookSays", spec := "lookSays", plainKeys := false, apart := false, narrowed := true }
def LookSaysUptoSaid : Prop := lookSaysUptoRow.holds Try.pinned (OpenSpec.upto lookSaysSpec)

/-- 'ringkernlaw6.LookWays', WHERE WHAT IT READS IS OF BULK AT MOST 1048576: true; the input reads as it did. -/
def lookWaysUptoRow : OpenClaim := { program := "ytjjgjgncnifjmaa", sum := "711e100d43a1e27f5772e89816aedaa53c3d9cbd5b36d1cbac6e49673c323543", func := "ringkern/ringkernlaw6.LookWays", spec := "lookWays", unfollowed := true, recurses := true, plainKeys := false, apart := false, narrowed := true }
def LookWaysUptoSaid : Prop := lookWaysUptoRow.holds Try.pinned (OpenSpec.upto lookWaysSpec)

/-- 'ringkernlaw6.LookDeep', WHERE WHAT IT READS IS OF BULK AT MOST 1048576: true; the input reads as it did. -/
def lookDeepUptoRow : OpenClaim := { program := "ytjjgjgncnifjmaa", sum := "711e100d43a1e27f5772e89816aedaa53c3d9cbd5b36d1cbac6e49673c323543", func := "ringkern/ringkernlaw6.LookDeep", spec := "lookDeep", plainKeys := false, apart := false, narrowed := true }
def LookDeepUptoSaid : Prop := lookDeepUptoRow.holds Try.pinned (OpenSpec.upto lookDeepSpec)

/-- 'ringkernlaw6.LookGuards', WHERE WHAT IT READS IS OF BULK AT MOST 1048576: true; the input reads as it did. -/
def lookGuardsUptoRow : OpenClaim := { program := "ytjjgjgncnifjmaa", sum := "711e100d43a1e27f5772e89816aedaa53c3d9cbd5b36d1cbac6e49673c323543", func := "ringkern/ringkernlaw6.LookGuards", spec := "lookGuards", plainKeys := false, apart := false, narrowed := true }
def LookGuardsUptoSaid : Prop := lookGuardsUptoRow.holds Try.pinned (OpenSpec.upto lookGuardsSpec)

end Rows
end Go.Proofs.Ytjjgjgncnifjmaa
