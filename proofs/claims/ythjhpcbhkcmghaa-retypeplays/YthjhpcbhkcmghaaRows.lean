/-
  No cell of these rows narrows 'for every input' (looked for: loops, veiled, ifaces, maps, wideKeys, modest, calm, conditions, laid).
  DERIVED. THE GIVEN ROWS OF THIS SEAT. 5 by the template 'for every input the law returns true; each argument reads behind the call as it read before'; 0 by the template 'total and deterministic' (their statements: YthjhpcbhkcmghaaTotals.lean).
  GIVEN WITH THE SEED: the statements are not yours to turn. If you find one false, say at which input.
  Laid BY PROGRAM, IN A SANDBOX (cutbox-rows.mjs): the forced cells as the released guide's own fill.sh prints them over the translation 2c9e1eb05b40d4de… (all of the seat's roots in one cut). By AI agents, Wed Nov 11 2026. No macro, syntax, notation, axiom, sorry.
-/
import Derived.Test.YthjhpcbhkcmghaaChecked
import GoSem.Claim
import GoSem.ClaimJoined
import GoSem.ClaimMapViews
import Derived.JoinedTies
import Derived.KernelRfl
namespace Go.Proofs.Ythjhpcbhkcmghaa
/- THE CELL 'sum', in the pinned program and in every row, IS THE sha256 OF THE DUMP (.gsa) THAT YthjhpcbhkcmghaaProg.lean LOADS. Nothing in Lean hashes anything: it is a label: what it is worth is what the hold of that sum in a sandbox is worth. -/
noncomputable def Try.pinned : Pinned := { name := "ythjhpcbhkcmghaa", sum := "2c9e1eb05b40d4de9b3d1e24954549cc03d4011e58fcb71a92dd97443b0790e6", checked := Try.checked }
namespace Rows
def none {H : Type} : Left H := { results := [], args := [] }

/-- 'ringkernlaw9.RetypePlays': WHATEVER THE INPUT: true; the input reads as it did. -/
def retypePlaysSpec : ChangeSpec := { name := "retypePlays", fn := fun _ => fun
  | [d1, d2] => { results := [.lit (.bool true)], args := [d1, d2] }
  | _ => none }
def retypePlaysRow : OpenClaim := { program := "ythjhpcbhkcmghaa", sum := "2c9e1eb05b40d4de9b3d1e24954549cc03d4011e58fcb71a92dd97443b0790e6", func := "ringkern/ringkernlaw9.RetypePlays", spec := "retypePlays", unfollowed := true, recurses := true, plainKeys := false, apart := false }
def RetypePlaysSaid : Prop := retypePlaysRow.holds Try.pinned (OpenSpec.ofChange retypePlaysSpec)

/-- ITS FALSE NEIGHBOUR: 'it returns false'. Refute it at one input. -/
def retypePlaysWrong : ChangeSpec := { name := "retypePlays", fn := fun _ => fun
  | [d1, d2] => { results := [.lit (.bool false)], args := [d1, d2] }
  | _ => none }
def RetypePlaysWrongFalsely : Prop := retypePlaysRow.holds Try.pinned (OpenSpec.ofChange retypePlaysWrong)

/-- 'ringkernlaw9.RetypeApart': WHATEVER THE INPUT: true; the input reads as it did. -/
def retypeApartSpec : ChangeSpec := { name := "retypeApart", fn := fun _ => fun
  | [d1, d2] => { results := [.lit (.bool true)], args := [d1, d2] }
  | _ => none }
def retypeApartRow : OpenClaim := { program := "ythjhpcbhkcmghaa", sum := "2c9e1eb05b40d4de9b3d1e24954549cc03d4011e58fcb71a92dd97443b0790e6", func := "ringkern/ringkernlaw9.RetypeApart", spec := "retypeApart", unfollowed := true, recurses := true, plainKeys := false, apart := false }
def RetypeApartSaid : Prop := retypeApartRow.holds Try.pinned (OpenSpec.ofChange retypeApartSpec)

/-- ITS FALSE NEIGHBOUR: 'it returns false'. Refute it at one input. -/
def retypeApartWrong : ChangeSpec := { name := "retypeApart", fn := fun _ => fun
  | [d1, d2] => { results := [.lit (.bool false)], args := [d1, d2] }
  | _ => none }
def RetypeApartWrongFalsely : Prop := retypeApartRow.holds Try.pinned (OpenSpec.ofChange retypeApartWrong)

/-- 'ringkernlaw9.RetypeMarks': WHATEVER THE INPUT: true; the input reads as it did. -/
def retypeMarksSpec : ChangeSpec := { name := "retypeMarks", fn := fun _ => fun
  | [d1, d2] => { results := [.lit (.bool true)], args := [d1, d2] }
  | _ => none }
def retypeMarksRow : OpenClaim := { program := "ythjhpcbhkcmghaa", sum := "2c9e1eb05b40d4de9b3d1e24954549cc03d4011e58fcb71a92dd97443b0790e6", func := "ringkern/ringkernlaw9.RetypeMarks", spec := "retypeMarks", unfollowed := true, recurses := true, plainKeys := false, apart := false }
def RetypeMarksSaid : Prop := retypeMarksRow.holds Try.pinned (OpenSpec.ofChange retypeMarksSpec)

/-- ITS FALSE NEIGHBOUR: 'it returns false'. Refute it at one input. -/
def retypeMarksWrong : ChangeSpec := { name := "retypeMarks", fn := fun _ => fun
  | [d1, d2] => { results := [.lit (.bool false)], args := [d1, d2] }
  | _ => none }
def RetypeMarksWrongFalsely : Prop := retypeMarksRow.holds Try.pinned (OpenSpec.ofChange retypeMarksWrong)

/-- 'ringkernlaw9.RetypeErrors': WHATEVER THE INPUT: true; the input reads as it did. -/
def retypeErrorsSpec : ChangeSpec := { name := "retypeErrors", fn := fun _ => fun
  | [d1, d2] => { results := [.lit (.bool true)], args := [d1, d2] }
  | _ => none }
def retypeErrorsRow : OpenClaim := { program := "ythjhpcbhkcmghaa", sum := "2c9e1eb05b40d4de9b3d1e24954549cc03d4011e58fcb71a92dd97443b0790e6", func := "ringkern/ringkernlaw9.RetypeErrors", spec := "retypeErrors", unfollowed := true, recurses := true, plainKeys := false, apart := false }
def RetypeErrorsSaid : Prop := retypeErrorsRow.holds Try.pinned (OpenSpec.ofChange retypeErrorsSpec)

/-- ITS FALSE NEIGHBOUR: 'it returns false'. Refute it at one input. -/
def retypeErrorsWrong : ChangeSpec := { name := "retypeErrors", fn := fun _ => fun
  | [d1, d2] => { results := [.lit (.bool false)], args := [d1, d2] }
  | _ => none }
def RetypeErrorsWrongFalsely : Prop := retypeErrorsRow.holds Try.pinned (OpenSpec.ofChange retypeErrorsWrong)

/-- 'ringkernlaw9.RetypeAgain': WHATEVER THE INPUT: true; the input reads as it did. -/
def retypeAgainSpec : ChangeSpec := { name := "retypeAgain", fn := fun _ => fun
  | [d1, d2, d3] => { results := [.lit (.bool true)], args := [d1, d2, d3] }
  | _ => none }
def retypeAgainRow : OpenClaim := { program := "ythjhpcbhkcmghaa", sum := "2c9e1eb05b40d4de9b3d1e24954549cc03d4011e58fcb71a92dd97443b0790e6", func := "ringkern/ringkernlaw9.RetypeAgain", spec := "retypeAgain", unfollowed := true, recurses := true, plainKeys := false, apart := false }
def RetypeAgainSaid : Prop := retypeAgainRow.holds Try.pinned (OpenSpec.ofChange retypeAgainSpec)

/-- ITS FALSE NEIGHBOUR: 'it returns false'. Refute it at one input. -/
def retypeAgainWrong : ChangeSpec := { name := "retypeAgain", fn := fun _ => fun
  | [d1, d2, d3] => { results := [.lit (.bool false)], args := [d1, d2, d3] }
  | _ => none }
def RetypeAgainWrongFalsely : Prop := retypeAgainRow.holds Try.pinned (OpenSpec.ofChange retypeAgainWrong)

/- THE SECOND FORM. 'bulk': how many values and letters a reading holds, each counted each time it is reached (what is shared counts as often as it is met; a slice's spare places count too). A statement '..UptoSaid' is the law's where the arguments, and the package variables that the reading takes, are together of bulk at most 1048576: NARROWER than '..Said'. Prove '..Said' where nothing that the law and all that it calls make is longer than what came in: it says more and counts as full. Else prove '..UptoSaid'. A law counts once. -/
mutual
def uptoBulk {H : Type} : DataW H → Nat
  | .lit (.string bytes) => bytes.length + 1
  | .lit _ => 1
  | .nil => 1
  | .ptr d => uptoBulk d + 1
  | .slice elems spare => uptoBulkAll elems + uptoBulkAll spare + 1
  | .agg parts => uptoBulkAll parts + 1
  | .iface _ d => uptoBulk d + 1
  | .map entries => uptoBulkEntries entries + 1
  | .held _ => 1
def uptoBulkAll {H : Type} : List (DataW H) → Nat
  | [] => 0
  | d :: r => uptoBulk d + uptoBulkAll r
def uptoBulkEntries {H : Type} : List (Lit × DataW H) → Nat
  | [] => 0
  | x :: r => uptoBulkEntry x + uptoBulkEntries r
def uptoBulkEntry {H : Type} : Lit × DataW H → Nat
  | (.string bytes, d) => bytes.length + uptoBulk d + 1
  | (_, d) => uptoBulk d + 1
 end
def uptoSmall : (H : Type) → List (DataW H) → Bool := fun _ ds => decide (uptoBulkAll ds ≤ 1048576)
def OpenSpec.upto (s : _root_.Go.ChangeSpec) : _root_.Go.OpenSpec := { _root_.Go.OpenSpec.ofChange s with cond := some uptoSmall }

/-- 'ringkernlaw9.RetypePlays', WHERE WHAT IT READS IS OF BULK AT MOST 1048576: true; the input reads as it did. -/
def retypePlaysUptoRow : OpenClaim := { program := "ythjhpcbhkcmghaa", sum := "2c9e1eb05b40d4de9b3d1e24954549cc03d4011e58fcb71a92dd97443b0790e6", func := "ringkern/ringkernlaw9.RetypePlays", spec := "retypePlays", unfollowed := true, recurses := true, plainKeys := false, apart := false, narrowed := true }
def RetypePlaysUptoSaid : Prop := retypePlaysUptoRow.holds Try.pinned (OpenSpec.upto retypePlaysSpec)

/-- 'ringkernlaw9.RetypeApart', WHERE WHAT IT READS IS OF BULK AT MOST 1048576: true; the input reads as it did. -/
def retypeApartUptoRow : OpenClaim := { program := "ythjhpcbhkcmghaa", sum := "2c9e1eb05b40d4de9b3d1e24954549cc03d4011e58fcb71a92dd97443b0790e6", func := "ringkern/ringkernlaw9.RetypeApart", spec := "retypeApart", unfollowed := true, recurses := true, plainKeys := false, apart := false, narrowed := true }
def RetypeApartUptoSaid : Prop := retypeApartUptoRow.holds Try.pinned (OpenSpec.upto retypeApartSpec)

/-- 'ringkernlaw9.RetypeMarks', WHERE WHAT IT READS IS OF BULK AT MOST 1048576: true; the input reads as it did. -/
def retypeMarksUptoRow : OpenClaim := { program := "ythjhpcbhkcmghaa", sum := "2c9e1eb05b40d4de9b3d1e24954549cc03d4011e58fcb71a92dd97443b0790e6", func := "ringkern/ringkernlaw9.RetypeMarks", spec := "retypeMarks", unfollowed := true, recurses := true, plainKeys := false, apart := false, narrowed := true }
def RetypeMarksUptoSaid : Prop := retypeMarksUptoRow.holds Try.pinned (OpenSpec.upto retypeMarksSpec)

/-- 'ringkernlaw9.RetypeErrors', WHERE WHAT IT READS IS OF BULK AT MOST 1048576: true; the input reads as it did. -/
def retypeErrorsUptoRow : OpenClaim := { program := "ythjhpcbhkcmghaa", sum := "2c9e1eb05b40d4de9b3d1e24954549cc03d4011e58fcb71a92dd97443b0790e6", func := "ringkern/ringkernlaw9.RetypeErrors", spec := "retypeErrors", unfollowed := true, recurses := true, plainKeys := false, apart := false, narrowed := true }
def RetypeErrorsUptoSaid : Prop := retypeErrorsUptoRow.holds Try.pinned (OpenSpec.upto retypeErrorsSpec)

/-- 'ringkernlaw9.RetypeAgain', WHERE WHAT IT READS IS OF BULK AT MOST 1048576: true; the input reads as it did. -/
def retypeAgainUptoRow : OpenClaim := { program := "ythjhpcbhkcmghaa", sum := "2c9e1eb05b40d4de9b3d1e24954549cc03d4011e58fcb71a92dd97443b0790e6", func := "ringkern/ringkernlaw9.RetypeAgain", spec := "retypeAgain", unfollowed := true, recurses := true, plainKeys := false, apart := false, narrowed := true }
def RetypeAgainUptoSaid : Prop := retypeAgainUptoRow.holds Try.pinned (OpenSpec.upto retypeAgainSpec)

end Rows
end Go.Proofs.Ythjhpcbhkcmghaa
