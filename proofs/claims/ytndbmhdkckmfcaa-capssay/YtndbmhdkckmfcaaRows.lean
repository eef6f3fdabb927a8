/-
  No cell of these rows narrows 'for every input' (looked for: loops, veiled, ifaces, maps, wideKeys, modest, calm, conditions, laid).
  DERIVED. THE GIVEN ROWS OF THIS SEAT. 5 by the template 'for every input the law returns true; each argument reads behind the call as it read before'; 0 by the template 'total and deterministic' (their statements: YtndbmhdkckmfcaaTotals.lean).
  GIVEN WITH THE SEED: the statements are not yours to turn. If you find one false, say at which input.
  Laid BY PROGRAM, IN A SANDBOX (cutbox-rows.mjs): the forced cells as the released guide's own fill.sh prints them over the translation eba469fc45b2fd77… (all of the seat's roots in one cut). By AI agents, Wed Nov 11 2026. No macro, syntax, notation, axiom, sorry.
-/
import Derived.Test.YtndbmhdkckmfcaaChecked
import GoSem.Claim
import GoSem.ClaimJoined
import GoSem.ClaimMapViews
import Derived.JoinedTies
import Derived.KernelRfl
namespace Go.Proofs.Ytndbmhdkckmfcaa
/- THE CELL 'sum', in the pinned program and in every row, IS THE sha256 OF THE DUMP (.gsa) THAT YtndbmhdkckmfcaaProg.lean LOADS. Nothing in Lean hashes anything: it is a label: what it is worth is what the hold of that sum in a sandbox is worth. -/
noncomputable def Try.pinned : Pinned := { name := "ytndbmhdkckmfcaa", sum := "eba469fc45b2fd77fe18a116acadaf83e2440fe906767cbd04679f9e115604dd", checked := Try.checked }
namespace Rows
def none {H : Type} : Left H := { results := [], args := [] }

/-- 'ringkernlaw3.CapsSay': WHATEVER THE INPUT: true; the input reads as it did. -/
def capsSaySpec : ChangeSpec := { name := "capsSay", fn := fun _ => fun
  | [d1, d2, d3, d4, d5] => { results := [.lit (.bool true)], args := [d1, d2, d3, d4, d5] }
  | _ => none }
def capsSayRow : OpenClaim := { program := "ytndbmhdkckmfcaa", sum := "eba469fc45b2fd77fe18a116acadaf83e2440fe906767cbd04679f9e115604dd", func := "ringkern/ringkernlaw3.CapsSay", spec := "capsSay", apart := false }
def CapsSaySaid : Prop := capsSayRow.holds Try.pinned (OpenSpec.ofChange capsSaySpec)

/-- ITS FALSE NEIGHBOUR: 'it returns false'. Refute it at one input. -/
def capsSayWrong : ChangeSpec := { name := "capsSay", fn := fun _ => fun
  | [d1, d2, d3, d4, d5] => { results := [.lit (.bool false)], args := [d1, d2, d3, d4, d5] }
  | _ => none }
def CapsSayWrongFalsely : Prop := capsSayRow.holds Try.pinned (OpenSpec.ofChange capsSayWrong)

/-- 'ringkernlaw3.CapsLess': WHATEVER THE INPUT: true; the input reads as it did. -/
def capsLessSpec : ChangeSpec := { name := "capsLess", fn := fun _ => fun
  | [d1, d2, d3] => { results := [.lit (.bool true)], args := [d1, d2, d3] }
  | _ => none }
def capsLessRow : OpenClaim := { program := "ytndbmhdkckmfcaa", sum := "eba469fc45b2fd77fe18a116acadaf83e2440fe906767cbd04679f9e115604dd", func := "ringkern/ringkernlaw3.CapsLess", spec := "capsLess", apart := false }
def CapsLessSaid : Prop := capsLessRow.holds Try.pinned (OpenSpec.ofChange capsLessSpec)

/-- ITS FALSE NEIGHBOUR: 'it returns false'. Refute it at one input. -/
def capsLessWrong : ChangeSpec := { name := "capsLess", fn := fun _ => fun
  | [d1, d2, d3] => { results := [.lit (.bool false)], args := [d1, d2, d3] }
  | _ => none }
def CapsLessWrongFalsely : Prop := capsLessRow.holds Try.pinned (OpenSpec.ofChange capsLessWrong)

/-- 'ringkernlaw3.CapsBadge': WHATEVER THE INPUT: true; the input reads as it did. -/
def capsBadgeSpec : ChangeSpec := { name := "capsBadge", fn := fun _ => fun
  | [d1, d2, d3] => { results := [.lit (.bool true)], args := [d1, d2, d3] }
  | _ => none }
def capsBadgeRow : OpenClaim := { program := "ytndbmhdkckmfcaa", sum := "eba469fc45b2fd77fe18a116acadaf83e2440fe906767cbd04679f9e115604dd", func := "ringkern/ringkernlaw3.CapsBadge", spec := "capsBadge", apart := false }
def CapsBadgeSaid : Prop := capsBadgeRow.holds Try.pinned (OpenSpec.ofChange capsBadgeSpec)

/-- ITS FALSE NEIGHBOUR: 'it returns false'. Refute it at one input. -/
def capsBadgeWrong : ChangeSpec := { name := "capsBadge", fn := fun _ => fun
  | [d1, d2, d3] => { results := [.lit (.bool false)], args := [d1, d2, d3] }
  | _ => none }
def CapsBadgeWrongFalsely : Prop := capsBadgeRow.holds Try.pinned (OpenSpec.ofChange capsBadgeWrong)

/-- 'ringkernlaw3.CapsWrong': WHATEVER THE INPUT: true; the input reads as it did. -/
def capsWrongSpec : ChangeSpec := { name := "capsWrong", fn := fun _ => fun
  | [d1, d2] => { results := [.lit (.bool true)], args := [d1, d2] }
  | _ => none }
def capsWrongRow : OpenClaim := { program := "ytndbmhdkckmfcaa", sum := "eba469fc45b2fd77fe18a116acadaf83e2440fe906767cbd04679f9e115604dd", func := "ringkern/ringkernlaw3.CapsWrong", spec := "capsWrong", apart := false }
def CapsWrongSaid : Prop := capsWrongRow.holds Try.pinned (OpenSpec.ofChange capsWrongSpec)

/-- ITS FALSE NEIGHBOUR: 'it returns false'. Refute it at one input. -/
def capsWrongWrong : ChangeSpec := { name := "capsWrong", fn := fun _ => fun
  | [d1, d2] => { results := [.lit (.bool false)], args := [d1, d2] }
  | _ => none }
def CapsWrongWrongFalsely : Prop := capsWrongRow.holds Try.pinned (OpenSpec.ofChange capsWrongWrong)

/-- 'ringkernlaw3.CapsNames': WHATEVER THE INPUT: true; the input reads as it did. -/
def capsNamesSpec : ChangeSpec := { name := "capsNames", fn := fun _ => fun
  | [d1, d2, d3, d4, d5, d6] => { results := [.lit (.bool true)], args := [d1, d2, d3, d4, d5, d6] }
  | _ => none }
def capsNamesRow : OpenClaim := { program := "ytndbmhdkckmfcaa", sum := "eba469fc45b2fd77fe18a116acadaf83e2440fe906767cbd04679f9e115604dd", func := "ringkern/ringkernlaw3.CapsNames", spec := "capsNames", apart := false }
def CapsNamesSaid : Prop := capsNamesRow.holds Try.pinned (OpenSpec.ofChange capsNamesSpec)

/-- ITS FALSE NEIGHBOUR: 'it returns false'. Refute it at one input. -/
def capsNamesWrong : ChangeSpec := { name := "capsNames", fn := fun _ => fun
  | [d1, d2, d3, d4, d5, d6] => { results := [.lit (.bool false)], args := [d1, d2, d3, d4, d5, d6] }
  | _ => none }
def CapsNamesWrongFalsely : Prop := capsNamesRow.holds Try.pinned (OpenSpec.ofChange capsNamesWrong)

/- THE SECOND FORM. 'bulk': how many values and letters a reading holds, each counted each time it is reached (what is shared counts as often as it is met; a slice's spare places count too). A statement '..UptoSaid' is the law's where the arguments, and the package variables that the reading takes, are together of bulk at most 1048576: NARROWER than '..Said'. Prove '..Said' where nothing that the law and all that it calls make is longer than what came in: it says more and counts as full. Else prove '..UptoSaid'. A law counts once. -/
mutual
def uptoBulk {H : Type} : DataW H → Nat
  | .lit (.string bytes) => bytes.length + 1
  | .lit _ => 1
  | .nil => 1
  | .ptr d => uptoBulk d + 1
  | .slice elems spare => uptoBulkAll elems + uptoBulkAll spare + 1
  | .agg parts => uptoBulkAll parts + 1
  | .iface _ d => uptoBulk d + 1
  | .map entries => uptoBulkEntries entries + 1
  | .held _ => 1
def uptoBulkAll {H : Type} : List (DataW H) → Nat
  | [] => 0
  | d :: r => uptoBulk d + uptoBulkAll r
def uptoBulkEntries {H : Type} : List (Lit × DataW H) → Nat
  | [] => 0
  | x :: r => uptoBulkEntry x + uptoBulkEntries r
def uptoBulkEntry {H : Type} : Lit × DataW H → Nat
  | (.string bytes, d) => bytes.length + uptoBulk d + 1
  | (_, d) => uptoBulk d + 1
 end
def uptoSmall : (H : Type) → List (DataW H) → Bool := fun _ ds => decide (uptoBulkAll ds ≤ 1048576)
def OpenSpec.upto (s : _root_.Go.ChangeSpec) : _root_.Go.OpenSpec := { _root_.Go.OpenSpec.ofChange s with cond := some uptoSmall }

/-- 'ringkernlaw3.CapsSay', WHERE WHAT IT READS IS OF BULK AT MOST 1048576: true; the input reads as it did. -/
def capsSayUptoRow : OpenClaim := { program := "ytndbmhdkckmfcaa", sum := "eba469fc45b2fd77fe18a116acadaf83e2440fe906767cbd04679f9e115604dd", func := "ringkern/ringkernlaw3.CapsSay", spec := "capsSay", apart := false, narrowed := true }
def CapsSayUptoSaid : Prop := capsSayUptoRow.holds Try.pinned (OpenSpec.upto capsSaySpec)

/-- 'ringkernlaw3.CapsLess', WHERE WHAT IT READS IS OF BULK AT MOST 1048576: true; the input reads as it did. -/
def capsLessUptoRow : OpenClaim := { program := "ytndbmhdkckmfcaa", sum := "eba469fc45b2fd77fe18a116acadaf83e2440fe906767cbd04679f9e115604dd", func := "ringkern/ringkernlaw3.CapsLess", spec := "capsLess", apart := false, narrowed := true }
def CapsLessUptoSaid : Prop := capsLessUptoRow.holds Try.pinned (OpenSpec.upto capsLessSpec)

/-- 'ringkernlaw3.CapsBadge', WHERE WHAT IT READS IS OF BULK AT MOST 1048576: true; the input reads as it did. -/
def capsBadgeUptoRow : OpenClaim := { program := "ytndbmhdkckmfcaa", sum := "eba469fc45b2fd77fe18a116acadaf83e2440fe906767cbd04679f9e115604dd", func := "ringkern/ringkernlaw3.CapsBadge", spec := "capsBadge", apart := false, narrowed := true }
def CapsBadgeUptoSaid : Prop := capsBadgeUptoRow.holds Try.pinned (OpenSpec.upto capsBadgeSpec)

/-- 'ringkernlaw3.CapsWrong', WHERE WHAT IT READS IS OF BULK AT MOST 1048576: true; the input reads as it did. -/
def capsWrongUptoRow : OpenClaim := { program := "ytndbmhdkckmfcaa", sum := "eba469fc45b2fd77fe18a116acadaf83e2440fe906767cbd04679f9e115604dd", func := "ringkern/ringkernlaw3.CapsWrong", spec := "capsWrong", apart := false, narrowed := true }
def CapsWrongUptoSaid : Prop := capsWrongUptoRow.holds Try.pinned (OpenSpec.upto capsWrongSpec)

/-- 'ringkernlaw3.CapsNames', WHERE WHAT IT READS IS OF BULK AT MOST 1048576: true; the input reads as it did. -/
def capsNamesUptoRow : OpenClaim := { program := "ytndbmhdkckmfcaa", sum := "eba469fc45b2fd77fe18a116acadaf83e2440fe906767cbd04679f9e115604dd", func := "ringkern/ringkernlaw3.CapsNames", spec := "capsNames", apart := false, narrowed := true }
def CapsNamesUptoSaid : Prop := capsNamesUptoRow.holds Try.pinned (OpenSpec.upto capsNamesSpec)

end Rows
end Go.Proofs.Ytndbmhdkckmfcaa
