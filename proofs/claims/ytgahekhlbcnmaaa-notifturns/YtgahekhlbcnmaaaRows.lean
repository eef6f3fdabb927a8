/-
  No cell of these rows narrows 'for every input' (looked for: loops, veiled, ifaces, maps, wideKeys, modest, calm, conditions, laid).
  DERIVED. THE GIVEN ROWS OF THIS SEAT. 4 by the template 'for every input the law returns true; each argument reads behind the call as it read before'; 0 by the template 'total and deterministic' (their statements: YtgahekhlbcnmaaaTotals.lean).
  GIVEN WITH THE SEED: the statements are not yours to turn. If you find one false, say at which input.
  Laid BY PROGRAM, IN A SANDBOX (cutbox-rows.mjs): the forced cells as the released guide's own fill.sh prints them over the translation 20792f5fe9e2b04b… (all of the seat's roots in one cut). By AI agents, Wed Nov 11 2026. No macro, syntax, notation, axiom, sorry.
-/
import Derived.Test.YtgahekhlbcnmaaaChecked
import GoSem.Claim
import GoSem.ClaimJoined
import GoSem.ClaimMapViews
import Derived.JoinedTies
import Derived.KernelRfl
namespace Go.Proofs.Ytgahekhlbcnmaaa
/- THE CELL 'sum', in the pinned program and in every row, IS THE sha256 OF THE DUMP (.gsa) THAT YtgahekhlbcnmaaaProg.lean LOADS. Nothing in Lean hashes anything: it is a label: what it is worth is what the hold of that sum in a sandbox is worth. -/
noncomputable def Try.pinned : Pinned := { name := "ytgahekhlbcnmaaa", sum := "20792f5fe9e2b04b9ee54b6f701aeeb5c1e99f0ed0685560fa7566943c9986e5", checked := Try.checked }
namespace Rows
def none {H : Type} : Left H := { results := [], args := [] }

/-- 'ringkernlaw13.NotifAgain': WHATEVER THE INPUT: true; the input reads as it did. -/
def notifAgainSpec : ChangeSpec := { name := "notifAgain", fn := fun _ => fun
  | [d1, d2, d3] => { results := [.lit (.bool true)], args := [d1, d2, d3] }
  | _ => none }
def notifAgainRow : OpenClaim := { program := "ytgahekhlbcnmaaa", sum := "20792f5fe9e2b04b9ee54b6f701aeeb5c1e99f0ed0685560fa7566943c9986e5", func := "ringkern/ringkernlaw13.NotifAgain", spec := "notifAgain", plainKeys := false, apart := false }
def NotifAgainSaid : Prop := notifAgainRow.holds Try.pinned (OpenSpec.ofChange notifAgainSpec)

/-- ITS FALSE NEIGHBOUR: 'it returns false'. Refute it at one input. -/
def notifAgainWrong : ChangeSpec := { name := "notifAgain", fn := fun _ => fun
  | [d1, d2, d3] => { results := [.lit (.bool false)], args := [d1, d2, d3] }
  | _ => none }
def NotifAgainWrongFalsely : Prop := notifAgainRow.holds Try.pinned (OpenSpec.ofChange notifAgainWrong)

/-- 'ringkernlaw13.NotifPlays': WHATEVER THE INPUT: true; the input reads as it did. -/
def notifPlaysSpec : ChangeSpec := { name := "notifPlays", fn := fun _ => fun
  | [d] => { results := [.lit (.bool true)], args := [d] }
  | _ => none }
def notifPlaysRow : OpenClaim := { program := "ytgahekhlbcnmaaa", sum := "20792f5fe9e2b04b9ee54b6f701aeeb5c1e99f0ed0685560fa7566943c9986e5", func := "ringkern/ringkernlaw13.NotifPlays", spec := "notifPlays", plainKeys := false, apart := false }
def NotifPlaysSaid : Prop := notifPlaysRow.holds Try.pinned (OpenSpec.ofChange notifPlaysSpec)

/-- ITS FALSE NEIGHBOUR: 'it returns false'. Refute it at one input. -/
def notifPlaysWrong : ChangeSpec := { name := "notifPlays", fn := fun _ => fun
  | [d] => { results := [.lit (.bool false)], args := [d] }
  | _ => none }
def NotifPlaysWrongFalsely : Prop := notifPlaysRow.holds Try.pinned (OpenSpec.ofChange notifPlaysWrong)

/-- 'ringkernlaw13.NotifBits': WHATEVER THE INPUT: true; the input reads as it did. -/
def notifBitsSpec : ChangeSpec := { name := "notifBits", fn := fun _ => fun
  | [d1, d2] => { results := [.lit (.bool true)], args := [d1, d2] }
  | _ => none }
def notifBitsRow : OpenClaim := { program := "ytgahekhlbcnmaaa", sum := "20792f5fe9e2b04b9ee54b6f701aeeb5c1e99f0ed0685560fa7566943c9986e5", func := "ringkern/ringkernlaw13.NotifBits", spec := "notifBits", plainKeys := false, apart := false }
def NotifBitsSaid : Prop := notifBitsRow.holds Try.pinned (OpenSpec.ofChange notifBitsSpec)

/-- ITS FALSE NEIGHBOUR: 'it returns false'. Refute it at one input. -/
def notifBitsWrong : ChangeSpec := { name := "notifBits", fn := fun _ => fun
  | [d1, d2] => { results := [.lit (.bool false)], args := [d1, d2] }
  | _ => none }
def NotifBitsWrongFalsely : Prop := notifBitsRow.holds Try.pinned (OpenSpec.ofChange notifBitsWrong)

/-- 'ringkernlaw13.NotifTurns': WHATEVER THE INPUT: true; the input reads as it did. -/
def notifTurnsSpec : ChangeSpec := { name := "notifTurns", fn := fun _ => fun
  | [d1, d2, d3] => { results := [.lit (.bool true)], args := [d1, d2, d3] }
  | _ => none }
def notifTurnsRow : OpenClaim := { program := "ytgahekhlbcnmaaa", sum := "20792f5fe9e2b04b9ee54b6f701aeeb5c1e99f0ed0685560fa7566943c9986e5", func := "ringkern/ringkernlaw13.NotifTurns", spec := "notifTurns", plainKeys := false, apart := false }
def NotifTurnsSaid : Prop := notifTurnsRow.holds Try.pinned (OpenSpec.ofChange notifTurnsSpec)

/-- ITS FALSE NEIGHBOUR: 'it returns false'. Refute it at one input. -/
def notifTurnsWrong : ChangeSpec := { name := "notifTurns", fn := fun _ => fun
  | [d1, d2, d3] => { results := [.lit (.bool false)], args := [d1, d2, d3] }
  | _ => none }
def NotifTurnsWrongFalsely : Prop := notifTurnsRow.holds Try.pinned (OpenSpec.ofChange notifTurnsWrong)

/- THE SECOND FORM. 'bulk': how many values and letters a reading holds, each counted each time it is reached (what is shared counts as often as it is met; a slice's spare places count too). A statement '..UptoSaid' is the law's where the arguments, and the package variables that the reading takes, are together of bulk at most 1048576: NARROWER than '..Said'. Prove '..Said' where nothing that the law and all that it calls make is longer than what came in: it says more and counts as full. Else prove '..UptoSaid'. A law counts once. -/
mutual
def uptoBulk {H : Type} : DataW H → Nat
  | .lit (.string bytes) => bytes.length + 1
  | .lit _ => 1
  | .nil => 1
  | .ptr d => uptoBulk d + 1
  | .slice elems spare => uptoBulkAll elems + uptoBulkAll spare + 1
  | .agg parts => uptoBulkAll parts + 1
  | .iface _ d => uptoBulk d + 1
  | .map entries => uptoBulkEntries entries + 1
  | .held _ => 1
def uptoBulkAll {H : Type} : List (DataW H) → Nat
  | [] => 0
  | d :: r => uptoBulk d + uptoBulkAll r
def uptoBulkEntries {H : Type} : List (Lit × DataW H) → Nat
  | [] => 0
  | x :: r => uptoBulkEntry x + uptoBulkEntries r
def uptoBulkEntry {H : Type} : Lit × DataW H → Nat
  | (.string bytes, d) => bytes.length + uptoBulk d + 1
  | (_, d) => uptoBulk d + 1
 end
def uptoSmall : (H : Type) → List (DataW H) → Bool := fun _ ds => decide (uptoBulkAll ds ≤ 1048576)
def OpenSpec.upto (s : _root_.Go.ChangeSpec) : _root_.Go.OpenSpec := { _root_.Go.OpenSpec.ofChange s with cond := some uptoSmall }

/-- 'ringkernlaw13.NotifAgain', WHERE WHAT IT READS IS OF BULK AT MOST 1048576: true; the input reads as it did. -/
def notifAgainUptoRow : OpenClaim := { program := "ytgahekhlbcnmaaa", sum := "20792f5fe9e2b04b9ee54b6f701aeeb5c1e99f0ed0685560fa7566943c9986e5", func := "ringkern/ringkernlaw13.NotifAgain", spec := "notifAgain", plainKeys := false, apart := false, narrowed := true }
def NotifAgainUptoSaid : Prop := notifAgainUptoRow.holds Try.pinned (OpenSpec.upto notifAgainSpec)

/-- 'ringkernlaw13.NotifPlays', WHERE WHAT IT READS IS OF BULK AT MOST 1048576: true; the input reads as it did. -/
def notifPlaysUptoRow : OpenClaim := { program := "ytgahekhlbcnmaaa", sum := "20792f5fe9e2b04b9ee54b6f701aeeb5c1e99f0ed0685560fa7566943c9986e5", func := "ringkern/ringkernlaw13.NotifPlays", spec := "notifPlays", plainKeys := false, apart := false, narrowed := true }
def NotifPlaysUptoSaid : Prop := notifPlaysUptoRow.holds Try.pinned (OpenSpec.upto notifPlaysSpec)

/-- 'ringkernlaw13.NotifBits', WHERE WHAT IT READS IS OF BULK AT MOST 1048576: true; the input reads as it did. -/
def notifBitsUptoRow : OpenClaim := { program := "ytgahekhlbcnmaaa", sum := "20792f5fe9e2b04b9ee54b6f701aeeb5c1e99f0ed0685560fa7566943c9986e5", func := "ringkern/ringkernlaw13.NotifBits", spec := "notifBits", plainKeys := false, apart := false, narrowed := true }
def NotifBitsUptoSaid : Prop := notifBitsUptoRow.holds Try.pinned (OpenSpec.upto notifBitsSpec)

/-- 'ringkernlaw13.NotifTurns', WHERE WHAT IT READS IS OF BULK AT MOST 1048576: true; the input reads as it did. -/
def notifTurnsUptoRow : OpenClaim := { program := "ytgahekhlbcnmaaa", sum := "20792f5fe9e2b04b9ee54b6f701aeeb5c1e99f0ed0685560fa7566943c9986e5", func := "ringkern/ringkernlaw13.NotifTurns", spec := "notifTurns", plainKeys := false, apart := false, narrowed := true }
def NotifTurnsUptoSaid : Prop := notifTurnsUptoRow.holds Try.pinned (OpenSpec.upto notifTurnsSpec)

end Rows
end Go.Proofs.Ytgahekhlbcnmaaa
