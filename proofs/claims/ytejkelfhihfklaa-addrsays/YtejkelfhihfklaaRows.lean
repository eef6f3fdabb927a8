/-
  No cell of these rows narrows 'for every input' (looked for: loops, veiled, ifaces, maps, wideKeys, modest, calm, conditions, laid).
  DERIVED. THE GIVEN ROWS OF THIS SEAT. 4 by the template 'for every input the law returns true; each argument reads behind the call as it read before'; 0 by the template 'total and deterministic' (their statements: YtejkelfhihfklaaTotals.lean).
  GIVEN WITH THE SEED: the statements are not yours to turn. If you find one false, say at which input.
  Laid BY PROGRAM, IN A SANDBOX (cutbox-rows.mjs): the forced cells as the released guide's own fill.sh prints them over the translation 54095cfc19470c32… (all of the seat's roots in one cut). By AI agents, Wed Nov 11 2026. No macro, syntax, notation, axiom, sorry.
-/
import Derived.Test.YtejkelfhihfklaaChecked
import GoSem.Claim
import GoSem.ClaimJoined
import GoSem.ClaimMapViews
import Derived.JoinedTies
import Derived.KernelRfl
namespace Go.Proofs.Ytejkelfhihfklaa
/- THE CELL 'sum', in the pinned program and in every row, IS THE sha256 OF THE DUMP (.gsa) THAT YtejkelfhihfklaaProg.lean LOADS. Nothing in Lean hashes anything: it is a label: what it is worth is what the hold of that sum in a sandbox is worth. -/
noncomputable def Try.pinned : Pinned := { name := "ytejkelfhihfklaa", sum := "54095cfc19470c322580b1819548144b711c1d60ebf0f469865b99d23244302b", checked := Try.checked }
namespace Rows
def none {H : Type} : Left H := { results := [], args := [] }

/-- 'ringkernlaw4.AddrSays': WHATEVER THE INPUT: true; the input reads as it did. -/
def addrSaysSpec : ChangeSpec := { name := "addrSays", fn := fun _ => fun
  | [d1, d2, d3, d4, d5] => { results := [.lit (.bool true)], args := [d1, d2, d3, d4, d5] }
  | _ => none }
def addrSaysRow : OpenClaim := { program := "ytejkelfhihfklaa", sum := "54095cfc19470c322580b1819548144b711c1d60ebf0f469865b99d23244302b", func := "ringkern/ringkernlaw4.AddrSays", spec := "addrSays", apart := false }
def AddrSaysSaid : Prop := addrSaysRow.holds Try.pinned (OpenSpec.ofChange addrSaysSpec)

/-- ITS FALSE NEIGHBOUR: 'it returns false'. Refute it at one input. -/
def addrSaysWrong : ChangeSpec := { name := "addrSays", fn := fun _ => fun
  | [d1, d2, d3, d4, d5] => { results := [.lit (.bool false)], args := [d1, d2, d3, d4, d5] }
  | _ => none }
def AddrSaysWrongFalsely : Prop := addrSaysRow.holds Try.pinned (OpenSpec.ofChange addrSaysWrong)

/-- 'ringkernlaw4.AddrBack': WHATEVER THE INPUT: true; the input reads as it did. -/
def addrBackSpec : ChangeSpec := { name := "addrBack", fn := fun _ => fun
  | [d1, d2, d3] => { results := [.lit (.bool true)], args := [d1, d2, d3] }
  | _ => none }
def addrBackRow : OpenClaim := { program := "ytejkelfhihfklaa", sum := "54095cfc19470c322580b1819548144b711c1d60ebf0f469865b99d23244302b", func := "ringkern/ringkernlaw4.AddrBack", spec := "addrBack", apart := false }
def AddrBackSaid : Prop := addrBackRow.holds Try.pinned (OpenSpec.ofChange addrBackSpec)

/-- ITS FALSE NEIGHBOUR: 'it returns false'. Refute it at one input. -/
def addrBackWrong : ChangeSpec := { name := "addrBack", fn := fun _ => fun
  | [d1, d2, d3] => { results := [.lit (.bool false)], args := [d1, d2, d3] }
  | _ => none }
def AddrBackWrongFalsely : Prop := addrBackRow.holds Try.pinned (OpenSpec.ofChange addrBackWrong)

/-- 'ringkernlaw4.AddrSteps': WHATEVER THE INPUT: true; the input reads as it did. -/
def addrStepsSpec : ChangeSpec := { name := "addrSteps", fn := fun _ => fun
  | [d1, d2, d3] => { results := [.lit (.bool true)], args := [d1, d2, d3] }
  | _ => none }
def addrStepsRow : OpenClaim := { program := "ytejkelfhihfklaa", sum := "54095cfc19470c322580b1819548144b711c1d60ebf0f469865b99d23244302b", func := "ringkern/ringkernlaw4.AddrSteps", spec := "addrSteps", apart := false }
def AddrStepsSaid : Prop := addrStepsRow.holds Try.pinned (OpenSpec.ofChange addrStepsSpec)

/-- ITS FALSE NEIGHBOUR: 'it returns false'. Refute it at one input. -/
def addrStepsWrong : ChangeSpec := { name := "addrSteps", fn := fun _ => fun
  | [d1, d2, d3] => { results := [.lit (.bool false)], args := [d1, d2, d3] }
  | _ => none }
def AddrStepsWrongFalsely : Prop := addrStepsRow.holds Try.pinned (OpenSpec.ofChange addrStepsWrong)

/-- 'ringkernlaw4.AddrWrong': WHATEVER THE INPUT: true; the input reads as it did. -/
def addrWrongSpec : ChangeSpec := { name := "addrWrong", fn := fun _ => fun
  | [d1, d2, d3] => { results := [.lit (.bool true)], args := [d1, d2, d3] }
  | _ => none }
def addrWrongRow : OpenClaim := { program := "ytejkelfhihfklaa", sum := "54095cfc19470c322580b1819548144b711c1d60ebf0f469865b99d23244302b", func := "ringkern/ringkernlaw4.AddrWrong", spec := "addrWrong", apart := false }
def AddrWrongSaid : Prop := addrWrongRow.holds Try.pinned (OpenSpec.ofChange addrWrongSpec)

/-- ITS FALSE NEIGHBOUR: 'it returns false'. Refute it at one input. -/
def addrWrongWrong : ChangeSpec := { name := "addrWrong", fn := fun _ => fun
  | [d1, d2, d3] => { results := [.lit (.bool false)], args := [d1, d2, d3] }
  | _ => none }
def AddrWrongWrongFalsely : Prop := addrWrongRow.holds Try.pinned (OpenSpec.ofChange addrWrongWrong)

/- THE SECOND FORM. 'bulk': how many values and letters a reading holds, each counted each time it is reached (what is shared counts as often as it is met; a slice's spare places count too). A statement '..UptoSaid' is the law's where the arguments, and the package variables that the reading takes, are together of bulk at most 1048576: NARROWER than '..Said'. Prove '..Said' where nothing that the law and all that it calls make is longer than what came in: it says more and counts as full. Else prove '..UptoSaid'. A law counts once. -/
mutual
def uptoBulk {H : Type} : DataW H → Nat
  | .lit (.string bytes) => bytes.length + 1
  | .lit _ => 1
  | .nil => 1
  | .ptr d => uptoBulk d + 1
  | .slice elems spare => uptoBulkAll elems + uptoBulkAll spare + 1
  | .agg parts => uptoBulkAll parts + 1
  | .iface _ d => uptoBulk d + 1
  | .map entries => uptoBulkEntries entries + 1
  | .held _ => 1
def uptoBulkAll {H : Type} : List (DataW H) → Nat
  | [] => 0
  | d :: r => uptoBulk d + uptoBulkAll r
def uptoBulkEntries {H : Type} : List (Lit × DataW H) → Nat
  | [] => 0
  | x :: r => uptoBulkEntry x + uptoBulkEntries r
def uptoBulkEntry {H : Type} : Lit × DataW H → Nat
  | (.string bytes, d) => bytes.length + uptoBulk d + 1
  | (_, d) => uptoBulk d + 1
 end
def uptoSmall : (H : Type) → List (DataW H) → Bool := fun _ ds => decide (uptoBulkAll ds ≤ 1048576)
def OpenSpec.upto (s : _root_.Go.ChangeSpec) : _root_.Go.OpenSpec := { _root_.Go.OpenSpec.ofChange s with cond := some uptoSmall }

/-- 'ringkernlaw4.AddrSays', WHERE WHAT IT READS IS OF BULK AT MOST 1048576: true; the input reads as it did. -/
def addrSaysUptoRow : OpenClaim := { program := "ytejkelfhihfklaa", sum := "54095cfc19470c322580b1819548144b711c1d60ebf0f469865b99d23244302b", func := "ringkern/ringkernlaw4.AddrSays", spec := "addrSays", apart := false, narrowed := true }
def AddrSaysUptoSaid : Prop := addrSaysUptoRow.holds Try.pinned (OpenSpec.upto addrSaysSpec)

/-- 'ringkernlaw4.AddrBack', WHERE WHAT IT READS IS OF BULK AT MOST 1048576: true; the input reads as it did. -/
def addrBackUptoRow : OpenClaim := { program := "ytejkelfhihfklaa", sum := "54095cfc19470c322580b1819548144b711c1d60ebf0f469865b99d23244302b", func := "ringkern/ringkernlaw4.AddrBack", spec := "addrBack", apart := false, narrowed := true }
def AddrBackUptoSaid : Prop := addrBackUptoRow.holds Try.pinned (OpenSpec.upto addrBackSpec)

/-- 'ringkernlaw4.AddrSteps', WHERE WHAT IT READS IS OF BULK AT MOST 1048576: true; the input reads as it did. -/
def addrStepsUptoRow : OpenClaim := { program := "ytejkelfhihfklaa", sum := "54095cfc19470c322580b1819548144b711c1d60ebf0f469865b99d23244302b", func := "ringkern/ringkernlaw4.AddrSteps", spec := "addrSteps", apart := false, narrowed := true }
def AddrStepsUptoSaid : Prop := addrStepsUptoRow.holds Try.pinned (OpenSpec.upto addrStepsSpec)

/-- 'ringkernlaw4.AddrWrong', WHERE WHAT IT READS IS OF BULK AT MOST 1048576: true; the input reads as it did. -/
def addrWrongUptoRow : OpenClaim := { program := "ytejkelfhihfklaa", sum := "54095cfc19470c322580b1819548144b711c1d60ebf0f469865b99d23244302b", func := "ringkern/ringkernlaw4.AddrWrong", spec := "addrWrong", apart := false, narrowed := true }
def AddrWrongUptoSaid : Prop := addrWrongUptoRow.holds Try.pinned (OpenSpec.upto addrWrongSpec)

end Rows
end Go.Proofs.Ytejkelfhihfklaa
