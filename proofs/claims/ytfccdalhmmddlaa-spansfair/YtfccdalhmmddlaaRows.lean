/-
  No cell of these rows narrows 'for every input' (looked for: loops, veiled, ifaces, maps, wideKeys, modest, calm, conditions, laid).
  DERIVED. THE GIVEN ROWS OF THIS SEAT. 3 by the template 'for every input the law returns true; each argument reads behind the call as it read before'; 0 by the template 'total and deterministic' (their statements: YtfccdalhmmddlaaTotals.lean).
  GIVEN WITH THE SEED: the statements are not yours to turn. If you find one false, say at which input.
  Laid BY PROGRAM, IN A SANDBOX (cutbox-rows.mjs): the forced cells as the released guide's own fill.sh prints them over the translation ed8c0acbd31ec46d… (all of the seat's roots in one cut). By AI agents, Wed Nov 11 2026. No macro, syntax, notation, axiom, sorry.
-/
import Derived.Test.YtfccdalhmmddlaaChecked
import GoSem.Claim
import GoSem.ClaimJoined
import GoSem.ClaimMapViews
import Derived.JoinedTies
import Derived.KernelRfl
namespace Go.Proofs.Ytfccdalhmmddlaa
/- THE CELL 'sum', in the pinned program and in every row, IS THE sha256 OF THE DUMP (.gsa) THAT YtfccdalhmmddlaaProg.lean LOADS. Nothing in Lean hashes anything: it is a label: what it is worth is what the hold of that sum in a sandbox is worth. -/
noncomputable def Try.pinned : Pinned := { name := "ytfccdalhmmddlaa", sum := "ed8c0acbd31ec46dc0c79597e071901f56d6e489da3fd41cbc1bbde51ee07f42", checked := Try.checked }
namespace Rows
def none {H : Type} : Left H := { results := [], args := [] }

/-- 'rillbedlaw12.SpansPlays': WHATEVER THE INPUT: true; the input reads as it did. -/
def spansPlaysSpec : ChangeSpec := { name := "spansPlays", fn := fun _ => fun
  | [d1, d2] => { results := [.lit (.bool true)], args := [d1, d2] }
  | _ => none }
def spansPlaysRow : OpenClaim := { program := "ytfccdalhmmddlaa", sum := "ed8c0acbd31ec46dc0c79597e071901f56d6e489da3fd41cbc1bbde51ee07f42", func := "rillbed/rillbedlaw12.SpansPlays", spec := "spansPlays", inPlace := ["slices.overlaps[rillbed/api.Extent]"], unfollowed := true, recurses := true, apart := false }
def SpansPlaysSaid : Prop := spansPlaysRow.holds Try.pinned (OpenSpec.ofChange spansPlaysSpec)

/-- ITS FALSE NEIGHBOUR: 'it returns false'. Refute it at one input. -/
def spansPlaysWrong : ChangeSpec := { name := "spansPlays", fn := fun _ => fun
  | [d1, d2] => { results := [.lit (.bool false)], args := [d1, d2] }
  | _ => none }
def SpansPlaysWrongFalsely : Prop := spansPlaysRow.holds Try.pinned (OpenSpec.ofChange spansPlaysWrong)

/-- 'rillbedlaw12.SpansFair': WHATEVER THE INPUT: true; the input reads as it did. -/
def spansFairSpec : ChangeSpec := { name := "spansFair", fn := fun _ => fun
  | [d1, d2] => { results := [.lit (.bool true)], args := [d1, d2] }
  | _ => none }
def spansFairRow : OpenClaim := { program := "ytfccdalhmmddlaa", sum := "ed8c0acbd31ec46dc0c79597e071901f56d6e489da3fd41cbc1bbde51ee07f42", func := "rillbed/rillbedlaw12.SpansFair", spec := "spansFair", inPlace := ["slices.overlaps[rillbed/api.Extent]"], unfollowed := true, recurses := true, apart := false }
def SpansFairSaid : Prop := spansFairRow.holds Try.pinned (OpenSpec.ofChange spansFairSpec)

/-- ITS FALSE NEIGHBOUR: 'it returns false'. Refute it at one input. -/
def spansFairWrong : ChangeSpec := { name := "spansFair", fn := fun _ => fun
  | [d1, d2] => { results := [.lit (.bool false)], args := [d1, d2] }
  | _ => none }
def SpansFairWrongFalsely : Prop := spansFairRow.holds Try.pinned (OpenSpec.ofChange spansFairWrong)

/-- 'rillbedlaw12.SpansKnown': WHATEVER THE INPUT: true; the input reads as it did. -/
def spansKnownSpec : ChangeSpec := { name := "spansKnown", fn := fun _ => fun
  | [] => { results := [.lit (.bool true)], args := [] }
  | _ => none }
def spansKnownRow : OpenClaim := { program := "ytfccdalhmmddlaa", sum := "ed8c0acbd31ec46dc0c79597e071901f56d6e489da3fd41cbc1bbde51ee07f42", func := "rillbed/rillbedlaw12.SpansKnown", spec := "spansKnown", inPlace := ["slices.overlaps[rillbed/api.Extent]"], unfollowed := true, recurses := true, apart := false }
def SpansKnownSaid : Prop := spansKnownRow.holds Try.pinned (OpenSpec.ofChange spansKnownSpec)

/-- ITS FALSE NEIGHBOUR: 'it returns false'. Refute it at one input. -/
def spansKnownWrong : ChangeSpec := { name := "spansKnown", fn := fun _ => fun
  | [] => { results := [.lit (.bool false)], args := [] }
  | _ => none }
def SpansKnownWrongFalsely : Prop := spansKnownRow.holds Try.pinned (OpenSpec.ofChange spansKnownWrong)

/- THE SECOND FORM. 'bulk': how many values and letters a reading holds, each counted each time it is reached (what is shared counts as often as it is met; a slice's spare places count too). A statement '..UptoSaid' is the law's where the arguments, and the package variables that the reading takes, are together of bulk at most 1048576: NARROWER than '..Said'. Prove '..Said' where nothing that the law and all that it calls make is longer than what came in: it says more and counts as full. Else prove '..UptoSaid'. A law counts once. -/
mutual
def uptoBulk {H : Type} : DataW H → Nat
  | .lit (.string bytes) => bytes.length + 1
  | .lit _ => 1
  | .nil => 1
  | .ptr d => uptoBulk d + 1
  | .slice elems spare => uptoBulkAll elems + uptoBulkAll spare + 1
  | .agg parts => uptoBulkAll parts + 1
  | .iface _ d => uptoBulk d + 1
  | .map entries => uptoBulkEntries entries + 1
  | .held _ => 1
def uptoBulkAll {H : Type} : List (DataW H) → Nat
  | [] => 0
  | d :: r => uptoBulk d + uptoBulkAll r
def uptoBulkEntries {H : Type} : List (Lit × DataW H) → Nat
  | [] => 0
  | x :: r => uptoBulkEntry x + uptoBulkEntries r
def uptoBulkEntry {H : Type} : Lit × DataW H → Nat
  | (.string bytes, d) => bytes.length + uptoBulk d + 1
  | (_, d) => uptoBulk d + 1
 end
def uptoSmall : (H : Type) → List (DataW H) → Bool := fun _ ds => decide (uptoBulkAll ds ≤ 1048576)
def OpenSpec.upto (s : _root_.Go.ChangeSpec) : _root_.Go.OpenSpec := { _root_.Go.OpenSpec.ofChange s with cond := some uptoSmall }

/-- 'rillbedlaw12.SpansPlays', WHERE WHAT IT READS IS OF BULK AT MOST 1048576: true; the input reads as it did. -/
def spansPlaysUptoRow : OpenClaim := { program := "ytfccdalhmmddlaa", sum := "ed8c0acbd31ec46dc0c79597e071901f56d6e489da3fd41cbc1bbde51ee07f42", func := "rillbed/rillbedlaw12.SpansPlays", spec := "spansPlays", inPlace := ["slices.overlaps[rillbed/api.Extent]"], unfollowed := true, recurses := true, apart := false, narrowed := true }
def SpansPlaysUptoSaid : Prop := spansPlaysUptoRow.holds Try.pinned (OpenSpec.upto spansPlaysSpec)

/-- 'rillbedlaw12.SpansFair', WHERE WHAT IT READS IS OF BULK AT MOST 1048576: true; the input reads as it did. -/
def spansFairUptoRow : OpenClaim := { program := "ytfccdalhmmddlaa", sum := "ed8c0acbd31ec46dc0c79597e071901f56d6e489da3fd41cbc1bbde51ee07f42", func := "rillbed/rillbedlaw12.SpansFair", spec := "spansFair", inPlace := ["slices.overlaps[rillbed/api.Extent]"], unfollowed := true, recurses := true, apart := false, narrowed := true }
def SpansFairUptoSaid : Prop := spansFairUptoRow.holds Try.pinned (OpenSpec.upto spansFairSpec)

/-- 'rillbedlaw12.SpansKnown', WHERE WHAT IT READS IS OF BULK AT MOST 1048576: true; the input reads as it did. -/
def spansKnownUptoRow : OpenClaim := { program := "ytfccdalhmmddlaa", sum := "ed8c0acbd31ec46dc0c79597e071901f56d6e489da3fd41cbc1bbde51ee07f42", func := "rillbed/rillbedlaw12.SpansKnown", spec := "spansKnown", inPlace := ["slices.overlaps[rillbed/api.Extent]"], unfollowed := true, recurses := true, apart := false, narrowed := true }
def SpansKnownUptoSaid : Prop := spansKnownUptoRow.holds Try.pinned (OpenSpec.upto spansKnownSpec)

end Rows
end Go.Proofs.Ytfccdalhmmddlaa
