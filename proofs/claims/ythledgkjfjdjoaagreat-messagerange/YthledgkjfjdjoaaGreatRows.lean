/-
  No cell of these rows narrows 'for every input' (looked for: loops, veiled, ifaces, maps, wideKeys, modest, calm, conditions, laid).
  DERIVED. THE GIVEN ROWS OF THIS SEAT. 7 by the template 'for every input the law returns true; each argument reads behind the call as it read before'; 0 by the template 'total and deterministic' (their statements: YthledgkjfjdjoaaGreatTotals.lean).
  GIVEN WITH THE SEED: the statements are not yours to turn. If you find one false, say at which input.
  Laid BY PROGRAM, IN A SANDBOX (cutbox-rows.mjs): the forced cells as the released guide's own fill.sh prints them over the translation 2bc5beb5e52f9b83… (all of the seat's roots in one cut). By AI agents, Wed Nov 11 2026. No macro, syntax, notation, axiom, sorry.
-/
import Derived.Test.YthledgkjfjdjoaaGreatChecked
import GoSem.Claim
import GoSem.ClaimJoined
import GoSem.ClaimMapViews
import Derived.JoinedTies
import Derived.KernelRfl
namespace Go.Proofs.YthledgkjfjdjoaaGreat
/- THE CELL 'sum', in the pinned program and in every row, IS THE sha256 OF THE DUMP (.gsa) THAT YthledgkjfjdjoaaGreatProg.lean LOADS. Nothing in Lean hashes anything: it is a label: what it is worth is what the hold of that sum in a sandbox is worth. -/
noncomputable def Tryz.pinned : Pinned := { name := "ythledgkjfjdjoaagreat", sum := "2bc5beb5e52f9b83dbf7e98df948c6d494c3c7dbec4f0255bb02d023d2c66d58", checked := Tryz.checked }
namespace Rows
def none {H : Type} : Left H := { results := [], args := [] }

/-- 'rillbedlaw09.MessagePuts': WHATEVER THE INPUT: true; the input reads as it did. -/
def messagePutsSpec : ChangeSpec := { name := "messagePuts", fn := fun _ => fun
  | [d] => { results := [.lit (.bool true)], args := [d] }
  | _ => none }
def messagePutsRow : OpenClaim := { program := "ythledgkjfjdjoaagreat", sum := "2bc5beb5e52f9b83dbf7e98df948c6d494c3c7dbec4f0255bb02d023d2c66d58", func := "rillbed/rillbedlaw09.MessagePuts", spec := "messagePuts", inPlace := ["math.Float64frombits", "math.Float64bits", "internal/abi.NoEscape", "internal/bytealg.MakeNoZero"], unfollowed := true, recurses := true, apart := false }
def MessagePutsSaid : Prop := messagePutsRow.holds Tryz.pinned (OpenSpec.ofChange messagePutsSpec)

/-- ITS FALSE NEIGHBOUR: 'it returns false'. Refute it at one input. -/
def messagePutsWrong : ChangeSpec := { name := "messagePuts", fn := fun _ => fun
  | [d] => { results := [.lit (.bool false)], args := [d] }
  | _ => none }
def MessagePutsWrongFalsely : Prop := messagePutsRow.holds Tryz.pinned (OpenSpec.ofChange messagePutsWrong)

/-- 'rillbedlaw09.MessageTakes': WHATEVER THE INPUT: true; the input reads as it did. -/
def messageTakesSpec : ChangeSpec := { name := "messageTakes", fn := fun _ => fun
  | [d] => { results := [.lit (.bool true)], args := [d] }
  | _ => none }
def messageTakesRow : OpenClaim := { program := "ythledgkjfjdjoaagreat", sum := "2bc5beb5e52f9b83dbf7e98df948c6d494c3c7dbec4f0255bb02d023d2c66d58", func := "rillbed/rillbedlaw09.MessageTakes", spec := "messageTakes", inPlace := ["math.Float64frombits", "math.Float64bits", "internal/abi.NoEscape", "internal/bytealg.MakeNoZero"], unfollowed := true, recurses := true, apart := false }
def MessageTakesSaid : Prop := messageTakesRow.holds Tryz.pinned (OpenSpec.ofChange messageTakesSpec)

/-- ITS FALSE NEIGHBOUR: 'it returns false'. Refute it at one input. -/
def messageTakesWrong : ChangeSpec := { name := "messageTakes", fn := fun _ => fun
  | [d] => { results := [.lit (.bool false)], args := [d] }
  | _ => none }
def MessageTakesWrongFalsely : Prop := messageTakesRow.holds Tryz.pinned (OpenSpec.ofChange messageTakesWrong)

/-- 'rillbedlaw09.MessageParts': WHATEVER THE INPUT: true; the input reads as it did. -/
def messagePartsSpec : ChangeSpec := { name := "messageParts", fn := fun _ => fun
  | [d1, d2, d3] => { results := [.lit (.bool true)], args := [d1, d2, d3] }
  | _ => none }
def messagePartsRow : OpenClaim := { program := "ythledgkjfjdjoaagreat", sum := "2bc5beb5e52f9b83dbf7e98df948c6d494c3c7dbec4f0255bb02d023d2c66d58", func := "rillbed/rillbedlaw09.MessageParts", spec := "messageParts", inPlace := ["math.Float64frombits", "math.Float64bits", "internal/abi.NoEscape", "internal/bytealg.MakeNoZero"], unfollowed := true, recurses := true, apart := false }
def MessagePartsSaid : Prop := messagePartsRow.holds Tryz.pinned (OpenSpec.ofChange messagePartsSpec)

/-- ITS FALSE NEIGHBOUR: 'it returns false'. Refute it at one input. -/
def messagePartsWrong : ChangeSpec := { name := "messageParts", fn := fun _ => fun
  | [d1, d2, d3] => { results := [.lit (.bool false)], args := [d1, d2, d3] }
  | _ => none }
def MessagePartsWrongFalsely : Prop := messagePartsRow.holds Tryz.pinned (OpenSpec.ofChange messagePartsWrong)

/-- 'rillbedlaw09.MessageDoes': WHATEVER THE INPUT: true; the input reads as it did. -/
def messageDoesSpec : ChangeSpec := { name := "messageDoes", fn := fun _ => fun
  | [d1, d2] => { results := [.lit (.bool true)], args := [d1, d2] }
  | _ => none }
def messageDoesRow : OpenClaim := { program := "ythledgkjfjdjoaagreat", sum := "2bc5beb5e52f9b83dbf7e98df948c6d494c3c7dbec4f0255bb02d023d2c66d58", func := "rillbed/rillbedlaw09.MessageDoes", spec := "messageDoes", inPlace := ["math.Float64frombits", "math.Float64bits", "internal/abi.NoEscape", "internal/bytealg.MakeNoZero"], unfollowed := true, recurses := true, apart := false }
def MessageDoesSaid : Prop := messageDoesRow.holds Tryz.pinned (OpenSpec.ofChange messageDoesSpec)

/-- ITS FALSE NEIGHBOUR: 'it returns false'. Refute it at one input. -/
def messageDoesWrong : ChangeSpec := { name := "messageDoes", fn := fun _ => fun
  | [d1, d2] => { results := [.lit (.bool false)], args := [d1, d2] }
  | _ => none }
def MessageDoesWrongFalsely : Prop := messageDoesRow.holds Tryz.pinned (OpenSpec.ofChange messageDoesWrong)

/-- 'rillbedlaw09.MessageKnown': WHATEVER THE INPUT: true; the input reads as it did. -/
def messageKnownSpec : ChangeSpec := { name := "messageKnown", fn := fun _ => fun
  | [] => { results := [.lit (.bool true)], args := [] }
  | _ => none }
def messageKnownRow : OpenClaim := { program := "ythledgkjfjdjoaagreat", sum := "2bc5beb5e52f9b83dbf7e98df948c6d494c3c7dbec4f0255bb02d023d2c66d58", func := "rillbed/rillbedlaw09.MessageKnown", spec := "messageKnown", inPlace := ["math.Float64frombits", "math.Float64bits", "internal/abi.NoEscape", "internal/bytealg.MakeNoZero"], unfollowed := true, recurses := true, apart := false }
def MessageKnownSaid : Prop := messageKnownRow.holds Tryz.pinned (OpenSpec.ofChange messageKnownSpec)

/-- ITS FALSE NEIGHBOUR: 'it returns false'. Refute it at one input. -/
def messageKnownWrong : ChangeSpec := { name := "messageKnown", fn := fun _ => fun
  | [] => { results := [.lit (.bool false)], args := [] }
  | _ => none }
def MessageKnownWrongFalsely : Prop := messageKnownRow.holds Tryz.pinned (OpenSpec.ofChange messageKnownWrong)

/-- 'rillbedlaw09.MessageBack': WHATEVER THE INPUT: true; the input reads as it did. -/
def messageBackSpec : ChangeSpec := { name := "messageBack", fn := fun _ => fun
  | [d1, d2] => { results := [.lit (.bool true)], args := [d1, d2] }
  | _ => none }
def messageBackRow : OpenClaim := { program := "ythledgkjfjdjoaagreat", sum := "2bc5beb5e52f9b83dbf7e98df948c6d494c3c7dbec4f0255bb02d023d2c66d58", func := "rillbed/rillbedlaw09.MessageBack", spec := "messageBack", inPlace := ["math.Float64frombits", "math.Float64bits", "internal/abi.NoEscape", "internal/bytealg.MakeNoZero"], unfollowed := true, recurses := true, apart := false }
def MessageBackSaid : Prop := messageBackRow.holds Tryz.pinned (OpenSpec.ofChange messageBackSpec)

/-- ITS FALSE NEIGHBOUR: 'it returns false'. Refute it at one input. -/
def messageBackWrong : ChangeSpec := { name := "messageBack", fn := fun _ => fun
  | [d1, d2] => { results := [.lit (.bool false)], args := [d1, d2] }
  | _ => none }
def MessageBackWrongFalsely : Prop := messageBackRow.holds Tryz.pinned (OpenSpec.ofChange messageBackWrong)

/-- 'rillbedlaw09.MessageRange': WHATEVER THE INPUT: true; the input reads as it did. -/
def messageRangeSpec : ChangeSpec := { name := "messageRange", fn := fun _ => fun
  | [d1, d2, d3] => { results := [.lit (.bool true)], args := [d1, d2, d3] }
  | _ => none }
def messageRangeRow : OpenClaim := { program := "ythledgkjfjdjoaagreat", sum := "2bc5beb5e52f9b83dbf7e98df948c6d494c3c7dbec4f0255bb02d023d2c66d58", func := "rillbed/rillbedlaw09.MessageRange", spec := "messageRange", inPlace := ["math.Float64frombits", "math.Float64bits", "internal/abi.NoEscape", "internal/bytealg.MakeNoZero"], unfollowed := true, recurses := true, apart := false }
def MessageRangeSaid : Prop := messageRangeRow.holds Tryz.pinned (OpenSpec.ofChange messageRangeSpec)

/-- ITS FALSE NEIGHBOUR: 'it returns false'. Refute it at one input. -/
def messageRangeWrong : ChangeSpec := { name := "messageRange", fn := fun _ => fun
  | [d1, d2, d3] => { results := [.lit (.bool false)], args := [d1, d2, d3] }
  | _ => none }
def MessageRangeWrongFalsely : Prop := messageRangeRow.holds Tryz.pinned (OpenSpec.ofChange messageRangeWrong)

/- THE SECOND FORM. 'bulk': how many values and letters a reading holds, each counted each time it is reached (what is shared counts as often as it is met; a slice's spare places count too). A statement '..UptoSaid' is the law's where the arguments, and the package variables that the reading takes, are together of bulk at most 1048576: NARROWER than '..Said'. Prove '..Said' where nothing that the law and all that it calls make is longer than what came in: it says more and counts as full. Else prove '..UptoSaid'. A law counts once. -/
mutual
def uptoBulk {H : Type} : DataW H → Nat
  | .lit (.string bytes) => bytes.length + 1
  | .lit _ => 1
  | .nil => 1
  | .ptr d => uptoBulk d + 1
  | .slice elems spare => uptoBulkAll elems + uptoBulkAll spare + 1
  | .agg parts => uptoBulkAll parts + 1
  | .iface _ d => uptoBulk d + 1
  | .map entries => uptoBulkEntries entries + 1
  | .held _ => 1
def uptoBulkAll {H : Type} : List (DataW H) → Nat
  | [] => 0
  | d :: r => uptoBulk d + uptoBulkAll r
def uptoBulkEntries {H : Type} : List (Lit × DataW H) → Nat
  | [] => 0
  | x :: r => uptoBulkEntry x + uptoBulkEntries r
def uptoBulkEntry {H : Type} : Lit × DataW H → Nat
  | (.string bytes, d) => bytes.length + uptoBulk d + 1
  | (_, d) => uptoBulk d + 1
 end
def uptoSmall : (H : Type) → List (DataW H) → Bool := fun _ ds => decide (uptoBulkAll ds ≤ 1048576)
def OpenSpec.upto (s : _root_.Go.ChangeSpec) : _root_.Go.OpenSpec := { _root_.Go.OpenSpec.ofChange s with cond := some uptoSmall }

/-- 'rillbedlaw09.MessagePuts', WHERE WHAT IT READS IS OF BULK AT MOST 1048576: true; the input reads as it did. -/
def messagePutsUptoRow : OpenClaim := { program := "ythledgkjfjdjoaagreat", sum := "2bc5beb5e52f9b83dbf7e98df948c6d494c3c7dbec4f0255bb02d023d2c66d58", func := "rillbed/rillbedlaw09.MessagePuts", spec := "messagePuts", inPlace := ["math.Float64frombits", "math.Float64bits", "internal/abi.NoEscape", "internal/bytealg.MakeNoZero"], unfollowed := true, recurses := true, apart := false, narrowed := true }
def MessagePutsUptoSaid : Prop := messagePutsUptoRow.holds Tryz.pinned (OpenSpec.upto messagePutsSpec)

/-- 'rillbedlaw09.MessageTakes', WHERE WHAT IT READS IS OF BULK AT MOST 1048576: true; the input reads as it did. -/
def messageTakesUptoRow : OpenClaim := { program := "ythledgkjfjdjoaagreat", sum := "2bc5beb5e52f9b83dbf7e98df948c6d494c3c7dbec4f0255bb02d023d2c66d58", func := "rillbed/rillbedlaw09.MessageTakes", spec := "messageTakes", inPlace := ["math.Float64frombits", "math.Float64bits", "internal/abi.NoEscape", "internal/bytealg.MakeNoZero"], unfollowed := true, recurses := true, apart := false, narrowed := true }
def MessageTakesUptoSaid : Prop := messageTakesUptoRow.holds Tryz.pinned (OpenSpec.upto messageTakesSpec)

/-- 'rillbedlaw09.MessageParts', WHERE WHAT IT READS IS OF BULK AT MOST 1048576: true; the input reads as it did. -/
def messagePartsUptoRow : OpenClaim := { program := "ythledgkjfjdjoaagreat", sum := "2bc5beb5e52f9b83dbf7e98df948c6d494c3c7dbec4f0255bb02d023d2c66d58", func := "rillbed/rillbedlaw09.MessageParts", spec := "messageParts", inPlace := ["math.Float64frombits", "math.Float64bits", "internal/abi.NoEscape", "internal/bytealg.MakeNoZero"], unfollowed := true, recurses := true, apart := false, narrowed := true }
def MessagePartsUptoSaid : Prop := messagePartsUptoRow.holds Tryz.pinned (OpenSpec.upto messagePartsSpec)

/-- 'rillbedlaw09.MessageDoes', WHERE WHAT IT READS IS OF BULK AT MOST 1048576: true; the input reads as it did. -/
def messageDoesUptoRow : OpenClaim := { program := "ythledgkjfjdjoaagreat", sum := "2bc5beb5e52f9b83dbf7e98df948c6d494c3c7dbec4f0255bb02d023d2c66d58", func := "rillbed/rillbedlaw09.MessageDoes", spec := "messageDoes", inPlace := ["math.Float64frombits", "math.Float64bits", "internal/abi.NoEscape", "internal/bytealg.MakeNoZero"], unfollowed := true, recurses := true, apart := false, narrowed := true }
def MessageDoesUptoSaid : Prop := messageDoesUptoRow.holds Tryz.pinned (OpenSpec.upto messageDoesSpec)

/-- 'rillbedlaw09.MessageKnown', WHERE WHAT IT READS IS OF BULK AT MOST 1048576: true; the input reads as it did. -/
def messageKnownUptoRow : OpenClaim := { program := "ythledgkjfjdjoaagreat", sum := "2bc5beb5e52f9b83dbf7e98df948c6d494c3c7dbec4f0255bb02d023d2c66d58", func := "rillbed/rillbedlaw09.MessageKnown", spec := "messageKnown", inPlace := ["math.Float64frombits", "math.Float64bits", "internal/abi.NoEscape", "internal/bytealg.MakeNoZero"], unfollowed := true, recurses := true, apart := false, narrowed := true }
def MessageKnownUptoSaid : Prop := messageKnownUptoRow.holds Tryz.pinned (OpenSpec.upto messageKnownSpec)

/-- 'rillbedlaw09.MessageBack', WHERE WHAT IT READS IS OF BULK AT MOST 1048576: true; the input reads as it did. -/
def messageBackUptoRow : OpenClaim := { program := "ythledgkjfjdjoaagreat", sum := "2bc5beb5e52f9b83dbf7e98df948c6d494c3c7dbec4f0255bb02d023d2c66d58", func := "rillbed/rillbedlaw09.MessageBack", spec := "messageBack", inPlace := ["math.Float64frombits", "math.Float64bits", "internal/abi.NoEscape", "internal/bytealg.MakeNoZero"], unfollowed := true, recurses := true, apart := false, narrowed := true }
def MessageBackUptoSaid : Prop := messageBackUptoRow.holds Tryz.pinned (OpenSpec.upto messageBackSpec)

/-- 'rillbedlaw09.MessageRange', WHERE WHAT IT READS IS OF BULK AT MOST 1048576: true; the input reads as it did. -/
def messageRangeUptoRow : OpenClaim := { program := "ythledgkjfjdjoaagreat", sum := "2bc5beb5e52f9b83dbf7e98df948c6d494c3c7dbec4f0255bb02d023d2c66d58", func := "rillbed/rillbedlaw09.MessageRange", spec := "messageRange", inPlace := ["math.Float64frombits", "math.Float64bits", "internal/abi.NoEscape", "internal/bytealg.MakeNoZero"], unfollowed := true, recurses := true, apart := false, narrowed := true }
def MessageRangeUptoSaid : Prop := messageRangeUptoRow.holds Tryz.pinned (OpenSpec.upto messageRangeSpec)

end Rows
end Go.Proofs.YthledgkjfjdjoaaGreat
