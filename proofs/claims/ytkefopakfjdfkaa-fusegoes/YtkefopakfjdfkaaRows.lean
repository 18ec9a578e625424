/-
  No cell of these rows narrows 'for every input' (looked for: loops, veiled, ifaces, maps, wideKeys, modest, calm, conditions, laid).
  DERIVED. THE GIVEN ROWS OF THIS SEAT. 3 by the template 'for every input the law returns true; each argument reads behind the call as it read before'; 0 by the template 'total and deterministic' (their statements: YtkefopakfjdfkaaTotals.lean).
  GIVEN WITH THE SEED: the statements are not yours to turn. If you find one false, say at which input.
  Laid BY PROGRAM, IN A SANDBOX (cutbox-rows.mjs): the forced cells as the released guide's own fill.sh prints them over the translation c6b3d172bc6dd5d6… (all of the seat's roots in one cut). By AI agents, Wed Nov 11 2026. No macro, syntax, notation, axiom, sorry.
-/
import Derived.Test.YtkefopakfjdfkaaChecked
import GoSem.Claim
import GoSem.ClaimJoined
import GoSem.ClaimMapViews
import Derived.JoinedTies
import Derived.KernelRfl
namespace Go.Proofs.Ytkefopakfjdfkaa
/- THE CELL 'sum', in the pinned program and in every row, IS THE sha256 OF THE DUMP (.gsa) THAT YtkefopakfjdfkaaProg.lean LOADS. Nothing in Lean hashes anything: it is a label: what it is worth is what the hold of that sum in a sandbox is worth. -/
noncomputable def Try.pinned : Pinned := { name := "ytkefopakfjdfkaa", sum := "c6b3d172bc6dd5d64b4fbeca8e4729fdfc0bec4e09ba82784604359d61808f7a", checked := Try.checked }
namespace Rows
def none {H : Type} : Left H := { results := [], args := [] }

/-- 'rillbedlaw11.FuseGoes': WHATEVER THE INPUT: true; the input reads as it did. -/
def fuseGoesSpec : ChangeSpec := { name := "fuseGoes", fn := fun _ => fun
  | [d1, d2, d3] => { results := [.lit (.bool true)], args := [d1, d2, d3] }
  | _ => none }
def fuseGoesRow : OpenClaim := { program := "ytkefopakfjdfkaa", sum := "c6b3d172bc6dd5d64b4fbeca8e4729fdfc0bec4e09ba82784604359d61808f7a", func := "rillbed/rillbedlaw11.FuseGoes", spec := "fuseGoes", unfollowed := true, recurses := true, apart := false }
def FuseGoesSaid : Prop := fuseGoesRow.holds Try.pinned (OpenSpec.ofChange fuseGoesSpec)

/-- ITS FALSE NEIGHBOUR: 'it returns false'. Refute it at one input. -/
def fuseGoesWrong : ChangeSpec := { name := "fuseGoes", fn := fun _ => fun
  | [d1, d2, d3] => { results := [.lit (.bool false)], args := [d1, d2, d3] }
  | _ => none }
def FuseGoesWrongFalsely : Prop := fuseGoesRow.holds Try.pinned (OpenSpec.ofChange fuseGoesWrong)

/-- 'rillbedlaw11.FuseKnown': WHATEVER THE INPUT: true; the input reads as it did. -/
def fuseKnownSpec : ChangeSpec := { name := "fuseKnown", fn := fun _ => fun
  | [] => { results := [.lit (.bool true)], args := [] }
  | _ => none }
def fuseKnownRow : OpenClaim := { program := "ytkefopakfjdfkaa", sum := "c6b3d172bc6dd5d64b4fbeca8e4729fdfc0bec4e09ba82784604359d61808f7a", func := "rillbed/rillbedlaw11.FuseKnown", spec := "fuseKnown", unfollowed := true, recurses := true, apart := false }
def FuseKnownSaid : Prop := fuseKnownRow.holds Try.pinned (OpenSpec.ofChange fuseKnownSpec)

/-- ITS FALSE NEIGHBOUR: 'it returns false'. Refute it at one input. -/
def fuseKnownWrong : ChangeSpec := { name := "fuseKnown", fn := fun _ => fun
  | [] => { results := [.lit (.bool false)], args := [] }
  | _ => none }
def FuseKnownWrongFalsely : Prop := fuseKnownRow.holds Try.pinned (OpenSpec.ofChange fuseKnownWrong)

/-- 'rillbedlaw11.FuseCuts': WHATEVER THE INPUT: true; the input reads as it did. -/
def fuseCutsSpec : ChangeSpec := { name := "fuseCuts", fn := fun _ => fun
  | [d1, d2, d3] => { results := [.lit (.bool true)], args := [d1, d2, d3] }
  | _ => none }
def fuseCutsRow : OpenClaim := { program := "ytkefopakfjdfkaa", sum := "c6b3d172bc6dd5d64b4fbeca8e4729fdfc0bec4e09ba82784604359d61808f7a", func := "rillbed/rillbedlaw11.FuseCuts", spec := "fuseCuts", unfollowed := true, recurses := true, apart := false }
def FuseCutsSaid : Prop := fuseCutsRow.holds Try.pinned (OpenSpec.ofChange fuseCutsSpec)

/-- ITS FALSE NEIGHBOUR: 'it returns false'. Refute it at one input. -/
def fuseCutsWrong : ChangeSpec := { name := "fuseCuts", fn := fun _ => fun
  | [d1, d2, d3] => { results := [.lit (.bool false)], args := [d1, d2, d3] }
  | _ => none }
def FuseCutsWrongFalsely : Prop := fuseCutsRow.holds Try.pinned (OpenSpec.ofChange fuseCutsWrong)

/- THE SECOND FORM. 'bulk': how many values and letters a reading holds, each counted each time it is reached (what is shared counts as often as it is met; a slice's spare places count too). A statement '..UptoSaid' is the law's where the arguments, and the package variables that the reading takes, are together of bulk at most 1048576: NARROWER than '..Said'. Prove '..Said' where nothing that the law and all that it calls make is longer than what came in: it says more and counts as full. Else prove '..UptoSaid'. A law counts once. -/
mutual
def uptoBulk {H : Type} : DataW H → Nat
  | .lit (.string bytes) => bytes.length + 1
  | .lit _ => 1
  | .nil => 1
  | .ptr d => uptoBulk d + 1
  | .slice elems spare => uptoBulkAll elems + uptoBulkAll spare + 1
  | .agg parts => uptoBulkAll parts + 1
  | .iface _ d => uptoBulk d + 1
  | .map entries => uptoBulkEntries entries + 1
  | .held _ => 1
def uptoBulkAll {H : Type} : List (DataW H) → Nat
  | [] => 0
  | d :: r => uptoBulk d + uptoBulkAll r
def uptoBulkEntries {H : Type} : List (Lit × DataW H) → Nat
  | [] => 0
  | x :: r => uptoBulkEntry x + uptoBulkEntries r
def uptoBulkEntry {H : Type} : Lit × DataW H → Nat
  | (.string bytes, d) => bytes.length + uptoBulk d + 1
  | (_, d) => uptoBulk d + 1
 end
def uptoSmall : (H : Type) → List (DataW H) → Bool := fun _ ds => decide (uptoBulkAll ds ≤ 1048576)
def OpenSpec.upto (s : _root_.Go.ChangeSpec) : _root_.Go.OpenSpec := { _root_.Go.OpenSpec.ofChange s with cond := some uptoSmall }

/-- 'rillbedlaw11.FuseGoes', WHERE WHAT IT READS IS OF BULK AT MOST 1048576: true; the input reads as it did. -/
def fuseGoesUptoRow : OpenClaim := { program := "ytkefopakfjdfkaa", sum := "c6b3d172bc6dd5d64b4fbeca8e4729fdfc0bec4e09ba82784604359d61808f7a", func := "rillbed/rillbedlaw11.FuseGoes", spec := "fuseGoes", unfollowed := true, recurses := true, apart := false, narrowed := true }
def FuseGoesUptoSaid : Prop := fuseGoesUptoRow.holds Try.pinned (OpenSpec.upto fuseGoesSpec)

/-- 'rillbedlaw11.FuseKnown', WHERE WHAT IT READS IS OF BULK AT MOST 1048576: true; the input reads as it did. -/
def fuseKnownUptoRow : OpenClaim := { program := "ytkefopakfjdfkaa", sum := "c6b3d172bc6dd5d64b4fbeca8e4729fdfc0bec4e09ba82784604359d61808f7a", func := "rillbed/rillbedlaw11.FuseKnown", spec := "fuseKnown", unfollowed := true, recurses := true, apart := false, narrowed := true }
def FuseKnownUptoSaid : Prop := fuseKnownUptoRow.holds Try.pinned (OpenSpec.upto fuseKnownSpec)

/-- 'rillbedlaw11.FuseCuts', WHERE WHAT IT READS IS OF BULK AT MOST 1048576: true; the input reads as it did. -/
def fuseCutsUptoRow : OpenClaim := { program := "ytkefopakfjdfkaa", sum := "c6b3d172bc6dd5d64b4fbeca8e4729fdfc0bec4e09ba82784604359d61808f7a", func := "rillbed/rillbedlaw11.FuseCuts", spec := "fuseCuts", unfollowed := true, recurses := true, apart := false, narrowed := true }
def FuseCutsUptoSaid : Prop := fuseCutsUptoRow.holds Try.pinned (OpenSpec.upto fuseCutsSpec)

end Rows
end Go.Proofs.Ytkefopakfjdfkaa
