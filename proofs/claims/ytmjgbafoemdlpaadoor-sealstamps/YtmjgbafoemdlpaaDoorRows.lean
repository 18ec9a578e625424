/-
  NARROWER THAN 'FOR EVERY INPUT', by the rows' own cells (each row's printed sentence says how): SealTells: laid · SealStamps: laid · SealLong: laid · SealBack: laid · SealOnce: laid · SealTorn: laid · SealKnown: laid.
  DERIVED. THE GIVEN ROWS OF THIS SEAT. 7 by the template 'for every input the law returns true; each argument reads behind the call as it read before'; 0 by the template 'total and deterministic' (their statements: YtmjgbafoemdlpaaDoorTotals.lean).
  GIVEN WITH THE SEED: the statements are not yours to turn. If you find one false, say at which input.
  Laid BY PROGRAM, IN A SANDBOX (cutbox-rows.mjs): the forced cells as the released guide's own fill.sh prints them over the translation 9facefca9f1841bf… (all of the seat's roots in one cut). By AI agents, Wed Nov 11 2026. No macro, syntax, notation, axiom, sorry.
-/
import Derived.Test.YtmjgbafoemdlpaaDoorChecked
import GoSem.Claim
import GoSem.ClaimJoined
import GoSem.ClaimMapViews
import Derived.JoinedTies
import Derived.KernelRfl
namespace Go.Proofs.YtmjgbafoemdlpaaDoor
/- THE CELL 'sum', in the pinned program and in every row, IS THE sha256 OF THE DUMP (.gsa) THAT YtmjgbafoemdlpaaDoorProg.lean LOADS. Nothing in Lean hashes anything: it is a label: what it is worth is what the hold of that sum in a sandbox is worth. -/
noncomputable def Tryd.pinned : Pinned := { name := "ytmjgbafoemdlpaadoor", sum := "9facefca9f1841bf8412796fdd3e5f524cdc23cce110115d716e66aaa02aed5f", checked := Tryd.checked }
namespace Rows
def none {H : Type} : Left H := { results := [], args := [] }

/- WHAT THE LISTED PACKAGE-LEVEL VARIABLES READ AS WHEN THE CALL BEGINS. Each datum BY PROGRAM (the guide's laid-datum.mjs) off the statement by which the dump's own 'gosem.cut.vars' lays the variable. In a bare row this is a premise. The card (YtmjgbafoemdlpaaDoorCards.lean) ties it to the program's text. -/
def laid_rillbed_crc_afterFour {H : Type} : DataW H := .agg [.lit (.int .u32 0), .lit (.int .u32 274646895), .lit (.int .u32 549293790), .lit (.int .u32 820201905), .lit (.int .u32 1098587580), .lit (.int .u32 1361435347), .lit (.int .u32 1640403810), .lit (.int .u32 1905808397), .lit (.int .u32 2197175160), .lit (.int .u32 2460548119), .lit (.int .u32 2722870694), .lit (.int .u32 2987750089), .lit (.int .u32 3280807620), .lit (.int .u32 3553878443), .lit (.int .u32 3811616794), .lit (.int .u32 4084100981)]

/-- 'rillbedlaw04.SealTells': WHATEVER THE INPUT: true; the input reads as it did. -/
def sealTellsSpec : ChangeSpec := { name := "sealTells", fn := fun _ => fun
  | [d1, d2] => { results := [.lit (.bool true)], args := [d1, d2] }
  | _ => none }
def sealTellsRow : OpenClaim := { program := "ytmjgbafoemdlpaadoor", sum := "9facefca9f1841bf8412796fdd3e5f524cdc23cce110115d716e66aaa02aed5f", func := "rillbed/rillbedlaw04.SealTells", spec := "sealTells", inPlace := ["internal/abi.NoEscape", "internal/bytealg.MakeNoZero"], unfollowed := true, recurses := true, named := ["rillbed/crc.afterFour"], apart := false, laid := [("rillbed/crc.afterFour", laid_rillbed_crc_afterFour)] }
def SealTellsSaid : Prop := sealTellsRow.holds Tryd.pinned (OpenSpec.ofChange sealTellsSpec)

/-- ITS FALSE NEIGHBOUR: 'it returns false'. Refute it at one input. -/
def sealTellsWrong : ChangeSpec := { name := "sealTells", fn := fun _ => fun
  | [d1, d2] => { results := [.lit (.bool false)], args := [d1, d2] }
  | _ => none }
def SealTellsWrongFalsely : Prop := sealTellsRow.holds Tryd.pinned (OpenSpec.ofChange sealTellsWrong)

/-- 'rillbedlaw04.SealStamps': WHATEVER THE INPUT: true; the input reads as it did. -/
def sealStampsSpec : ChangeSpec := { name := "sealStamps", fn := fun _ => fun
  | [d1, d2, d3] => { results := [.lit (.bool true)], args := [d1, d2, d3] }
  | _ => none }
def sealStampsRow : OpenClaim := { program := "ytmjgbafoemdlpaadoor", sum := "9facefca9f1841bf8412796fdd3e5f524cdc23cce110115d716e66aaa02aed5f", func := "rillbed/rillbedlaw04.SealStamps", spec := "sealStamps", inPlace := ["internal/abi.NoEscape", "internal/bytealg.MakeNoZero"], unfollowed := true, recurses := true, named := ["rillbed/crc.afterFour"], apart := false, laid := [("rillbed/crc.afterFour", laid_rillbed_crc_afterFour)] }
def SealStampsSaid : Prop := sealStampsRow.holds Tryd.pinned (OpenSpec.ofChange sealStampsSpec)

/-- ITS FALSE NEIGHBOUR: 'it returns false'. Refute it at one input. -/
def sealStampsWrong : ChangeSpec := { name := "sealStamps", fn := fun _ => fun
  | [d1, d2, d3] => { results := [.lit (.bool false)], args := [d1, d2, d3] }
  | _ => none }
def SealStampsWrongFalsely : Prop := sealStampsRow.holds Tryd.pinned (OpenSpec.ofChange sealStampsWrong)

/-- 'rillbedlaw04.SealLong': WHATEVER THE INPUT: true; the input reads as it did. -/
def sealLongSpec : ChangeSpec := { name := "sealLong", fn := fun _ => fun
  | [d1, d2, d3] => { results := [.lit (.bool true)], args := [d1, d2, d3] }
  | _ => none }
def sealLongRow : OpenClaim := { program := "ytmjgbafoemdlpaadoor", sum := "9facefca9f1841bf8412796fdd3e5f524cdc23cce110115d716e66aaa02aed5f", func := "rillbed/rillbedlaw04.SealLong", spec := "sealLong", inPlace := ["internal/abi.NoEscape", "internal/bytealg.MakeNoZero"], unfollowed := true, recurses := true, named := ["rillbed/crc.afterFour"], apart := false, laid := [("rillbed/crc.afterFour", laid_rillbed_crc_afterFour)] }
def SealLongSaid : Prop := sealLongRow.holds Tryd.pinned (OpenSpec.ofChange sealLongSpec)

/-- ITS FALSE NEIGHBOUR: 'it returns false'. Refute it at one input. -/
def sealLongWrong : ChangeSpec := { name := "sealLong", fn := fun _ => fun
  | [d1, d2, d3] => { results := [.lit (.bool false)], args := [d1, d2, d3] }
  | _ => none }
def SealLongWrongFalsely : Prop := sealLongRow.holds Tryd.pinned (OpenSpec.ofChange sealLongWrong)

/-- 'rillbedlaw04.SealBack': WHATEVER THE INPUT: true; the input reads as it did. -/
def sealBackSpec : ChangeSpec := { name := "sealBack", fn := fun _ => fun
  | [d1, d2, d3] => { results := [.lit (.bool true)], args := [d1, d2, d3] }
  | _ => none }
def sealBackRow : OpenClaim := { program := "ytmjgbafoemdlpaadoor", sum := "9facefca9f1841bf8412796fdd3e5f524cdc23cce110115d716e66aaa02aed5f", func := "rillbed/rillbedlaw04.SealBack", spec := "sealBack", inPlace := ["internal/abi.NoEscape", "internal/bytealg.MakeNoZero"], unfollowed := true, recurses := true, named := ["rillbed/crc.afterFour"], apart := false, laid := [("rillbed/crc.afterFour", laid_rillbed_crc_afterFour)] }
def SealBackSaid : Prop := sealBackRow.holds Tryd.pinned (OpenSpec.ofChange sealBackSpec)

/-- ITS FALSE NEIGHBOUR: 'it returns false'. Refute it at one input. -/
def sealBackWrong : ChangeSpec := { name := "sealBack", fn := fun _ => fun
  | [d1, d2, d3] => { results := [.lit (.bool false)], args := [d1, d2, d3] }
  | _ => none }
def SealBackWrongFalsely : Prop := sealBackRow.holds Tryd.pinned (OpenSpec.ofChange sealBackWrong)

/-- 'rillbedlaw04.SealOnce': WHATEVER THE INPUT: true; the input reads as it did. -/
def sealOnceSpec : ChangeSpec := { name := "sealOnce", fn := fun _ => fun
  | [d1, d2, d3] => { results := [.lit (.bool true)], args := [d1, d2, d3] }
  | _ => none }
def sealOnceRow : OpenClaim := { program := "ytmjgbafoemdlpaadoor", sum := "9facefca9f1841bf8412796fdd3e5f524cdc23cce110115d716e66aaa02aed5f", func := "rillbed/rillbedlaw04.SealOnce", spec := "sealOnce", inPlace := ["internal/abi.NoEscape", "internal/bytealg.MakeNoZero"], unfollowed := true, recurses := true, named := ["rillbed/crc.afterFour"], apart := false, laid := [("rillbed/crc.afterFour", laid_rillbed_crc_afterFour)] }
def SealOnceSaid : Prop := sealOnceRow.holds Tryd.pinned (OpenSpec.ofChange sealOnceSpec)

/-- ITS FALSE NEIGHBOUR: 'it returns false'. Refute it at one input. -/
def sealOnceWrong : ChangeSpec := { name := "sealOnce", fn := fun _ => fun
  | [d1, d2, d3] => { results := [.lit (.bool false)], args := [d1, d2, d3] }
  | _ => none }
def SealOnceWrongFalsely : Prop := sealOnceRow.holds Tryd.pinned (OpenSpec.ofChange sealOnceWrong)

/-- 'rillbedlaw04.SealTorn': WHATEVER THE INPUT: true; the input reads as it did. -/
def sealTornSpec : ChangeSpec := { name := "sealTorn", fn := fun _ => fun
  | [d1, d2, d3] => { results := [.lit (.bool true)], args := [d1, d2, d3] }
  | _ => none }
def sealTornRow : OpenClaim := { program := "ytmjgbafoemdlpaadoor", sum := "9facefca9f1841bf8412796fdd3e5f524cdc23cce110115d716e66aaa02aed5f", func := "rillbed/rillbedlaw04.SealTorn", spec := "sealTorn", inPlace := ["internal/abi.NoEscape", "internal/bytealg.MakeNoZero"], unfollowed := true, recurses := true, named := ["rillbed/crc.afterFour"], apart := false, laid := [("rillbed/crc.afterFour", laid_rillbed_crc_afterFour)] }
def SealTornSaid : Prop := sealTornRow.holds Tryd.pinned (OpenSpec.ofChange sealTornSpec)

/-- ITS FALSE NEIGHBOUR: 'it returns false'. Refute it at one input. -/
def sealTornWrong : ChangeSpec := { name := "sealTorn", fn := fun _ => fun
  | [d1, d2, d3] => { results := [.lit (.bool false)], args := [d1, d2, d3] }
  | _ => none }
def SealTornWrongFalsely : Prop := sealTornRow.holds Tryd.pinned (OpenSpec.ofChange sealTornWrong)

/-- 'rillbedlaw04.SealKnown': WHATEVER THE INPUT: true; the input reads as it did. -/
def sealKnownSpec : ChangeSpec := { name := "sealKnown", fn := fun _ => fun
  | [] => { results := [.lit (.bool true)], args := [] }
  | _ => none }
def sealKnownRow : OpenClaim := { program := "ytmjgbafoemdlpaadoor", sum := "9facefca9f1841bf8412796fdd3e5f524cdc23cce110115d716e66aaa02aed5f", func := "rillbed/rillbedlaw04.SealKnown", spec := "sealKnown", inPlace := ["internal/abi.NoEscape", "internal/bytealg.MakeNoZero"], unfollowed := true, recurses := true, named := ["rillbed/crc.afterFour"], apart := false, laid := [("rillbed/crc.afterFour", laid_rillbed_crc_afterFour)] }
def SealKnownSaid : Prop := sealKnownRow.holds Tryd.pinned (OpenSpec.ofChange sealKnownSpec)

/-- ITS FALSE NEIGHBOUR: 'it returns false'. Refute it at one input. -/
def sealKnownWrong : ChangeSpec := { name := "sealKnown", fn := fun _ => fun
  | [] => { results := [.lit (.bool false)], args := [] }
  | _ => none }
def SealKnownWrongFalsely : Prop := sealKnownRow.holds Tryd.pinned (OpenSpec.ofChange sealKnownWrong)

/- THE SECOND FORM. 'bulk': how many values and letters a reading holds, each counted each time it is reached (what is shared counts as often as it is met; a slice's spare places count too). A statement '..UptoSaid' is the law's where the arguments, and the package variables that the reading takes, are together of bulk at most 1048576: NARROWER than '..Said'. Prove '..Said' where nothing that the law and all that it calls make is longer than what came in: it says more and counts as full. Else prove '..UptoSaid'. A law counts once. -/
mutual
def uptoBulk {H : Type} : DataW H → Nat
  | .lit (.string bytes) => bytes.length + 1
  | .lit _ => 1
  | .nil => 1
  | .ptr d => uptoBulk d + 1
  | .slice elems spare => uptoBulkAll elems + uptoBulkAll spare + 1
  | .agg parts => uptoBulkAll parts + 1
  | .iface _ d => uptoBulk d + 1
  | .map entries => uptoBulkEntries entries + 1
  | .held _ => 1
def uptoBulkAll {H : Type} : List (DataW H) → Nat
  | [] => 0
  | d :: r => uptoBulk d + uptoBulkAll r
def uptoBulkEntries {H : Type} : List (Lit × DataW H) → Nat
  | [] => 0
  | x :: r => uptoBulkEntry x + uptoBulkEntries r
def uptoBulkEntry {H : Type} : Lit × DataW H → Nat
  | (.string bytes, d) => bytes.length + uptoBulk d + 1
  | (_, d) => uptoBulk d + 1
 end
def uptoSmall : (H : Type) → List (DataW H) → Bool := fun _ ds => decide (uptoBulkAll ds ≤ 1048576)
def OpenSpec.upto (s : _root_.Go.ChangeSpec) : _root_.Go.OpenSpec := { _root_.Go.OpenSpec.ofChange s with cond := some uptoSmall }

/-- 'rillbedlaw04.SealTells', WHERE WHAT IT READS IS OF BULK AT MOST 1048576: true; the input reads as it did. -/
def sealTellsUptoRow : OpenClaim := { program := "ytmjgbafoemdlpaadoor", sum := "9facefca9f1841bf8412796fdd3e5f524cdc23cce110115d716e66aaa02aed5f", func := "rillbed/rillbedlaw04.SealTells", spec := "sealTells", inPlace := ["internal/abi.NoEscape", "internal/bytealg.MakeNoZero"], unfollowed := true, recurses := true, named := ["rillbed/crc.afterFour"], apart := false, laid := [("rillbed/crc.afterFour", laid_rillbed_crc_afterFour)], narrowed := true }
def SealTellsUptoSaid : Prop := sealTellsUptoRow.holds Tryd.pinned (OpenSpec.upto sealTellsSpec)

/-- 'rillbedlaw04.SealStamps', WHERE WHAT IT READS IS OF BULK AT MOST 1048576: true; the input reads as it did. -/
def sealStampsUptoRow : OpenClaim := { program := "ytmjgbafoemdlpaadoor", sum := "9facefca9f1841bf8412796fdd3e5f524cdc23cce110115d716e66aaa02aed5f", func := "rillbed/rillbedlaw04.SealStamps", spec := "sealStamps", inPlace := ["internal/abi.NoEscape", "internal/bytealg.MakeNoZero"], unfollowed := true, recurses := true, named := ["rillbed/crc.afterFour"], apart := false, laid := [("rillbed/crc.afterFour", laid_rillbed_crc_afterFour)], narrowed := true }
def SealStampsUptoSaid : Prop := sealStampsUptoRow.holds Tryd.pinned (OpenSpec.upto sealStampsSpec)

/-- 'rillbedlaw04.SealLong', WHERE WHAT IT READS IS OF BULK AT MOST 1048576: true; the input reads as it did. -/
def sealLongUptoRow : OpenClaim := { program := "ytmjgbafoemdlpaadoor", sum := "9facefca9f1841bf8412796fdd3e5f524cdc23cce110115d716e66aaa02aed5f", func := "rillbed/rillbedlaw04.SealLong", spec := "sealLong", inPlace := ["internal/abi.NoEscape", "internal/bytealg.MakeNoZero"], unfollowed := true, recurses := true, named := ["rillbed/crc.afterFour"], apart := false, laid := [("rillbed/crc.afterFour", laid_rillbed_crc_afterFour)], narrowed := true }
def SealLongUptoSaid : Prop := sealLongUptoRow.holds Tryd.pinned (OpenSpec.upto sealLongSpec)

/-- 'rillbedlaw04.SealBack', WHERE WHAT IT READS IS OF BULK AT MOST 1048576: true; the input reads as it did. -/
def sealBackUptoRow : OpenClaim := { program := "ytmjgbafoemdlpaadoor", sum := "9facefca9f1841bf8412796fdd3e5f524cdc23cce110115d716e66aaa02aed5f", func := "rillbed/rillbedlaw04.SealBack", spec := "sealBack", inPlace := ["internal/abi.NoEscape", "internal/bytealg.MakeNoZero"], unfollowed := true, recurses := true, named := ["rillbed/crc.afterFour"], apart := false, laid := [("rillbed/crc.afterFour", laid_rillbed_crc_afterFour)], narrowed := true }
def SealBackUptoSaid : Prop := sealBackUptoRow.holds Tryd.pinned (OpenSpec.upto sealBackSpec)

/-- 'rillbedlaw04.SealOnce', WHERE WHAT IT READS IS OF BULK AT MOST 1048576: true; the input reads as it did. -/
def sealOnceUptoRow : OpenClaim := { program := "ytmjgbafoemdlpaadoor", sum := "9facefca9f1841bf8412796fdd3e5f524cdc23cce110115d716e66aaa02aed5f", func := "rillbed/rillbedlaw04.SealOnce", spec := "sealOnce", inPlace := ["internal/abi.NoEscape", "internal/bytealg.MakeNoZero"], unfollowed := true, recurses := true, named := ["rillbed/crc.afterFour"], apart := false, laid := [("rillbed/crc.afterFour", laid_rillbed_crc_afterFour)], narrowed := true }
def SealOnceUptoSaid : Prop := sealOnceUptoRow.holds Tryd.pinned (OpenSpec.upto sealOnceSpec)

/-- 'rillbedlaw04.SealTorn', WHERE WHAT IT READS IS OF BULK AT MOST 1048576: true; the input reads as it did. -/
def sealTornUptoRow : OpenClaim := { program := "ytmjgbafoemdlpaadoor", sum := "9facefca9f1841bf8412796fdd3e5f524cdc23cce110115d716e66aaa02aed5f", func := "rillbed/rillbedlaw04.SealTorn", spec := "sealTorn", inPlace := ["internal/abi.NoEscape", "internal/bytealg.MakeNoZero"], unfollowed := true, recurses := true, named := ["rillbed/crc.afterFour"], apart := false, laid := [("rillbed/crc.afterFour", laid_rillbed_crc_afterFour)], narrowed := true }
def SealTornUptoSaid : Prop := sealTornUptoRow.holds Tryd.pinned (OpenSpec.upto sealTornSpec)

/-- 'rillbedlaw04.SealKnown', WHERE WHAT IT READS IS OF BULK AT MOST 1048576: true; the input reads as it did. -/
def sealKnownUptoRow : OpenClaim := { program := "ytmjgbafoemdlpaadoor", sum := "9facefca9f1841bf8412796fdd3e5f524cdc23cce110115d716e66aaa02aed5f", func := "rillbed/rillbedlaw04.SealKnown", spec := "sealKnown", inPlace := ["internal/abi.NoEscape", "internal/bytealg.MakeNoZero"], unfollowed := true, recurses := true, named := ["rillbed/crc.afterFour"], apart := false, laid := [("rillbed/crc.afterFour", laid_rillbed_crc_afterFour)], narrowed := true }
def SealKnownUptoSaid : Prop := sealKnownUptoRow.holds Tryd.pinned (OpenSpec.upto sealKnownSpec)

end Rows
end Go.Proofs.YtmjgbafoemdlpaaDoor
