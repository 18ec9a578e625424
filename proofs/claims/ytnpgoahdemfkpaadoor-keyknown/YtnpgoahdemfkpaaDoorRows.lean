/-
  NARROWER THAN 'FOR EVERY INPUT', by the rows' own cells (each row's printed sentence says how): KeyMakes: laid · KeyMoves: laid · KeyTakes: laid · KeyRanges: laid · KeyBack: laid · KeyKnown: laid.
  DERIVED. THE GIVEN ROWS OF THIS SEAT. 6 by the template 'for every input the law returns true; each argument reads behind the call as it read before'; 0 by the template 'total and deterministic' (their statements: YtnpgoahdemfkpaaDoorTotals.lean).
  GIVEN WITH THE SEED: the statements are not yours to turn. If you find one false, say at which input.
  Laid BY PROGRAM, IN A SANDBOX (cutbox-rows.mjs): the forced cells as the released guide's own fill.sh prints them over the translation 1df90b6b916f5c6d… (all of the seat's roots in one cut). By AI agents, Wed Nov 11 2026. No macro, syntax, notation, axiom, sorry.
-/
import Derived.Test.YtnpgoahdemfkpaaDoorChecked
import GoSem.PinnedTables
import GoSem.Claim
import GoSem.ClaimJoined
import GoSem.ClaimMapViews
import Derived.JoinedTies
import Derived.KernelRfl
namespace Go.Proofs.YtnpgoahdemfkpaaDoor
/- THE CELL 'sum', in the pinned program and in every row, IS THE sha256 OF THE DUMP (.gsa) THAT YtnpgoahdemfkpaaDoorProg.lean LOADS. Nothing in Lean hashes anything: it is a label: what it is worth is what the hold of that sum in a sandbox is worth. -/
noncomputable def Tryd.pinned : Pinned := { name := "ytnpgoahdemfkpaadoor", sum := "1df90b6b916f5c6df08e1dc9f65aa19fafb71b7f50d1b806795431c7fff6ddb7", checked := Tryd.checked }
namespace Rows
def none {H : Type} : Left H := { results := [], args := [] }

/- WHAT THE LISTED PACKAGE-LEVEL VARIABLES READ AS WHEN THE CALL BEGINS. Each datum BY PROGRAM (the guide's laid-datum.mjs) off the statement by which the dump's own 'gosem.cut.vars' lays the variable. In a bare row this is a premise. The card (YtnpgoahdemfkpaaDoorCards.lean) ties it to the program's text. -/
def laid_unicode_utf8_acceptRanges {H : Type} : DataW H := .agg [.agg [.lit (.int .u8 128), .lit (.int .u8 191)], .agg [.lit (.int .u8 160), .lit (.int .u8 191)], .agg [.lit (.int .u8 128), .lit (.int .u8 159)], .agg [.lit (.int .u8 144), .lit (.int .u8 191)], .agg [.lit (.int .u8 128), .lit (.int .u8 143)], .agg [.lit (.int .u8 0), .lit (.int .u8 0)], .agg [.lit (.int .u8 0), .lit (.int .u8 0)], .agg [.lit (.int .u8 0), .lit (.int .u8 0)], .agg [.lit (.int .u8 0), .lit (.int .u8 0)], .agg [.lit (.int .u8 0), .lit (.int .u8 0)], .agg [.lit (.int .u8 0), .lit (.int .u8 0)], .agg [.lit (.int .u8 0), .lit (.int .u8 0)], .agg [.lit (.int .u8 0), .lit (.int .u8 0)], .agg [.lit (.int .u8 0), .lit (.int .u8 0)], .agg [.lit (.int .u8 0), .lit (.int .u8 0)], .agg [.lit (.int .u8 0), .lit (.int .u8 0)]]
def laid_rillbed_key_metaKeys {H : Type} : DataW H := .agg [.lit (.string [109]), .lit (.string [110])]
def laid_rillbed_key_blockKeys {H : Type} : DataW H := .agg [.lit (.string [100]), .lit (.string [101])]
/-- One of Go's own tables, pinned by name: the form's constant. -/
def laid_unicode_utf8_first : DataW Unit := Go.Pinned.utf8First

/-- 'rillbedlaw06.KeyMakes': WHATEVER THE INPUT: true; the input reads as it did. -/
def keyMakesSpec : ChangeSpec := { name := "keyMakes", fn := fun _ => fun
  | [d1, d2] => { results := [.lit (.bool true)], args := [d1, d2] }
  | _ => none }
def keyMakesRow : OpenClaim := { program := "ytnpgoahdemfkpaadoor", sum := "1df90b6b916f5c6df08e1dc9f65aa19fafb71b7f50d1b806795431c7fff6ddb7", func := "rillbed/rillbedlaw06.KeyMakes", spec := "keyMakes", inPlace := ["internal/bytealg.IndexByteString", "internal/bytealg.IndexString", "internal/abi.NoEscape", "internal/bytealg.MakeNoZero", "internal/bytealg.CountString"], unfollowed := true, recurses := true, named := ["rillbed/key.metaKeys", "internal/bytealg.MaxLen", "unicode/utf8.first", "unicode/utf8.acceptRanges", "rillbed/key.blockKeys"], apart := false, laid := [("unicode/utf8.acceptRanges", laid_unicode_utf8_acceptRanges), ("rillbed/key.metaKeys", laid_rillbed_key_metaKeys), ("rillbed/key.blockKeys", laid_rillbed_key_blockKeys), ("unicode/utf8.first", laid_unicode_utf8_first)] }
def KeyMakesSaid : Prop := keyMakesRow.holds Tryd.pinned (OpenSpec.ofChange keyMakesSpec)

/-- ITS FALSE NEIGHBOUR: 'it returns false'. Refute it at one input. -/
def keyMakesWrong : ChangeSpec := { name := "keyMakes", fn := fun _ => fun
  | [d1, d2] => { results := [.lit (.bool false)], args := [d1, d2] }
  | _ => none }
def KeyMakesWrongFalsely : Prop := keyMakesRow.holds Tryd.pinned (OpenSpec.ofChange keyMakesWrong)

/-- 'rillbedlaw06.KeyMoves': WHATEVER THE INPUT: true; the input reads as it did. -/
def keyMovesSpec : ChangeSpec := { name := "keyMoves", fn := fun _ => fun
  | [d1, d2, d3] => { results := [.lit (.bool true)], args := [d1, d2, d3] }
  | _ => none }
def keyMovesRow : OpenClaim := { program := "ytnpgoahdemfkpaadoor", sum := "1df90b6b916f5c6df08e1dc9f65aa19fafb71b7f50d1b806795431c7fff6ddb7", func := "rillbed/rillbedlaw06.KeyMoves", spec := "keyMoves", inPlace := ["internal/bytealg.IndexByteString", "internal/bytealg.IndexString", "internal/abi.NoEscape", "internal/bytealg.MakeNoZero", "internal/bytealg.CountString"], unfollowed := true, recurses := true, named := ["rillbed/key.metaKeys", "internal/bytealg.MaxLen", "unicode/utf8.first", "unicode/utf8.acceptRanges", "rillbed/key.blockKeys"], apart := false, laid := [("unicode/utf8.acceptRanges", laid_unicode_utf8_acceptRanges), ("rillbed/key.metaKeys", laid_rillbed_key_metaKeys), ("rillbed/key.blockKeys", laid_rillbed_key_blockKeys), ("unicode/utf8.first", laid_unicode_utf8_first)] }
def KeyMovesSaid : Prop := keyMovesRow.holds Tryd.pinned (OpenSpec.ofChange keyMovesSpec)

/-- ITS FALSE NEIGHBOUR: 'it returns false'. Refute it at one input. -/
def keyMovesWrong : ChangeSpec := { name := "keyMoves", fn := fun _ => fun
  | [d1, d2, d3] => { results := [.lit (.bool false)], args := [d1, d2, d3] }
  | _ => none }
def KeyMovesWrongFalsely : Prop := keyMovesRow.holds Tryd.pinned (OpenSpec.ofChange keyMovesWrong)

/-- 'rillbedlaw06.KeyTakes': WHATEVER THE INPUT: true; the input reads as it did. -/
def keyTakesSpec : ChangeSpec := { name := "keyTakes", fn := fun _ => fun
  | [d] => { results := [.lit (.bool true)], args := [d] }
  | _ => none }
def keyTakesRow : OpenClaim := { program := "ytnpgoahdemfkpaadoor", sum := "1df90b6b916f5c6df08e1dc9f65aa19fafb71b7f50d1b806795431c7fff6ddb7", func := "rillbed/rillbedlaw06.KeyTakes", spec := "keyTakes", inPlace := ["internal/bytealg.IndexByteString", "internal/bytealg.IndexString", "internal/abi.NoEscape", "internal/bytealg.MakeNoZero", "internal/bytealg.CountString"], unfollowed := true, recurses := true, named := ["rillbed/key.metaKeys", "internal/bytealg.MaxLen", "unicode/utf8.first", "unicode/utf8.acceptRanges", "rillbed/key.blockKeys"], apart := false, laid := [("unicode/utf8.acceptRanges", laid_unicode_utf8_acceptRanges), ("rillbed/key.metaKeys", laid_rillbed_key_metaKeys), ("rillbed/key.blockKeys", laid_rillbed_key_blockKeys), ("unicode/utf8.first", laid_unicode_utf8_first)] }
def KeyTakesSaid : Prop := keyTakesRow.holds Tryd.pinned (OpenSpec.ofChange keyTakesSpec)

/-- ITS FALSE NEIGHBOUR: 'it returns false'. Refute it at one input. -/
def keyTakesWrong : ChangeSpec := { name := "keyTakes", fn := fun _ => fun
  | [d] => { results := [.lit (.bool false)], args := [d] }
  | _ => none }
def KeyTakesWrongFalsely : Prop := keyTakesRow.holds Tryd.pinned (OpenSpec.ofChange keyTakesWrong)

/-- 'rillbedlaw06.KeyRanges': WHATEVER THE INPUT: true; the input reads as it did. -/
def keyRangesSpec : ChangeSpec := { name := "keyRanges", fn := fun _ => fun
  | [d1, d2, d3] => { results := [.lit (.bool true)], args := [d1, d2, d3] }
  | _ => none }
def keyRangesRow : OpenClaim := { program := "ytnpgoahdemfkpaadoor", sum := "1df90b6b916f5c6df08e1dc9f65aa19fafb71b7f50d1b806795431c7fff6ddb7", func := "rillbed/rillbedlaw06.KeyRanges", spec := "keyRanges", inPlace := ["internal/bytealg.IndexByteString", "internal/bytealg.IndexString", "internal/abi.NoEscape", "internal/bytealg.MakeNoZero", "internal/bytealg.CountString"], unfollowed := true, recurses := true, named := ["rillbed/key.metaKeys", "internal/bytealg.MaxLen", "unicode/utf8.first", "unicode/utf8.acceptRanges", "rillbed/key.blockKeys"], apart := false, laid := [("unicode/utf8.acceptRanges", laid_unicode_utf8_acceptRanges), ("rillbed/key.metaKeys", laid_rillbed_key_metaKeys), ("rillbed/key.blockKeys", laid_rillbed_key_blockKeys), ("unicode/utf8.first", laid_unicode_utf8_first)] }
def KeyRangesSaid : Prop := keyRangesRow.holds Tryd.pinned (OpenSpec.ofChange keyRangesSpec)

/-- ITS FALSE NEIGHBOUR: 'it returns false'. Refute it at one input. -/
def keyRangesWrong : ChangeSpec := { name := "keyRanges", fn := fun _ => fun
  | [d1, d2, d3] => { results := [.lit (.bool false)], args := [d1, d2, d3] }
  | _ => none }
def KeyRangesWrongFalsely : Prop := keyRangesRow.holds Tryd.pinned (OpenSpec.ofChange keyRangesWrong)

/-- 'rillbedlaw06.KeyBack': WHATEVER THE INPUT: true; the input reads as it did. -/
def keyBackSpec : ChangeSpec := { name := "keyBack", fn := fun _ => fun
  | [d1, d2, d3] => { results := [.lit (.bool true)], args := [d1, d2, d3] }
  | _ => none }
def keyBackRow : OpenClaim := { program := "ytnpgoahdemfkpaadoor", sum := "1df90b6b916f5c6df08e1dc9f65aa19fafb71b7f50d1b806795431c7fff6ddb7", func := "rillbed/rillbedlaw06.KeyBack", spec := "keyBack", inPlace := ["internal/bytealg.IndexByteString", "internal/bytealg.IndexString", "internal/abi.NoEscape", "internal/bytealg.MakeNoZero", "internal/bytealg.CountString"], unfollowed := true, recurses := true, named := ["rillbed/key.metaKeys", "internal/bytealg.MaxLen", "unicode/utf8.first", "unicode/utf8.acceptRanges", "rillbed/key.blockKeys"], apart := false, laid := [("unicode/utf8.acceptRanges", laid_unicode_utf8_acceptRanges), ("rillbed/key.metaKeys", laid_rillbed_key_metaKeys), ("rillbed/key.blockKeys", laid_rillbed_key_blockKeys), ("unicode/utf8.first", laid_unicode_utf8_first)] }
def KeyBackSaid : Prop := keyBackRow.holds Tryd.pinned (OpenSpec.ofChange keyBackSpec)

/-- ITS FALSE NEIGHBOUR: 'it returns false'. Refute it at one input. -/
def keyBackWrong : ChangeSpec := { name := "keyBack", fn := fun _ => fun
  | [d1, d2, d3] => { results := [.lit (.bool false)], args := [d1, d2, d3] }
  | _ => none }
def KeyBackWrongFalsely : Prop := keyBackRow.holds Tryd.pinned (OpenSpec.ofChange keyBackWrong)

/-- 'rillbedlaw06.KeyKnown': WHATEVER THE INPUT: true; the input reads as it did. -/
def keyKnownSpec : ChangeSpec := { name := "keyKnown", fn := fun _ => fun
  | [] => { results := [.lit (.bool true)], args := [] }
  | _ => none }
def keyKnownRow : OpenClaim := { program := "ytnpgoahdemfkpaadoor", sum := "1df90b6b916f5c6df08e1dc9f65aa19fafb71b7f50d1b806795431c7fff6ddb7", func := "rillbed/rillbedlaw06.KeyKnown", spec := "keyKnown", inPlace := ["internal/bytealg.CountString", "internal/bytealg.IndexByteString", "internal/bytealg.IndexString", "internal/abi.NoEscape", "internal/bytealg.MakeNoZero"], unfollowed := true, recurses := true, named := ["unicode/utf8.first", "unicode/utf8.acceptRanges", "internal/bytealg.MaxLen", "rillbed/key.metaKeys", "rillbed/key.blockKeys"], apart := false, laid := [("unicode/utf8.acceptRanges", laid_unicode_utf8_acceptRanges), ("rillbed/key.metaKeys", laid_rillbed_key_metaKeys), ("rillbed/key.blockKeys", laid_rillbed_key_blockKeys), ("unicode/utf8.first", laid_unicode_utf8_first)] }
def KeyKnownSaid : Prop := keyKnownRow.holds Tryd.pinned (OpenSpec.ofChange keyKnownSpec)

/-- ITS FALSE NEIGHBOUR: 'it returns false'. Refute it at one input. -/
def keyKnownWrong : ChangeSpec := { name := "keyKnown", fn := fun _ => fun
  | [] => { results := [.lit (.bool false)], args := [] }
  | _ => none }
def KeyKnownWrongFalsely : Prop := keyKnownRow.holds Tryd.pinned (OpenSpec.ofChange keyKnownWrong)

/- THE SECOND FORM. 'bulk': how many values and letters a reading holds, each counted each time it is reached (what is shared counts as often as it is met; a slice's spare places count too). A statement '..UptoSaid' is the law's where the arguments, and the package variables that the reading takes, are together of bulk at most 1048576: NARROWER than '..Said'. Prove '..Said' where nothing that the law and all that it calls make is longer than what came in: it says more and counts as full. Else prove '..UptoSaid'. A law counts once. -/
mutual
def uptoBulk {H : Type} : DataW H → Nat
  | .lit (.string bytes) => bytes.length + 1
  | .lit _ => 1
  | .nil => 1
  | .ptr d => uptoBulk d + 1
  | .slice elems spare => uptoBulkAll elems + uptoBulkAll spare + 1
  | .agg parts => uptoBulkAll parts + 1
  | .iface _ d => uptoBulk d + 1
  | .map entries => uptoBulkEntries entries + 1
  | .held _ => 1
def uptoBulkAll {H : Type} : List (DataW H) → Nat
  | [] => 0
  | d :: r => uptoBulk d + uptoBulkAll r
def uptoBulkEntries {H : Type} : List (Lit × DataW H) → Nat
  | [] => 0
  | x :: r => uptoBulkEntry x + uptoBulkEntries r
def uptoBulkEntry {H : Type} : Lit × DataW H → Nat
  | (.string bytes, d) => bytes.length + uptoBulk d + 1
  | (_, d) => uptoBulk d + 1
 end
def uptoSmall : (H : Type) → List (DataW H) → Bool := fun _ ds => decide (uptoBulkAll ds ≤ 1048576)
def OpenSpec.upto (s : _root_.Go.ChangeSpec) : _root_.Go.OpenSpec := { _root_.Go.OpenSpec.ofChange s with cond := some uptoSmall }

/-- 'rillbedlaw06.KeyMakes', WHERE WHAT IT READS IS OF BULK AT MOST 1048576: true; the input reads as it did. -/
def keyMakesUptoRow : OpenClaim := { program := "ytnpgoahdemfkpaadoor", sum := "1df90b6b916f5c6df08e1dc9f65aa19fafb71b7f50d1b806795431c7fff6ddb7", func := "rillbed/rillbedlaw06.KeyMakes", spec := "keyMakes", inPlace := ["internal/bytealg.IndexByteString", "internal/bytealg.IndexString", "internal/abi.NoEscape", "internal/bytealg.MakeNoZero", "internal/bytealg.CountString"], unfollowed := true, recurses := true, named := ["rillbed/key.metaKeys", "internal/bytealg.MaxLen", "unicode/utf8.first", "unicode/utf8.acceptRanges", "rillbed/key.blockKeys"], apart := false, laid := [("unicode/utf8.acceptRanges", laid_unicode_utf8_acceptRanges), ("rillbed/key.metaKeys", laid_rillbed_key_metaKeys), ("rillbed/key.blockKeys", laid_rillbed_key_blockKeys), ("unicode/utf8.first", laid_unicode_utf8_first)], narrowed := true }
def KeyMakesUptoSaid : Prop := keyMakesUptoRow.holds Tryd.pinned (OpenSpec.upto keyMakesSpec)

/-- 'rillbedlaw06.KeyMoves', WHERE WHAT IT READS IS OF BULK AT MOST 1048576: true; the input reads as it did. -/
def keyMovesUptoRow : OpenClaim := { program := "ytnpgoahdemfkpaadoor", sum := "1df90b6b916f5c6df08e1dc9f65aa19fafb71b7f50d1b806795431c7fff6ddb7", func := "rillbed/rillbedlaw06.KeyMoves", spec := "keyMoves", inPlace := ["internal/bytealg.IndexByteString", "internal/bytealg.IndexString", "internal/abi.NoEscape", "internal/bytealg.MakeNoZero", "internal/bytealg.CountString"], unfollowed := true, recurses := true, named := ["rillbed/key.metaKeys", "internal/bytealg.MaxLen", "unicode/utf8.first", "unicode/utf8.acceptRanges", "rillbed/key.blockKeys"], apart := false, laid := [("unicode/utf8.acceptRanges", laid_unicode_utf8_acceptRanges), ("rillbed/key.metaKeys", laid_rillbed_key_metaKeys), ("rillbed/key.blockKeys", laid_rillbed_key_blockKeys), ("unicode/utf8.first", laid_unicode_utf8_first)], narrowed := true }
def KeyMovesUptoSaid : Prop := keyMovesUptoRow.holds Tryd.pinned (OpenSpec.upto keyMovesSpec)

/-- 'rillbedlaw06.KeyTakes', WHERE WHAT IT READS IS OF BULK AT MOST 1048576: true; the input reads as it did. -/
def keyTakesUptoRow : OpenClaim := { program := "ytnpgoahdemfkpaadoor", sum := "1df90b6b916f5c6df08e1dc9f65aa19fafb71b7f50d1b806795431c7fff6ddb7", func := "rillbed/rillbedlaw06.KeyTakes", spec := "keyTakes", inPlace := ["internal/bytealg.IndexByteString", "internal/bytealg.IndexString", "internal/abi.NoEscape", "internal/bytealg.MakeNoZero", "internal/bytealg.CountString"], unfollowed := true, recurses := true, named := ["rillbed/key.metaKeys", "internal/bytealg.MaxLen", "unicode/utf8.first", "unicode/utf8.acceptRanges", "rillbed/key.blockKeys"], apart := false, laid := [("unicode/utf8.acceptRanges", laid_unicode_utf8_acceptRanges), ("rillbed/key.metaKeys", laid_rillbed_key_metaKeys), ("rillbed/key.blockKeys", laid_rillbed_key_blockKeys), ("unicode/utf8.first", laid_unicode_utf8_first)], narrowed := true }
def KeyTakesUptoSaid : Prop := keyTakesUptoRow.holds Tryd.pinned (OpenSpec.upto keyTakesSpec)

/-- 'rillbedlaw06.KeyRanges', WHERE WHAT IT READS IS OF BULK AT MOST 1048576: true; the input reads as it did. -/
def keyRangesUptoRow : OpenClaim := { program := "ytnpgoahdemfkpaadoor", sum := "1df90b6b916f5c6df08e1dc9f65aa19fafb71b7f50d1b806795431c7fff6ddb7", func := "rillbed/rillbedlaw06.KeyRanges", spec := "keyRanges", inPlace := ["internal/bytealg.IndexByteString", "internal/bytealg.IndexString", "internal/abi.NoEscape", "internal/bytealg.MakeNoZero", "internal/bytealg.CountString"], unfollowed := true, recurses := true, named := ["rillbed/key.metaKeys", "internal/bytealg.MaxLen", "unicode/utf8.first", "unicode/utf8.acceptRanges", "rillbed/key.blockKeys"], apart := false, laid := [("unicode/utf8.acceptRanges", laid_unicode_utf8_acceptRanges), ("rillbed/key.metaKeys", laid_rillbed_key_metaKeys), ("rillbed/key.blockKeys", laid_rillbed_key_blockKeys), ("unicode/utf8.first", laid_unicode_utf8_first)], narrowed := true }
def KeyRangesUptoSaid : Prop := keyRangesUptoRow.holds Tryd.pinned (OpenSpec.upto keyRangesSpec)

/-- 'rillbedlaw06.KeyBack', WHERE WHAT IT READS IS OF BULK AT MOST 1048576: true; the input reads as it did. -/
def keyBackUptoRow : OpenClaim := { program := "ytnpgoahdemfkpaadoor", sum := "1df90b6b916f5c6df08e1dc9f65aa19fafb71b7f50d1b806795431c7fff6ddb7", func := "rillbed/rillbedlaw06.KeyBack", spec := "keyBack", inPlace := ["internal/bytealg.IndexByteString", "internal/bytealg.IndexString", "internal/abi.NoEscape", "internal/bytealg.MakeNoZero", "internal/bytealg.CountString"], unfollowed := true, recurses := true, named := ["rillbed/key.metaKeys", "internal/bytealg.MaxLen", "unicode/utf8.first", "unicode/utf8.acceptRanges", "rillbed/key.blockKeys"], apart := false, laid := [("unicode/utf8.acceptRanges", laid_unicode_utf8_acceptRanges), ("rillbed/key.metaKeys", laid_rillbed_key_metaKeys), ("rillbed/key.blockKeys", laid_rillbed_key_blockKeys), ("unicode/utf8.first", laid_unicode_utf8_first)], narrowed := true }
def KeyBackUptoSaid : Prop := keyBackUptoRow.holds Tryd.pinned (OpenSpec.upto keyBackSpec)

/-- 'rillbedlaw06.KeyKnown', WHERE WHAT IT READS IS OF BULK AT MOST 1048576: true; the input reads as it did. -/
def keyKnownUptoRow : OpenClaim := { program := "ytnpgoahdemfkpaadoor", sum := "1df90b6b916f5c6df08e1dc9f65aa19fafb71b7f50d1b806795431c7fff6ddb7", func := "rillbed/rillbedlaw06.KeyKnown", spec := "keyKnown", inPlace := ["internal/bytealg.CountString", "internal/bytealg.IndexByteString", "internal/bytealg.IndexString", "internal/abi.NoEscape", "internal/bytealg.MakeNoZero"], unfollowed := true, recurses := true, named := ["unicode/utf8.first", "unicode/utf8.acceptRanges", "internal/bytealg.MaxLen", "rillbed/key.metaKeys", "rillbed/key.blockKeys"], apart := false, laid := [("unicode/utf8.acceptRanges", laid_unicode_utf8_acceptRanges), ("rillbed/key.metaKeys", laid_rillbed_key_metaKeys), ("rillbed/key.blockKeys", laid_rillbed_key_blockKeys), ("unicode/utf8.first", laid_unicode_utf8_first)], narrowed := true }
def KeyKnownUptoSaid : Prop := keyKnownUptoRow.holds Tryd.pinned (OpenSpec.upto keyKnownSpec)

end Rows
end Go.Proofs.YtnpgoahdemfkpaaDoor
