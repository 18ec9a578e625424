/- Frames and comparisons that the statements' walks have in common. Conditions: none. -/
import Derived.Test.YthledgkjfjdjoaaGreatMsJ
namespace Go.Proofs.YthledgkjfjdjoaaGreat.Ms
open Go.ChangeShapes Go.WideShapes Go.RowKit Go.Codec Go.Mt Go.Blk
set_option maxRecDepth 100000
set_option linter.unusedSimpArgs false
set_option linter.unusedVariables false
/-- A boxed message, and another box. -/
theorem fr1 (w : World) (msg : Array Value) : Mt.Fr w [(w.heap.size, 23, msg)] (w.alloc (.cells msg 23)) := (Mt.Fr.nil w).new 23 msg
theorem eqSame (o : Int) (k t v : ByteArray) (w : World) : (binOp .eql 23 (.agg #[.int .i64 o, .string k, .string t, .string v]) (.agg #[.int .i64 o, .string k, .string t, .string v])).run Tryz.prog w = .ok (.bool true) w := by
  rw [eqMsg]; simp
theorem neSame (o : Int) (k t v : ByteArray) (w : World) : (binOp .neq 23 (.agg #[.int .i64 o, .string k, .string t, .string v]) (.agg #[.int .i64 o, .string k, .string t, .string v])).run Tryz.prog w = .ok (.bool false) w := by
  have h1 : o == o := by simp
  have h2 : ∀ x : ByteArray, x.toList == x.toList := fun x => by simp
  go_simp
/-- A boxed message and a boxed key. -/
abbrev boxK (w : World) (msg key : Array Value) : List (Nat × TypeId × Array Value) := [(w.heap.size, 23, msg), (w.heap.size + 1, 44, key)]
theorem boxK_new (w : World) (msg key : Array Value) : Mt.Fr w (boxK w msg key) ((w.alloc (.cells msg 23)).alloc (.cells key 44)) := by
  have h := ((Mt.Fr.nil w).new 23 msg).new 44 key
  rw [show (w.alloc (Obj.cells msg 23)).heap.size = w.heap.size + 1 by simp] at h
  exact h
theorem _root_.Go.Proofs.YthledgkjfjdjoaaGreat.Mt.Fr.c3 {w wx : World} {L : List (Nat × TypeId × Array Value)} (h : Mt.Fr w L wx) (i : Nat) {g : Nat} {t : TypeId} {a b c : Value} (hi : L[i]? = some (g, t, #[a, b, c])) :
    wx.cell? ⟨g, 0, none⟩ = some a ∧ wx.cell? ⟨g, 1, none⟩ = some b ∧ wx.cell? ⟨g, 2, none⟩ = some c :=
  ⟨(h.at i hi).cell 0, (h.at i hi).cell 1, (h.at i hi).cell 2⟩
/-- A boxed message and a boxed array. -/
abbrev boxA (w : World) (msg : Array Value) (t : TypeId) (arr : Array Value) : List (Nat × TypeId × Array Value) := [(w.heap.size, 23, msg), (w.heap.size + 1, t, arr)]
theorem boxA_new (w : World) (msg : Array Value) (t : TypeId) (arr : Array Value) : Mt.Fr w (boxA w msg t arr) ((w.alloc (.cells msg 23)).alloc (.cells arr t)) := by
  have h := ((Mt.Fr.nil w).new 23 msg).new t arr
  rw [show (w.alloc (Obj.cells msg 23)).heap.size = w.heap.size + 1 by simp] at h
  exact h
theorem _root_.Go.Proofs.YthledgkjfjdjoaaGreat.Mt.Fr.c2 {w wx : World} {L : List (Nat × TypeId × Array Value)} (h : Mt.Fr w L wx) (i : Nat) {g : Nat} {t : TypeId} {a b : Value} (hi : L[i]? = some (g, t, #[a, b])) :
    wx.cell? ⟨g, 0, none⟩ = some a ∧ wx.cell? ⟨g, 1, none⟩ = some b ∧ g < wx.heap.size :=
  ⟨(h.at i hi).cell 0, (h.at i hi).cell 1, (h.at i hi).lt⟩
theorem _root_.Go.Proofs.YthledgkjfjdjoaaGreat.Mt.Fr.carry {w wy : World} {L : List (Nat × TypeId × Array Value)} {f : Nat} {args : Array Value} {R : Ending → Prop} (h : Mt.Fr w L wy) (hc : Calls Tryz.prog f args wy fun e w' => R e ∧ Below wy.heap.size wy w') : Calls Tryz.prog f args wy fun e w' => R e ∧ Mt.Fr w L w' :=
  hc.mono fun _ _ hh => ⟨hh.1, h.later hh.2⟩
theorem sz1 (w : World) (x : Obj) : (w.alloc x).heap.size = w.heap.size + 1 := by simp
end Go.Proofs.YthledgkjfjdjoaaGreat.Ms
