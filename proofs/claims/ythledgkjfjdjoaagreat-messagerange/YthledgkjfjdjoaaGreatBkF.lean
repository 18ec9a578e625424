/- A patch's text, by the program. Conditions: lengths below 2^40. -/
import Derived.Test.YthledgkjfjdjoaaGreatBkE
namespace Go.Proofs.YthledgkjfjdjoaaGreat.Bk
open Go.ChangeShapes Go.WideShapes Go.RowKit Go.Codec Go.Blk
set_option maxRecDepth 100000
/-- One boxed value: what lies in it, and that nothing older has turned. -/
structure Box (w : World) (t : TypeId) (a : Array Value) (wx : World) : Prop where
  below : Below w.heap.size w wx
  one : Is wx w.heap.size t a
section
variable {w wx wy : World} {t : TypeId} {a : Array Value}
theorem Box.new (w : World) (t : TypeId) (a : Array Value) : Box w t a (w.alloc (.cells a t)) := ⟨below_alloc (Below.refl _ _) _, Is.new _ _ _⟩
theorem Box.later (h : Box w t a wx) (hb : Below wx.heap.size wx wy) : Box w t a wy :=
  ⟨h.below.trans (hb.mono h.below.size), h.one.kept (grow_below hb none) (by simp)⟩
theorem Box.drew (h : Box w t a wx) : Box w t a wx.drew := ⟨h.below.drew, h.one⟩
theorem Box.cells {a b c d : Value} (h : Box w t #[a, b, c, d] wx) : wx.cell? ⟨w.heap.size, 0, none⟩ = some a ∧ wx.cell? ⟨w.heap.size, 1, none⟩ = some b ∧ wx.cell? ⟨w.heap.size, 2, none⟩ = some c ∧ wx.cell? ⟨w.heap.size, 3, none⟩ = some d :=
  ⟨h.one.cell 0, h.one.cell 1, h.one.cell 2, h.one.cell 3⟩
end
/-- A boxed value, and a writer that was made behind it. -/
structure Wg (w : World) (t : TypeId) (arr : Array Value) (a : Nat) (st : Option (List UInt8)) (wx : World) : Prop where
  box : Box w t arr wx
  wr : Wr wx a st
  ne : w.heap.size < a
theorem Wg.new {w wx : World} {t : TypeId} {arr : Array Value} (h : Box w t arr wx) : Wg w t arr wx.heap.size (some []) (wx.alloc (.cells #[.pointer none, .int .i64 0, .int .i64 0] 57)) :=
  ⟨h.later (below_alloc (Below.refl _ _) _), Wr.new wx, h.one.lt⟩
theorem Wg.step {w wx wy : World} {t : TypeId} {arr : Array Value} {a : Nat} {st st' : Option (List UInt8)} (h : Wg w t arr a st wx) (hw : Wr wy a st') (hg : wx.grownBy wy (some a)) : Wg w t arr a st' wy :=
  ⟨⟨h.box.below.trans (below_of_grow hg h.box.below.size (by have := h.ne; omega)), h.box.one.kept hg (by have := h.ne; simp; omega)⟩, hw, h.ne⟩
/-- A patch as a value. -/
def pv (c : Bool) (a n : Int) (s : ByteArray) : Value := .agg #[.bool c, .int .i64 a, .int .i64 n, .string s]
end Go.Proofs.YthledgkjfjdjoaaGreat.Bk
