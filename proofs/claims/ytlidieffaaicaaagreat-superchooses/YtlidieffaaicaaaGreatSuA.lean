/- Words: a boxed block of the call; two blocks of superblocks. Conditions: none. -/
import Derived.Test.YtlidieffaaicaaaGreatSuC
namespace Go.Proofs.YtlidieffaaicaaaGreat
open Go.ChangeShapes Go.WideShapes Go.RowKit Go.Codec Go.Super
set_option maxRecDepth 100000
/-- A block that the call boxed, and what it made behind it. -/
structure Box (w : World) (t : TypeId) (arr : Array Value) (wx : World) : Prop where
  one : Is wx w.heap.size t arr
  below : Below w.heap.size w wx
section
variable {w wx wy : World} {t : TypeId} {arr : Array Value}
theorem Box.new (w : World) (t : TypeId) (arr : Array Value) : Box w t arr (w.alloc (.cells arr t)) := ⟨Is.new w t arr, below_box w _⟩
theorem Box.later (h : Box w t arr wx) (hb : Below wx.heap.size wx wy) : Box w t arr wy := ⟨is_below h.one hb, h.below.trans (hb.mono h.below.size)⟩
theorem Box.alloc (h : Box w t arr wx) (o : Obj) : Box w t arr (wx.alloc o) := h.later (below_box wx o)
theorem Box.drew (h : Box w t arr wx) : Box w t arr wx.drew := ⟨h.one, h.below.trans ⟨rfl, rfl, rfl, Nat.le_refl _, fun _ _ => rfl⟩⟩
theorem Box.carry {f : Nat} {args : Array Value} {R : Ending → Prop} (h : Box w t arr wy) (hc : Calls Tryz.prog f args wy fun e w' => R e ∧ Below wy.heap.size wy w') : Calls Tryz.prog f args wy fun e w' => R e ∧ Box w t arr w' :=
  hc.mono fun _ _ ⟨he, hb⟩ => ⟨he, h.later hb⟩
theorem Box.c5 {a b c d e : Value} (h : Box w t #[a, b, c, d, e] wx) : wx.cell? ⟨w.heap.size, 0, none⟩ = some a ∧ wx.cell? ⟨w.heap.size, 1, none⟩ = some b ∧ wx.cell? ⟨w.heap.size, 2, none⟩ = some c ∧ wx.cell? ⟨w.heap.size, 3, none⟩ = some d ∧ wx.cell? ⟨w.heap.size, 4, none⟩ = some e := is5 h.one
end
/-- Two blocks of superblocks. -/
structure B2 (w : World) (t : TypeId) (arr : Array Value) (X : Nat) (brr : Array Value) (wx : World) : Prop where
  box : Box w t arr wx
  two : Is wx X t brr
  ne : w.heap.size < X
theorem B2.new {w wx : World} {t : TypeId} {arr : Array Value} (h : Box w t arr wx) (brr : Array Value) : B2 w t arr wx.heap.size brr (wx.alloc (.cells brr t)) := ⟨h.alloc _, Is.new _ _ _, h.one.lt⟩
theorem B2.put {w wx : World} {t : TypeId} {arr brr : Array Value} {X : Nat} (h : B2 w t arr X brr wx) (i : Nat) (u : Value) : B2 w t arr X (brr.setIfInBounds i u) (wx.setCell ⟨X, i, none⟩ u) :=
  ⟨⟨h.box.one.other (by have := h.ne; simp only; omega) u, h.box.below.setCell (Nat.le_of_lt h.ne) u⟩, h.two.put i u, h.ne⟩
theorem B2.later {w wx wy : World} {t : TypeId} {arr brr : Array Value} {X : Nat} (h : B2 w t arr X brr wx) (hb : Below wx.heap.size wx wy) : B2 w t arr X brr wy := ⟨h.box.later hb, is_below h.two hb, h.ne⟩
end Go.Proofs.YtlidieffaaicaaaGreat
