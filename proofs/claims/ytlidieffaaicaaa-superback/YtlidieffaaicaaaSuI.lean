/- A superblock's text and slot, and the superblock that a text is, are as the document says. Conditions: numbers of 64 bits. -/
import Derived.Test.YtlidieffaaicaaaSuH
namespace Go.Proofs.Ytlidieffaaicaaa
open Go.ChangeShapes Go.WideShapes Go.RowKit Go.Codec Go.Super
set_option maxRecDepth 100000
set_option linter.unusedSimpArgs false
/-- Three blocks of superblocks: of the law's, of two answers. -/
structure P3 (w : World) (a : Array Value) (X : Nat) (b : Array Value) (Y : Nat) (c : Array Value) (wx : World) : Prop where
  box : Box w 24 a wx
  two : Is wx X 24 b
  three : Is wx Y 31 c
section
variable {w wx wy : World} {a b c : Array Value} {X Y : Nat}
theorem P3.later (h : P3 w a X b Y c wx) (hb : Below wx.heap.size wx wy) : P3 w a X b Y c wy := ⟨h.box.later hb, is_below h.two hb, is_below h.three hb⟩
theorem P3.drew (h : P3 w a X b Y c wx) : P3 w a X b Y c wx.drew := ⟨h.box.drew, h.two, h.three⟩
theorem P3.carry {f : Nat} {args : Array Value} {R : Ending → Prop} (h : P3 w a X b Y c wy) (hc : Calls Try.prog f args wy fun e w' => R e ∧ Below wy.heap.size wy w') : Calls Try.prog f args wy fun e w' => R e ∧ P3 w a X b Y c w' :=
  hc.mono fun _ _ ⟨he, hb⟩ => ⟨he, h.later hb⟩
theorem P3.cells {a0 a1 a2 a3 a4 b0 b1 b2 b3 b4 c0 c1 c2 c3 c4 : Value} (h : P3 w #[a0, a1, a2, a3, a4] X #[b0, b1, b2, b3, b4] Y #[c0, c1, c2, c3, c4] wx) :
    wx.cell? ⟨w.heap.size, 0, none⟩ = some a0 ∧ (wx.cell? ⟨X, 0, none⟩ = some b0 ∧ wx.cell? ⟨X, 1, none⟩ = some b1 ∧ wx.cell? ⟨X, 2, none⟩ = some b2 ∧ wx.cell? ⟨X, 3, none⟩ = some b3 ∧ wx.cell? ⟨X, 4, none⟩ = some b4)
      ∧ (wx.cell? ⟨Y, 0, none⟩ = some c0 ∧ wx.cell? ⟨Y, 1, none⟩ = some c1 ∧ wx.cell? ⟨Y, 2, none⟩ = some c2 ∧ wx.cell? ⟨Y, 3, none⟩ = some c3 ∧ wx.cell? ⟨Y, 4, none⟩ = some c4) :=
  ⟨h.box.c5.1, is5 h.two, is5 h.three⟩
end
theorem puts_long (g c : Nat) (r i n : Int) (t : ByteArray) (ht : 5000 < t.size) (w : World) : Calls Try.prog 3 #[.agg #[.int .u64 g, .int .u64 c, .int .i64 r, .int .i64 i, .int .i64 n], .string t] w fun e w' => e = .returned (.bool true) ∧ Below w.heap.size w w' := by
  have HW := Lib.hid works_c
  have h1 : (5000 : Int) < (t.size : Int) := by omega
  have HX := Lib.hid (Box.new w 24 #[.int .u64 g, .int .u64 c, .int .i64 r, .int .i64 i, .int .i64 n])
  go_enter Try.func3, Try.ntmps3
  go_wp2_with fail
  refine (HW.out _).mono ?_; rintro e w1 ⟨rfl, hb⟩
  have HA := Lib.hid (HX.out.later hb)
  clear hb
  go_wp2_with fail
  go_ret
  exact ⟨rfl, HA.out.below⟩
set_option maxHeartbeats 4000000 in
theorem puts_short (g c : Nat) (r i n : Int) (hg : g < 18446744073709551616) (hc : c < 18446744073709551616) (t : ByteArray) (ht : t.size ≤ 5000) (w : World) : Calls Try.prog 3 #[.agg #[.int .u64 g, .int .u64 c, .int .i64 r, .int .i64 i, .int .i64 n], .string t] w fun e w' => e = .returned (.bool true) ∧ Below w.heap.size w w' := by
  have HW := Lib.hid works_c
  have h1 : ¬ (5000 : Int) < (t.size : Int) := by omega
  have H1 := Lib.hid (fun w' => put_c ⟨g, c, r, i, n⟩ w')
  have H2 := Lib.hid (fun w' => rput_c ⟨g, c, r, i, n⟩ hg hc w')
  have H3 := Lib.hid (fun w' => take_c t (by omega) w')
  have H4 := Lib.hid (fun w' => rtake_c t (by omega) w')
  simp only at H1 H2
  generalize bs (put ⟨g, c, r, i, n⟩).1 = q at *
  generalize (put ⟨g, c, r, i, n⟩).2 = x at *
  generalize (tk t.data.toList).2 = y at *
  generalize (tk t.data.toList).1 = z at *
  obtain ⟨z0, z1, z2, z3, z4⟩ := z
  simp only at H3 H4
  have n4 : ∀ wx, Calls Try.prog 10 #[.int .u64 g] wx fun e w' => e = .returned (.int .i64 (g % 2 : Nat)) ∧ Below wx.heap.size wx w' := fun wx => eqB (slot_c g hg wx)
  have n5 : ∀ wx, Calls Try.prog 11 #[.int .u64 g] wx fun e w' => e = .returned (.int .i64 (g % 2 : Nat)) ∧ Below wx.heap.size wx w' := fun wx => eqB (rslot_c g hg wx)
  generalize ((g % 2 : Nat) : Int) = sl at *
  have HX := Lib.hid (Box.new w 24 #[.int .u64 g, .int .u64 c, .int .i64 r, .int .i64 i, .int .i64 n])
  obtain ⟨c0, c1, c2, c3, c4⟩ := HX.out.c5
  clear ht
  go_enter Try.func3, Try.ntmps3
  go_wp2_with fail
  refine (H1.out _).mono ?_; rintro e w1 ⟨rfl, hb⟩
  have HA := Lib.hid (HX.out.later hb)
  clear hb c0 c1 c2 c3 c4 HX H1
  obtain ⟨c0, c1, c2, c3, c4⟩ := HA.out.c5
  go_wp2_with fail
  refine (H2.out _).mono ?_; rintro e w2 ⟨rfl, hb⟩
  have HB := Lib.hid (HA.out.later hb)
  clear hb c0 c1 c2 c3 c4 HA H2
  go_wp2_with fail
  refine (H3.out _).mono ?_; rintro e w3 ⟨rfl, hb⟩
  have HC := Lib.hid (HB.out.later hb)
  clear hb HB H3
  go_wp2_with fail
  have ia := Is.new w3 24 #[.int .u64 z0, .int .u64 z1, .int .i64 z2, .int .i64 z3, .int .i64 z4]
  have ib := HC.out.alloc (.cells #[.int .u64 z0, .int .u64 z1, .int .i64 z2, .int .i64 z3, .int .i64 z4] 24)
  have I1 := Lib.hid ia
  have I2 := Lib.hid ib
  clear ia ib HC
  refine (H4.out _).mono ?_; rintro e w4 ⟨rfl, hb⟩
  have ja := Is.new w4 31 #[.int .u64 z0, .int .u64 z1, .int .i64 z2, .int .i64 z3, .int .i64 z4]
  have hp : P3 w #[.int .u64 g, .int .u64 c, .int .i64 r, .int .i64 i, .int .i64 n] w3.heap.size #[.int .u64 z0, .int .u64 z1, .int .i64 z2, .int .i64 z3, .int .i64 z4] w4.heap.size #[.int .u64 z0, .int .u64 z1, .int .i64 z2, .int .i64 z3, .int .i64 z4] (w4.alloc (.cells #[.int .u64 z0, .int .u64 z1, .int .i64 z2, .int .i64 z3, .int .i64 z4] 31)) :=
    ⟨(I2.out.later hb).alloc _, (is_below I1.out hb).alloc _, ja⟩
  have hpd := hp.drew
  have C4 := Lib.hid (fun wx (hx : P3 w #[.int .u64 g, .int .u64 c, .int .i64 r, .int .i64 i, .int .i64 n] w3.heap.size #[.int .u64 z0, .int .u64 z1, .int .i64 z2, .int .i64 z3, .int .i64 z4] w4.heap.size #[.int .u64 z0, .int .u64 z1, .int .i64 z2, .int .i64 z3, .int .i64 z4] wx) => hx.carry (n4 wx))
  have C5 := Lib.hid (fun wx (hx : P3 w #[.int .u64 g, .int .u64 c, .int .i64 r, .int .i64 i, .int .i64 n] w3.heap.size #[.int .u64 z0, .int .u64 z1, .int .i64 z2, .int .i64 z3, .int .i64 z4] w4.heap.size #[.int .u64 z0, .int .u64 z1, .int .i64 z2, .int .i64 z3, .int .i64 z4] wx) => hx.carry (n5 wx))
  have C6 := Lib.hid (fun wx (hx : P3 w #[.int .u64 g, .int .u64 c, .int .i64 r, .int .i64 i, .int .i64 n] w3.heap.size #[.int .u64 z0, .int .u64 z1, .int .i64 z2, .int .i64 z3, .int .i64 z4] w4.heap.size #[.int .u64 z0, .int .u64 z1, .int .i64 z2, .int .i64 z3, .int .i64 z4] wx) => hx.carry (HW.out wx))
  clear hb ja I1 I2 n4 n5 H4 HW
  go_wp2_with fail
  go_region_held3 (fun wx => wx.cell? ⟨w.heap.size, 0, none⟩ = some (.int .u64 g) ∧ (wx.cell? ⟨w3.heap.size, 0, none⟩ = some (.int .u64 z0) ∧ wx.cell? ⟨w3.heap.size, 1, none⟩ = some (.int .u64 z1) ∧ wx.cell? ⟨w3.heap.size, 2, none⟩ = some (.int .i64 z2) ∧ wx.cell? ⟨w3.heap.size, 3, none⟩ = some (.int .i64 z3) ∧ wx.cell? ⟨w3.heap.size, 4, none⟩ = some (.int .i64 z4))
      ∧ (wx.cell? ⟨w4.heap.size, 0, none⟩ = some (.int .u64 z0) ∧ wx.cell? ⟨w4.heap.size, 1, none⟩ = some (.int .u64 z1) ∧ wx.cell? ⟨w4.heap.size, 2, none⟩ = some (.int .i64 z2) ∧ wx.cell? ⟨w4.heap.size, 3, none⟩ = some (.int .i64 z3) ∧ wx.cell? ⟨w4.heap.size, 4, none⟩ = some (.int .i64 z4)))
    (first | (with_reducible exact P3.cells (by assumption)))
    (first
      | (with_reducible refine (C4.out _ (by assumption)).mono ?_; rintro e w1 ⟨rfl, hp⟩)
      | (with_reducible refine (C5.out _ (by assumption)).mono ?_; rintro e w1 ⟨rfl, hp⟩)
      | (with_reducible refine (C6.out _ (by assumption)).mono ?_; rintro e w1 ⟨rfl, hp⟩))
  all_goals
    go_wp2_with fail
    go_ret
    exact ⟨rfl, hp.box.below⟩
theorem puts_c (s : S) (hg : s.gen < 18446744073709551616) (hc : s.calls < 18446744073709551616) (t : ByteArray) (w : World) : Calls Try.prog 3 #[.agg #[.int .u64 s.gen, .int .u64 s.calls, .int .i64 s.root, .int .i64 s.table, .int .i64 s.secs], .string t] w fun e w' => e = .returned (.bool true) ∧ Below w.heap.size w w' := by
  by_cases ht : 5000 < t.size
  · exact puts_long _ _ _ _ _ t ht w
  · exact puts_short _ _ _ _ _ hg hc t (by omega) w
end Go.Proofs.Ytlidieffaaicaaa
