/- A patch's text, by the program. Conditions: lengths below 2^40. -/
import Derived.Test.YtadfccgoooafoaaBkE
namespace Go.Proofs.Ytadfccgoooafoaa
open Go.ChangeShapes Go.WideShapes Go.RowKit Go.Codec Go.Blk
set_option maxRecDepth 100000
/-- One boxed value: what lies in it, and that nothing older has turned. -/
structure Box (w : World) (t : TypeId) (a : Array Value) (wx : World) : Prop where
  below : Below w.heap.size w wx
  one : Is wx w.heap.size t a
section
variable {w wx wy : World} {t : TypeId} {a : Array Value}
theorem Box.new (w : World) (t : TypeId) (a : Array Value) : Box w t a (w.alloc (.cells a t)) := ⟨below_alloc (Below.refl _ _) _, Is.new _ _ _⟩
theorem Box.later (h : Box w t a wx) (hb : Below wx.heap.size wx wy) : Box w t a wy :=
  ⟨h.below.trans (hb.mono h.below.size), h.one.kept (grow_below hb none) (by simp)⟩
theorem Box.drew (h : Box w t a wx) : Box w t a wx.drew := ⟨h.below.drew, h.one⟩
theorem Box.cells {a b c d : Value} (h : Box w t #[a, b, c, d] wx) : wx.cell? ⟨w.heap.size, 0, none⟩ = some a ∧ wx.cell? ⟨w.heap.size, 1, none⟩ = some b ∧ wx.cell? ⟨w.heap.size, 2, none⟩ = some c ∧ wx.cell? ⟨w.heap.size, 3, none⟩ = some d :=
  ⟨h.one.cell 0, h.one.cell 1, h.one.cell 2, h.one.cell 3⟩
end
/-- A boxed value, and a writer that was made behind it. -/
structure Wg (w : World) (t : TypeId) (arr : Array Value) (a : Nat) (st : Option (List UInt8)) (wx : World) : Prop where
  box : Box w t arr wx
  wr : Wr wx a st
  ne : w.heap.size < a
theorem Wg.new {w wx : World} {t : TypeId} {arr : Array Value} (h : Box w t arr wx) : Wg w t arr wx.heap.size (some []) (wx.alloc (.cells #[.pointer none, .int .i64 0, .int .i64 0] 52)) :=
  ⟨h.later (below_alloc (Below.refl _ _) _), Wr.new wx, h.one.lt⟩
theorem Wg.step {w wx wy : World} {t : TypeId} {arr : Array Value} {a : Nat} {st st' : Option (List UInt8)} (h : Wg w t arr a st wx) (hw : Wr wy a st') (hg : wx.grownBy wy (some a)) : Wg w t arr a st' wy :=
  ⟨⟨h.box.below.trans (below_of_grow hg h.box.below.size (by have := h.ne; omega)), h.box.one.kept hg (by have := h.ne; simp; omega)⟩, hw, h.ne⟩
/-- A patch as a value. -/
def pv (c : Bool) (a n : Int) (s : ByteArray) : Value := .agg #[.bool c, .int .i64 a, .int .i64 n, .string s]
set_option maxHeartbeats 4000000 in
theorem put_no (c : Bool) (a n : Int) (s : ByteArray) (w : World) (H : ∀ w, Calls Try.prog 28 #[.agg #[.bool c, .int .i64 a, .int .i64 n, .string s]] w fun e w' => e = .returned (.bool false) ∧ Below w.heap.size w w') :
    Calls Try.prog 16 #[.agg #[.bool c, .int .i64 a, .int .i64 n, .string s]] w fun e w' => e = .returned (.tuple #[.string (bs []), .int .i64 4]) ∧ Below w.heap.size w w' := by
  have HX := Lib.hid (Box.new w 30 #[.bool c, .int .i64 a, .int .i64 n, .string s])
  go_enter Try.func16, Try.ntmps16
  go_wp2_with fail
  refine (H _).mono ?_; rintro e w1 ⟨rfl, hb⟩
  have HY := Lib.hid (HX.out.later hb)
  clear hb
  go_wp2_with fail
  go_ret2
  exact ⟨rfl, HY.out.below⟩
set_option maxHeartbeats 4000000 in
theorem put_cut (n : Nat) (s : ByteArray) (hn : n < 64) (w : World) (H : ∀ w, Calls Try.prog 28 #[.agg #[.bool true, .int .i64 0, .int .i64 n, .string s]] w fun e w' => e = .returned (.bool true) ∧ Below w.heap.size w w') :
    Calls Try.prog 16 #[.agg #[.bool true, .int .i64 0, .int .i64 n, .string s]] w fun e w' => e = .returned (.tuple #[.string (bs (be 1 2 ++ be 1 n)), .int .i64 0]) ∧ Below w.heap.size w w' := by
  have HX := Lib.hid (Box.new w 30 #[.bool true, .int .i64 0, .int .i64 n, .string s])
  have hcv : (n : Int) % 256 = (n : Int) := by omega
  go_enter Try.func16, Try.ntmps16
  go_wp2_with fail
  refine (H _).mono ?_; rintro e w1 ⟨rfl, hb⟩
  have HW := Lib.hid (Wg.new (HX.out.later hb))
  clear hb HX
  obtain ⟨c0, c1, c2, c3⟩ := HW.out.box.cells
  go_wp2_with fail
  refine (u8_any _ 2 (by decide) _ _ HW.out.wr (by simp [wlen])).mono ?_; rintro e w2 ⟨rfl, h1, h2⟩
  have HV := Lib.hid (HW.out.step h1 h2)
  clear h1 h2 HW c0 c1 c2 c3
  obtain ⟨c0, c1, c2, c3⟩ := HV.out.box.cells
  go_wp2_with fail
  refine (u8_any _ n (by omega) _ _ HV.out.wr (by simp [wlen, more, be_length])).mono ?_; rintro e w3 ⟨rfl, h1, h2⟩
  have HS := Lib.hid (HV.out.step h1 h2)
  clear h1 h2 HV c0 c1 c2 c3
  go_wp2_with fail
  refine (bytes_any _ _ _ HS.out.wr (by simp [wlen, more, be_length])).mono ?_; rintro e w6 ⟨rfl, hb⟩
  have HR := Lib.hid (HS.out.box.later hb)
  clear hb HS
  go_wp2_with fail
  go_ret2
  exact ⟨by simp [told, more], HR.out.below⟩
set_option maxHeartbeats 4000000 in
theorem put_splice (a : Nat) (s : ByteArray) (ha : a ≤ 64) (hs : s.size ≤ 64) (w : World) (H : ∀ w, Calls Try.prog 28 #[.agg #[.bool false, .int .i64 a, .int .i64 0, .string s]] w fun e w' => e = .returned (.bool true) ∧ Below w.heap.size w w') :
    Calls Try.prog 16 #[.agg #[.bool false, .int .i64 a, .int .i64 0, .string s]] w fun e w' => e = .returned (.tuple #[.string (bs (be 1 1 ++ be 1 a ++ (be 2 s.data.toList.length ++ s.data.toList))), .int .i64 0]) ∧ Below w.heap.size w w' := by
  have HX := Lib.hid (Box.new w 30 #[.bool false, .int .i64 a, .int .i64 0, .string s])
  have hcv : (a : Int) % 256 = (a : Int) := by omega
  have hl : s.data.toList.length ≤ 64 := by rw [← Lib.size_eq]; exact hs
  go_enter Try.func16, Try.ntmps16
  go_wp2_with fail
  refine (H _).mono ?_; rintro e w1 ⟨rfl, hb⟩
  have HW := Lib.hid (Wg.new (HX.out.later hb))
  clear hb HX
  obtain ⟨c0, c1, c2, c3⟩ := HW.out.box.cells
  go_wp2_with fail
  refine (u8_any _ 1 (by decide) _ _ HW.out.wr (by simp [wlen])).mono ?_; rintro e w2 ⟨rfl, h1, h2⟩
  have HV := Lib.hid (HW.out.step h1 h2)
  clear h1 h2 HW c0 c1 c2 c3
  obtain ⟨c0, c1, c2, c3⟩ := HV.out.box.cells
  go_wp2_with fail
  refine (u8_any _ a (by omega) _ _ HV.out.wr (by simp [wlen, more, be_length])).mono ?_; rintro e w3 ⟨rfl, h1, h2⟩
  have HU := Lib.hid (HV.out.step h1 h2)
  clear h1 h2 HV c0 c1 c2 c3
  obtain ⟨c0, c1, c2, c3⟩ := HU.out.box.cells
  go_wp2_with fail
  refine (text_any _ s _ _ HU.out.wr (by simp [wlen, more, be_length]; omega)).mono ?_; rintro e w4 ⟨rfl, h1, h2⟩
  have HS := Lib.hid (HU.out.step h1 h2)
  clear h1 h2 HU c0 c1 c2 c3
  have em : moreText (more (more (some []) (be 1 1)) (be 1 a)) s.data.toList = some (be 1 1 ++ be 1 a ++ (be 2 s.data.toList.length ++ s.data.toList)) := by
    rw [moreText, if_neg (by omega)]
    simp [more]
  rw [em] at HS
  clear em
  go_wp2_with fail
  refine (bytes_any _ _ _ HS.out.wr (by simp only [wlen, List.length_append, be_length]; omega)).mono ?_; rintro e w6 ⟨rfl, hb⟩
  have HR := Lib.hid (HS.out.box.later hb)
  clear hb HS
  go_wp2_with fail
  go_ret2
  exact ⟨by simp [told], HR.out.below⟩
theorem put_any (c : Bool) (a n : Int) (s : ByteArray) (hs : s.size ≤ 1099511627776) (w : World) :
    Calls Try.prog 16 #[.agg #[.bool c, .int .i64 a, .int .i64 n, .string s]] w fun e w' => e = .returned (.tuple #[.string (bs (putP c a n s.data.toList)), .int .i64 (ckP c a n s.data.toList : Nat)]) ∧ Below w.heap.size w w' := by
  have H := mayBe_any c a n s hs
  cases h : may c a n s.data.toList with
  | false =>
    have e1 : putP c a n s.data.toList = [] := by simp [putP, h]
    have e2 : ckP c a n s.data.toList = 4 := by simp [ckP, h]
    rw [e1, e2]; rw [h] at H
    exact put_no c a n s w H
  | true =>
    have e1 : putP c a n s.data.toList = textP c a.toNat n.toNat s.data.toList := by simp [putP, h]
    have e2 : ckP c a n s.data.toList = 0 := by simp [ckP, h]
    rw [e1, e2]; rw [h] at H
    cases c with
    | true =>
      obtain ⟨h1, h2, h3, h4⟩ := may_cut.1 h
      subst h3
      obtain ⟨k, rfl⟩ := Int.eq_ofNat_of_zero_le h1
      exact put_cut k s (by omega) w H
    | false =>
      obtain ⟨h1, h2, h3, h4⟩ := may_splice.1 h
      subst h4
      obtain ⟨k, rfl⟩ := Int.eq_ofNat_of_zero_le h2
      have hl : s.data.toList.length = s.size := (Lib.size_eq s).symm
      exact put_splice k s (by omega) (by omega) w H
end Go.Proofs.Ytadfccgoooafoaa
