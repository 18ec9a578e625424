/- The texts of metas and of changes, by the program. Conditions: bytes below 256, marks of 64 bits. -/
import Derived.Test.YthledgkjfjdjoaaGreatMtB
namespace Go.Proofs.YthledgkjfjdjoaaGreat.Mt
open Go.ChangeShapes Go.WideShapes Go.RowKit Go.Codec Go.Num Go.Mt
set_option maxRecDepth 100000
/-- A boxed value, and a writer that was made behind it. -/
structure Wg (w : World) (t : TypeId) (arr : Array Value) (a : Nat) (st : Option (List UInt8)) (wx : World) : Prop where
  box : Box w t arr wx
  wr : Wr wx a st
  ne : w.heap.size < a
theorem Wg.new {w wx : World} {t : TypeId} {arr : Array Value} (h : Box w t arr wx) : Wg w t arr wx.heap.size (some []) (wx.alloc (.cells #[.pointer none, .int .i64 0, .int .i64 0] 57)) :=
  ⟨h.later (below_alloc (Below.refl _ _) _), Wr.new wx, h.one.lt⟩
theorem Wg.step {w wx wy : World} {t : TypeId} {arr : Array Value} {a : Nat} {st st' : Option (List UInt8)} (h : Wg w t arr a st wx) (hw : Wr wy a st') (hg : wx.grownBy wy (some a)) : Wg w t arr a st' wy :=
  ⟨⟨h.box.below.trans (below_of_grow hg h.box.below.size (by have := h.ne; omega)), h.box.one.kept hg (by have := h.ne; simp; omega)⟩, hw, h.ne⟩
theorem wlen_more (st : Option (List UInt8)) (l : List UInt8) : wlen (more st l) ≤ wlen st + l.length := by
  cases st with
  | none => simp [more, wlen]
  | some x => simp [more, wlen]
set_option maxHeartbeats 4000000 in
theorem put_no (k sz mk st : Nat) (w : World) (H : ∀ w, Calls Tryz.prog 120 #[.agg #[.int .u8 k, .int .u32 sz, .int .u64 mk, .int .u64 st]] w fun e w' => e = .returned (.int .i64 4) ∧ Below w.heap.size w w') :
    Calls Tryz.prog 105 #[.agg #[.int .u8 k, .int .u32 sz, .int .u64 mk, .int .u64 st]] w fun e w' => e = .returned (.tuple #[.string (bs []), .int .i64 4]) ∧ Below w.heap.size w w' := by
  have HX := Lib.hid (Box.new w 89 #[.int .u8 k, .int .u32 sz, .int .u64 mk, .int .u64 st])
  go_enter Tryz.func105, Tryz.ntmps105
  go_wp2_with fail
  refine (H _).mono ?_; rintro e w1 ⟨rfl, hb⟩
  have HY := Lib.hid (HX.out.later hb)
  clear hb
  go_wp2_with fail
  go_ret2
  exact ⟨rfl, HY.out.below⟩
set_option maxHeartbeats 4000000 in
theorem put_yes (k sz mk st : Nat) (hk : k < 256) (w : World) (H : ∀ w, Calls Tryz.prog 120 #[.agg #[.int .u8 k, .int .u32 sz, .int .u64 mk, .int .u64 st]] w fun e w' => e = .returned (.int .i64 0) ∧ Below w.heap.size w w') :
    Calls Tryz.prog 105 #[.agg #[.int .u8 k, .int .u32 sz, .int .u64 mk, .int .u64 st]] w fun e w' => e = .returned (.tuple #[.string (bs (textM k sz mk st)), .int .i64 0]) ∧ Below w.heap.size w w' := by
  have HX := Lib.hid (Box.new w 89 #[.int .u8 k, .int .u32 sz, .int .u64 mk, .int .u64 st])
  go_enter Tryz.func105, Tryz.ntmps105
  go_wp2_with fail
  refine (H _).mono ?_; rintro e w1 ⟨rfl, hb⟩
  have HW := Lib.hid (Wg.new (HX.out.later hb))
  clear hb HX
  obtain ⟨c0, c1, c2, c3⟩ := HW.out.box.cells
  go_wp2_with fail
  refine (u8_any _ k hk _ _ HW.out.wr (by simp [wlen])).mono ?_; rintro e w2 ⟨rfl, h1, h2⟩
  have HV := Lib.hid (HW.out.step h1 h2)
  clear h1 h2 HW c0 c1 c2 c3
  obtain ⟨c0, c1, c2, c3⟩ := HV.out.box.cells
  go_wp2_with fail
  refine (u32_any _ sz _ _ HV.out.wr (by simp [wlen, more, be_length])).mono ?_; rintro e w3 ⟨rfl, h1, h2⟩
  have HU := Lib.hid (HV.out.step h1 h2)
  clear h1 h2 HV c0 c1 c2 c3
  obtain ⟨c0, c1, c2, c3⟩ := HU.out.box.cells
  go_wp2_with fail
  refine (u64_any _ mk _ _ HU.out.wr (by simp [wlen, more, be_length])).mono ?_; rintro e w4 ⟨rfl, h1, h2⟩
  have HT := Lib.hid (HU.out.step h1 h2)
  clear h1 h2 HU c0 c1 c2 c3
  obtain ⟨c0, c1, c2, c3⟩ := HT.out.box.cells
  go_wp2_with fail
  refine (u64_any _ st _ _ HT.out.wr (by simp [wlen, more, be_length])).mono ?_; rintro e w5 ⟨rfl, h1, h2⟩
  have HS := Lib.hid (HT.out.step h1 h2)
  clear h1 h2 HT c0 c1 c2 c3
  go_wp2_with fail
  refine (bytes_any _ _ _ HS.out.wr (by simp [wlen, more, be_length])).mono ?_; rintro e w6 ⟨rfl, hb⟩
  have HR := Lib.hid (HS.out.box.later hb)
  clear hb HS
  go_wp2_with fail
  go_ret2
  exact ⟨by simp [told, more, textM], HR.out.below⟩
theorem put_any (k sz mk st : Nat) (hk : k < 256) (hm : mk < 18446744073709551616) (w : World) :
    Calls Tryz.prog 105 #[.agg #[.int .u8 k, .int .u32 sz, .int .u64 mk, .int .u64 st]] w fun e w' => e = .returned (.tuple #[.string (bs (putM k sz mk st)), .int .i64 (ckM k sz mk : Nat)]) ∧ Below w.heap.size w w' := by
  have H := check_any k sz mk st hm
  cases h : mayM k sz mk with
  | true =>
    have e1 : putM k sz mk st = textM k sz mk st := by simp [putM, h]
    have e2 : ckM k sz mk = 0 := by simp [ckM, h]
    rw [e1, e2]; rw [e2] at H
    exact put_yes k sz mk st hk w H
  | false =>
    have e1 : putM k sz mk st = [] := by simp [putM, h]
    have e2 : ckM k sz mk = 4 := by simp [ckM, h]
    rw [e1, e2]; rw [e2] at H
    exact put_no k sz mk st w H
end Go.Proofs.YthledgkjfjdjoaaGreat.Mt
