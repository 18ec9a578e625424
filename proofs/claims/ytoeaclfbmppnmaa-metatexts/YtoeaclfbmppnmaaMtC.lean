/- The texts of metas and of changes, by the program. Conditions: bytes below 256, marks of 64 bits. -/
import Derived.Test.YtoeaclfbmppnmaaMtB
namespace Go.Proofs.Ytoeaclfbmppnmaa
open Go.ChangeShapes Go.WideShapes Go.RowKit Go.Codec Go.Num Go.Mt
set_option maxRecDepth 100000
/-- A boxed value, and a writer that was made behind it. -/
structure Wg (w : World) (t : TypeId) (arr : Array Value) (a : Nat) (st : Option (List UInt8)) (wx : World) : Prop where
  box : Box w t arr wx
  wr : Wr wx a st
  ne : w.heap.size < a
theorem Wg.new {w wx : World} {t : TypeId} {arr : Array Value} (h : Box w t arr wx) : Wg w t arr wx.heap.size (some []) (wx.alloc (.cells #[.pointer none, .int .i64 0, .int .i64 0] 64)) :=
  ⟨h.later (below_alloc (Below.refl _ _) _), Wr.new wx, h.one.lt⟩
theorem Wg.step {w wx wy : World} {t : TypeId} {arr : Array Value} {a : Nat} {st st' : Option (List UInt8)} (h : Wg w t arr a st wx) (hw : Wr wy a st') (hg : wx.grownBy wy (some a)) : Wg w t arr a st' wy :=
  ⟨⟨h.box.below.trans (below_of_grow hg h.box.below.size (by have := h.ne; omega)), h.box.one.kept hg (by have := h.ne; simp; omega)⟩, hw, h.ne⟩
theorem wlen_more (st : Option (List UInt8)) (l : List UInt8) : wlen (more st l) ≤ wlen st + l.length := by
  cases st with
  | none => simp [more, wlen]
  | some x => simp [more, wlen]
set_option maxHeartbeats 4000000 in
theorem put_no (k sz mk st : Nat) (w : World) (H : ∀ w, Calls Try.prog 14 #[.agg #[.int .u8 k, .int .u32 sz, .int .u64 mk, .int .u64 st]] w fun e w' => e = .returned (.int .i64 4) ∧ Below w.heap.size w w') :
    Calls Try.prog 10 #[.agg #[.int .u8 k, .int .u32 sz, .int .u64 mk, .int .u64 st]] w fun e w' => e = .returned (.tuple #[.string (bs []), .int .i64 4]) ∧ Below w.heap.size w w' := by
  have HX := Lib.hid (Box.new w 25 #[.int .u8 k, .int .u32 sz, .int .u64 mk, .int .u64 st])
  go_enter Try.func10, Try.ntmps10
  go_wp2_with fail
  refine (H _).mono ?_; rintro e w1 ⟨rfl, hb⟩
  have HY := Lib.hid (HX.out.later hb)
  clear hb
  go_wp2_with fail
  go_ret2
  exact ⟨rfl, HY.out.below⟩
set_option maxHeartbeats 4000000 in
theorem put_yes (k sz mk st : Nat) (hk : k < 256) (w : World) (H : ∀ w, Calls Try.prog 14 #[.agg #[.int .u8 k, .int .u32 sz, .int .u64 mk, .int .u64 st]] w fun e w' => e = .returned (.int .i64 0) ∧ Below w.heap.size w w') :
    Calls Try.prog 10 #[.agg #[.int .u8 k, .int .u32 sz, .int .u64 mk, .int .u64 st]] w fun e w' => e = .returned (.tuple #[.string (bs (textM k sz mk st)), .int .i64 0]) ∧ Below w.heap.size w w' := by
  have HX := Lib.hid (Box.new w 25 #[.int .u8 k, .int .u32 sz, .int .u64 mk, .int .u64 st])
  go_enter Try.func10, Try.ntmps10
  go_wp2_with fail
  refine (H _).mono ?_; rintro e w1 ⟨rfl, hb⟩
  have HW := Lib.hid (Wg.new (HX.out.later hb))
  clear hb HX
  obtain ⟨c0, c1, c2, c3⟩ := HW.out.box.cells
  go_wp2_with fail
  refine (u8_any _ k hk _ _ HW.out.wr (by simp [wlen])).mono ?_; rintro e w2 ⟨rfl, h1, h2⟩
  have HV := Lib.hid (HW.out.step h1 h2)
  clear h1 h2 HW c0 c1 c2 c3
  obtain ⟨c0, c1, c2, c3⟩ := HV.out.box.cells
  go_wp2_with fail
  refine (u32_any _ sz _ _ HV.out.wr (by simp [wlen, more, be_length])).mono ?_; rintro e w3 ⟨rfl, h1, h2⟩
  have HU := Lib.hid (HV.out.step h1 h2)
  clear h1 h2 HV c0 c1 c2 c3
  obtain ⟨c0, c1, c2, c3⟩ := HU.out.box.cells
  go_wp2_with fail
  refine (u64_any _ mk _ _ HU.out.wr (by simp [wlen, more, be_length])).mono ?_; rintro e w4 ⟨rfl, h1, h2⟩
  have HT := Lib.hid (HU.out.step h1 h2)
  clear h1 h2 HU c0 c1 c2 c3
  obtain ⟨c0, c1, c2, c3⟩ := HT.out.box.cells
  go_wp2_with fail
  refine (u64_any _ st _ _ HT.out.wr (by simp [wlen, more, be_length])).mono ?_; rintro e w5 ⟨rfl, h1, h2⟩
  have HS := Lib.hid (HT.out.step h1 h2)
  clear h1 h2 HT c0 c1 c2 c3
  go_wp2_with fail
  refine (bytes_any _ _ _ HS.out.wr (by simp [wlen, more, be_length])).mono ?_; rintro e w6 ⟨rfl, hb⟩
  have HR := Lib.hid (HS.out.box.later hb)
  clear hb HS
  go_wp2_with fail
  go_ret2
  exact ⟨by simp [told, more, textM], HR.out.below⟩
theorem put_any (k sz mk st : Nat) (hk : k < 256) (hm : mk < 18446744073709551616) (w : World) :
    Calls Try.prog 10 #[.agg #[.int .u8 k, .int .u32 sz, .int .u64 mk, .int .u64 st]] w fun e w' => e = .returned (.tuple #[.string (bs (putM k sz mk st)), .int .i64 (ckM k sz mk : Nat)]) ∧ Below w.heap.size w w' := by
  have H := check_any k sz mk st hm
  cases h : mayM k sz mk with
  | true =>
    have e1 : putM k sz mk st = textM k sz mk st := by simp [putM, h]
    have e2 : ckM k sz mk = 0 := by simp [ckM, h]
    rw [e1, e2]; rw [e2] at H
    exact put_yes k sz mk st hk w H
  | false =>
    have e1 : putM k sz mk st = [] := by simp [putM, h]
    have e2 : ckM k sz mk = 4 := by simp [ckM, h]
    rw [e1, e2]; rw [e2] at H
    exact put_no k sz mk st w H
set_option maxHeartbeats 4000000 in
theorem putc_no (wh n op b : Nat) (w : World) (H : ∀ w, Calls Try.prog 42 #[.agg #[.int .u8 wh, .int .u64 n, .int .u8 op, .int .u64 b]] w fun e w' => e = .returned (.bool false) ∧ Below w.heap.size w w') :
    Calls Try.prog 15 #[.agg #[.int .u8 wh, .int .u64 n, .int .u8 op, .int .u64 b]] w fun e w' => e = .returned (.tuple #[.string (bs []), .int .i64 4]) ∧ Below w.heap.size w w' := by
  have HX := Lib.hid (Box.new w 41 #[.int .u8 wh, .int .u64 n, .int .u8 op, .int .u64 b])
  go_enter Try.func15, Try.ntmps15
  go_wp2_with fail
  refine (H _).mono ?_; rintro e w1 ⟨rfl, hb⟩
  have HY := Lib.hid (HX.out.later hb)
  clear hb
  go_wp2_with fail
  go_ret2
  exact ⟨rfl, HY.out.below⟩
set_option maxHeartbeats 4000000 in
theorem putc_1 (n op b : Nat) (hn : n ≤ 2048) (w : World) (H : ∀ w, Calls Try.prog 42 #[.agg #[.int .u8 1, .int .u64 n, .int .u8 op, .int .u64 b]] w fun e w' => e = .returned (.bool true) ∧ Below w.heap.size w w') :
    Calls Try.prog 15 #[.agg #[.int .u8 1, .int .u64 n, .int .u8 op, .int .u64 b]] w fun e w' => e = .returned (.tuple #[.string (bs (be 1 1 ++ be 4 n)), .int .i64 0]) ∧ Below w.heap.size w w' := by
  have HX := Lib.hid (Box.new w 41 #[.int .u8 1, .int .u64 n, .int .u8 op, .int .u64 b])
  have hcv : (n : Int) % 4294967296 = (n : Int) := by omega
  go_enter Try.func15, Try.ntmps15
  go_wp2_with fail
  refine (H _).mono ?_; rintro e w1 ⟨rfl, hb⟩
  have HV0 := Lib.hid (Wg.new (HX.out.later hb))
  clear hb HX
  obtain ⟨c0, c1, c2, c3⟩ := HV0.out.box.cells
  go_wp2_with fail
  refine (u8_any _ 1 (by decide) _ _ HV0.out.wr (by simp [wlen])).mono ?_; rintro e w2 ⟨rfl, h1, h2⟩
  have HV1 := Lib.hid (HV0.out.step h1 h2)
  clear h1 h2 HV0 c0 c1 c2 c3
  obtain ⟨c0, c1, c2, c3⟩ := HV1.out.box.cells
  go_wp2_with fail
  refine (u32_any _ n _ _ HV1.out.wr (by simp [wlen, more, be_length])).mono ?_; rintro e w2 ⟨rfl, h1, h2⟩
  have HV2 := Lib.hid (HV1.out.step h1 h2)
  clear h1 h2 HV1 c0 c1 c2 c3
  go_wp2_with fail
  refine (bytes_any _ _ _ HV2.out.wr (by simp [wlen, more, be_length])).mono ?_; rintro e w6 ⟨rfl, hb⟩
  have HR := Lib.hid (HV2.out.box.later hb)
  clear hb HV2
  go_wp2_with fail
  go_ret2
  exact ⟨by simp [told, more], HR.out.below⟩
set_option maxHeartbeats 4000000 in
theorem putc_2 (n op b : Nat) (hn : n ≤ 2048) (w : World) (H : ∀ w, Calls Try.prog 42 #[.agg #[.int .u8 2, .int .u64 n, .int .u8 op, .int .u64 b]] w fun e w' => e = .returned (.bool true) ∧ Below w.heap.size w w') :
    Calls Try.prog 15 #[.agg #[.int .u8 2, .int .u64 n, .int .u8 op, .int .u64 b]] w fun e w' => e = .returned (.tuple #[.string (bs (be 1 2 ++ be 4 n)), .int .i64 0]) ∧ Below w.heap.size w w' := by
  have HX := Lib.hid (Box.new w 41 #[.int .u8 2, .int .u64 n, .int .u8 op, .int .u64 b])
  have hcv : (n : Int) % 4294967296 = (n : Int) := by omega
  go_enter Try.func15, Try.ntmps15
  go_wp2_with fail
  refine (H _).mono ?_; rintro e w1 ⟨rfl, hb⟩
  have HV0 := Lib.hid (Wg.new (HX.out.later hb))
  clear hb HX
  obtain ⟨c0, c1, c2, c3⟩ := HV0.out.box.cells
  go_wp2_with fail
  refine (u8_any _ 2 (by decide) _ _ HV0.out.wr (by simp [wlen])).mono ?_; rintro e w2 ⟨rfl, h1, h2⟩
  have HV1 := Lib.hid (HV0.out.step h1 h2)
  clear h1 h2 HV0 c0 c1 c2 c3
  obtain ⟨c0, c1, c2, c3⟩ := HV1.out.box.cells
  go_wp2_with fail
  refine (u32_any _ n _ _ HV1.out.wr (by simp [wlen, more, be_length])).mono ?_; rintro e w2 ⟨rfl, h1, h2⟩
  have HV2 := Lib.hid (HV1.out.step h1 h2)
  clear h1 h2 HV1 c0 c1 c2 c3
  go_wp2_with fail
  refine (bytes_any _ _ _ HV2.out.wr (by simp [wlen, more, be_length])).mono ?_; rintro e w6 ⟨rfl, hb⟩
  have HR := Lib.hid (HV2.out.box.later hb)
  clear hb HV2
  go_wp2_with fail
  go_ret2
  exact ⟨by simp [told, more], HR.out.below⟩
set_option maxHeartbeats 4000000 in
theorem putc_3 (n op b : Nat) (ho : op < 256) (w : World) (H : ∀ w, Calls Try.prog 42 #[.agg #[.int .u8 3, .int .u64 n, .int .u8 op, .int .u64 b]] w fun e w' => e = .returned (.bool true) ∧ Below w.heap.size w w') :
    Calls Try.prog 15 #[.agg #[.int .u8 3, .int .u64 n, .int .u8 op, .int .u64 b]] w fun e w' => e = .returned (.tuple #[.string (bs (be 1 3 ++ (be 1 op ++ be 8 b))), .int .i64 0]) ∧ Below w.heap.size w w' := by
  have HX := Lib.hid (Box.new w 41 #[.int .u8 3, .int .u64 n, .int .u8 op, .int .u64 b])
  go_enter Try.func15, Try.ntmps15
  go_wp2_with fail
  refine (H _).mono ?_; rintro e w1 ⟨rfl, hb⟩
  have HV0 := Lib.hid (Wg.new (HX.out.later hb))
  clear hb HX
  obtain ⟨c0, c1, c2, c3⟩ := HV0.out.box.cells
  go_wp2_with fail
  refine (u8_any _ 3 (by decide) _ _ HV0.out.wr (by simp [wlen])).mono ?_; rintro e w2 ⟨rfl, h1, h2⟩
  have HV1 := Lib.hid (HV0.out.step h1 h2)
  clear h1 h2 HV0 c0 c1 c2 c3
  obtain ⟨c0, c1, c2, c3⟩ := HV1.out.box.cells
  go_wp2_with fail
  refine (u8_any _ op ho _ _ HV1.out.wr (by simp [wlen, more, be_length])).mono ?_; rintro e w2 ⟨rfl, h1, h2⟩
  have HV2 := Lib.hid (HV1.out.step h1 h2)
  clear h1 h2 HV1 c0 c1 c2 c3
  obtain ⟨c0, c1, c2, c3⟩ := HV2.out.box.cells
  go_wp2_with fail
  refine (u64_any _ b _ _ HV2.out.wr (by simp [wlen, more, be_length])).mono ?_; rintro e w2 ⟨rfl, h1, h2⟩
  have HV3 := Lib.hid (HV2.out.step h1 h2)
  clear h1 h2 HV2 c0 c1 c2 c3
  go_wp2_with fail
  refine (bytes_any _ _ _ HV3.out.wr (by simp [wlen, more, be_length])).mono ?_; rintro e w6 ⟨rfl, hb⟩
  have HR := Lib.hid (HV3.out.box.later hb)
  clear hb HV3
  go_wp2_with fail
  go_ret2
  exact ⟨by simp [told, more], HR.out.below⟩
set_option maxHeartbeats 4000000 in
theorem putc_4 (n op b : Nat) (w : World) (H : ∀ w, Calls Try.prog 42 #[.agg #[.int .u8 4, .int .u64 n, .int .u8 op, .int .u64 b]] w fun e w' => e = .returned (.bool true) ∧ Below w.heap.size w w') :
    Calls Try.prog 15 #[.agg #[.int .u8 4, .int .u64 n, .int .u8 op, .int .u64 b]] w fun e w' => e = .returned (.tuple #[.string (bs (be 1 4 ++ be 8 n)), .int .i64 0]) ∧ Below w.heap.size w w' := by
  have HX := Lib.hid (Box.new w 41 #[.int .u8 4, .int .u64 n, .int .u8 op, .int .u64 b])
  go_enter Try.func15, Try.ntmps15
  go_wp2_with fail
  refine (H _).mono ?_; rintro e w1 ⟨rfl, hb⟩
  have HV0 := Lib.hid (Wg.new (HX.out.later hb))
  clear hb HX
  obtain ⟨c0, c1, c2, c3⟩ := HV0.out.box.cells
  go_wp2_with fail
  refine (u8_any _ 4 (by decide) _ _ HV0.out.wr (by simp [wlen])).mono ?_; rintro e w2 ⟨rfl, h1, h2⟩
  have HV1 := Lib.hid (HV0.out.step h1 h2)
  clear h1 h2 HV0 c0 c1 c2 c3
  obtain ⟨c0, c1, c2, c3⟩ := HV1.out.box.cells
  go_wp2_with fail
  refine (u64_any _ n _ _ HV1.out.wr (by simp [wlen, more, be_length])).mono ?_; rintro e w2 ⟨rfl, h1, h2⟩
  have HV2 := Lib.hid (HV1.out.step h1 h2)
  clear h1 h2 HV1 c0 c1 c2 c3
  go_wp2_with fail
  refine (bytes_any _ _ _ HV2.out.wr (by simp [wlen, more, be_length])).mono ?_; rintro e w6 ⟨rfl, hb⟩
  have HR := Lib.hid (HV2.out.box.later hb)
  clear hb HV2
  go_wp2_with fail
  go_ret2
  exact ⟨by simp [told, more], HR.out.below⟩
theorem putChange_any (wh n op b : Nat) (ho : op < 256) (w : World) :
    Calls Try.prog 15 #[.agg #[.int .u8 wh, .int .u64 n, .int .u8 op, .int .u64 b]] w fun e w' => e = .returned (.tuple #[.string (bs (putC wh n op b)), .int .i64 (ckC wh n op b : Nat)]) ∧ Below w.heap.size w w' := by
  have H := mayBe_any wh n op b
  cases h : mayC wh n op b with
  | false =>
    have e1 : putC wh n op b = [] := by simp [putC, h]
    have e2 : ckC wh n op b = 4 := by simp [ckC, h]
    rw [e1, e2]; rw [h] at H
    exact putc_no wh n op b w H
  | true =>
    have e1 : putC wh n op b = textC wh n op b := by simp [putC, h]
    have e2 : ckC wh n op b = 0 := by simp [ckC, h]
    rw [e1, e2]; rw [h] at H
    unfold textC
    by_cases h1 : wh = 1
    · subst h1
      have hn : n ≤ 2048 := by simp [mayC] at h; omega
      exact putc_1 n op b hn w H
    by_cases h2 : wh = 2
    · subst h2
      have hn : n ≤ 2048 := by simp [mayC] at h; omega
      exact putc_2 n op b hn w H
    by_cases h3 : wh = 3
    · subst h3
      exact putc_3 n op b ho w H
    by_cases h4 : wh = 4
    · subst h4
      exact putc_4 n op b w H
    simp [mayC, h1, h2, h3, h4] at h
end Go.Proofs.Ytoeaclfbmppnmaa
