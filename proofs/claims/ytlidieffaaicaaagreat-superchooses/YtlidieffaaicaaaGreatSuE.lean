/- The superblock that a text is, by the program. Conditions: lengths below 2^30. -/
import Derived.Test.YtlidieffaaicaaaGreatSuA
namespace Go.Proofs.YtlidieffaaicaaaGreat
open Go.ChangeShapes Go.WideShapes Go.RowKit Go.Codec Go.Super
set_option maxRecDepth 100000
set_option linter.unusedSimpArgs false
/-- A boxed value, and a reader that was made behind it. -/
structure Rg (w : World) (t : TypeId) (arr : Array Value) (r : Nat) (x : R) (wx : World) : Prop where
  box : Box w t arr wx
  rd : Rd wx r x
  ne : w.heap.size < r
section
variable {w wx wy : World} {t : TypeId} {arr : Array Value} {r : Nat} {x y : R}
theorem Rg.new (h : Box w t arr wx) (hr : wx.heap.size ≤ r) (hd : Rd wy r x) (hb : Below wx.heap.size wx wy) : Rg w t arr r x wy :=
  ⟨h.later hb, hd, by have := h.one.lt; omega⟩
theorem Rg.step (h : Rg w t arr r x wx) (hw : Rd wy r y) (hg : wx.grownBy wy (some r)) : Rg w t arr r y wy :=
  ⟨⟨h.box.one.kept hg (by have := h.ne; simp; omega), h.box.below.trans (below_of_grow hg h.box.below.size (by have := h.ne; omega))⟩, hw, h.ne⟩
/-- What lies in a box behind five stores. -/
theorem Box.five {a b c d e a' b' c' d' e' : Value} (h : Box w t #[a, b, c, d, e] wx) : Box w t #[a', b', c', d', e'] (((((wx.setCell ⟨w.heap.size, 0, none⟩ a').setCell ⟨w.heap.size, 1, none⟩ b').setCell ⟨w.heap.size, 2, none⟩ c').setCell ⟨w.heap.size, 3, none⟩ d').setCell ⟨w.heap.size, 4, none⟩ e') := by
  refine ⟨?_, ((((h.below.setCell (Nat.le_refl _) _).setCell (Nat.le_refl _) _).setCell (Nat.le_refl _) _).setCell (Nat.le_refl _) _).setCell (Nat.le_refl _) _⟩
  have h1 := ((((h.one.put 0 a').put 1 b').put 2 c').put 3 d').put 4 e'
  simp at h1
  exact h1
end
set_option maxHeartbeats 4000000 in
theorem take_err (s : ByteArray) (g i : Nat) (t : ByteArray) (x : Int) (hx : ¬ x = 0) (HU : Hid (∀ w, Calls Tryz.prog 50 #[.string s] w fun e w' => e = .returned (.tuple #[.int .u64 g, .int .u32 i, .string t, .int .i64 x]) ∧ Below w.heap.size w w')) (w : World) :
    Calls Tryz.prog 26 #[.string s] w fun e w' => e = .returned (.tuple #[.agg #[.int .u64 0, .int .u64 0, .int .i64 0, .int .i64 0, .int .i64 0], .int .i64 x]) ∧ Below w.heap.size w w' := by
  have HX := Lib.hid (Box.new w 28 #[.int .u64 0, .int .u64 0, .int .i64 0, .int .i64 0, .int .i64 0])
  go_enter Tryz.func26, Tryz.ntmps26
  go_wp2_with fail
  refine (HU.out _).mono ?_; rintro e w1 ⟨rfl, hb⟩
  have HA := Lib.hid (HX.out.later hb)
  clear hb HX
  obtain ⟨c0, c1, c2, c3, c4⟩ := HA.out.c5
  have f0 := HA.out.one.frozen 0; have f1 := HA.out.one.frozen 1; have f2 := HA.out.one.frozen 2; have f3 := HA.out.one.frozen 3; have f4 := HA.out.one.frozen 4
  have hlt := HA.out.one.lt
  go_wp2_with fail
  have HF := Lib.hid (Box.five (a' := .int .u64 0) (b' := .int .u64 0) (c' := .int .i64 0) (d' := .int .i64 0) (e' := .int .i64 0) HA.out)
  obtain ⟨d0, d1, d2, d3, d4⟩ := HF.out.c5
  exact bodyPost_ret (v := .tuple #[.agg #[.int .u64 0, .int .u64 0, .int .i64 0, .int .i64 0, .int .i64 0], .int .i64 x]) (by simp [results, Tryz.results26, go_sem, d0, d1, d2, d3, d4, hlt]) rfl ⟨rfl, HF.out.below⟩
set_option maxHeartbeats 4000000 in
theorem take_form (s : ByteArray) (g i : Nat) (t : ByteArray) (hx : ¬ s.size = 128 ∨ ¬ i = 0 ∨ ¬ t.size = 14) (HU : Hid (∀ w, Calls Tryz.prog 50 #[.string s] w fun e w' => e = .returned (.tuple #[.int .u64 g, .int .u32 i, .string t, .int .i64 0]) ∧ Below w.heap.size w w')) (w : World) :
    Calls Tryz.prog 26 #[.string s] w fun e w' => e = .returned (.tuple #[.agg #[.int .u64 0, .int .u64 0, .int .i64 0, .int .i64 0, .int .i64 0], .int .i64 4]) ∧ Below w.heap.size w w' := by
  have HX := Lib.hid (Box.new w 28 #[.int .u64 0, .int .u64 0, .int .i64 0, .int .i64 0, .int .i64 0])
  have hfin : ∀ w1, Below (w.alloc (.cells #[.int .u64 0, .int .u64 0, .int .i64 0, .int .i64 0, .int .i64 0] 28)).heap.size (w.alloc (.cells #[.int .u64 0, .int .u64 0, .int .i64 0, .int .i64 0, .int .i64 0] 28)) w1 → Box w 28 #[.int .u64 0, .int .u64 0, .int .i64 0, .int .i64 0, .int .i64 0] w1 := fun w1 hb => HX.out.later hb
  have HFI := Lib.hid hfin
  clear hfin HX
  by_cases h1 : s.size = 128
  · have g1 : (s.size : Int) = 128 := by omega
    by_cases h2 : i = 0
    · have g2 : (i : Int) = 0 := by omega
      have g3 : ¬ (t.size : Int) = 14 := by omega
      clear hx h1 h2
      go_enter Tryz.func26, Tryz.ntmps26
      go_wp2_with fail
      refine (HU.out _).mono ?_; rintro e w1 ⟨rfl, hb⟩
      have HA := Lib.hid (HFI.out _ hb)
      clear hb HFI
      obtain ⟨c0, c1, c2, c3, c4⟩ := HA.out.c5
      have f0 := HA.out.one.frozen 0; have f1 := HA.out.one.frozen 1; have f2 := HA.out.one.frozen 2; have f3 := HA.out.one.frozen 3; have f4 := HA.out.one.frozen 4
      have hlt := HA.out.one.lt
      go_wp2_with fail
      have HF := Lib.hid (Box.five (a' := .int .u64 0) (b' := .int .u64 0) (c' := .int .i64 0) (d' := .int .i64 0) (e' := .int .i64 0) HA.out)
      obtain ⟨d0, d1, d2, d3, d4⟩ := HF.out.c5
      exact bodyPost_ret (v := .tuple #[.agg #[.int .u64 0, .int .u64 0, .int .i64 0, .int .i64 0, .int .i64 0], .int .i64 4]) (by simp [results, Tryz.results26, go_sem, d0, d1, d2, d3, d4, hlt]) rfl ⟨rfl, HF.out.below⟩
    · have g2 : ¬ (i : Int) = 0 := by omega
      clear hx h1 h2
      go_enter Tryz.func26, Tryz.ntmps26
      go_wp2_with fail
      refine (HU.out _).mono ?_; rintro e w1 ⟨rfl, hb⟩
      have HA := Lib.hid (HFI.out _ hb)
      clear hb HFI
      obtain ⟨c0, c1, c2, c3, c4⟩ := HA.out.c5
      have f0 := HA.out.one.frozen 0; have f1 := HA.out.one.frozen 1; have f2 := HA.out.one.frozen 2; have f3 := HA.out.one.frozen 3; have f4 := HA.out.one.frozen 4
      have hlt := HA.out.one.lt
      go_wp2_with fail
      have HF := Lib.hid (Box.five (a' := .int .u64 0) (b' := .int .u64 0) (c' := .int .i64 0) (d' := .int .i64 0) (e' := .int .i64 0) HA.out)
      obtain ⟨d0, d1, d2, d3, d4⟩ := HF.out.c5
      exact bodyPost_ret (v := .tuple #[.agg #[.int .u64 0, .int .u64 0, .int .i64 0, .int .i64 0, .int .i64 0], .int .i64 4]) (by simp [results, Tryz.results26, go_sem, d0, d1, d2, d3, d4, hlt]) rfl ⟨rfl, HF.out.below⟩
  · have g1 : ¬ (s.size : Int) = 128 := by omega
    clear hx h1
    go_enter Tryz.func26, Tryz.ntmps26
    go_wp2_with fail
    refine (HU.out _).mono ?_; rintro e w1 ⟨rfl, hb⟩
    have HA := Lib.hid (HFI.out _ hb)
    clear hb HFI
    obtain ⟨c0, c1, c2, c3, c4⟩ := HA.out.c5
    have f0 := HA.out.one.frozen 0; have f1 := HA.out.one.frozen 1; have f2 := HA.out.one.frozen 2; have f3 := HA.out.one.frozen 3; have f4 := HA.out.one.frozen 4
    have hlt := HA.out.one.lt
    go_wp2_with fail
    have HF := Lib.hid (Box.five (a' := .int .u64 0) (b' := .int .u64 0) (c' := .int .i64 0) (d' := .int .i64 0) (e' := .int .i64 0) HA.out)
    obtain ⟨d0, d1, d2, d3, d4⟩ := HF.out.c5
    exact bodyPost_ret (v := .tuple #[.agg #[.int .u64 0, .int .u64 0, .int .i64 0, .int .i64 0, .int .i64 0], .int .i64 4]) (by simp [results, Tryz.results26, go_sem, d0, d1, d2, d3, d4, hlt]) rfl ⟨rfl, HF.out.below⟩
set_option maxHeartbeats 4000000 in
theorem take_not (s : ByteArray) (g : Nat) (t : List UInt8) (h1 : s.size = 128) (ht : t.length = 14) (hok : ¬ (Super.told g t).Ok) (HU : Hid (∀ w, Calls Tryz.prog 50 #[.string s] w fun e w' => e = .returned (.tuple #[.int .u64 g, .int .u32 0, .string (bs t), .int .i64 0]) ∧ Below w.heap.size w w')) (w : World) :
    Calls Tryz.prog 26 #[.string s] w fun e w' => e = .returned (.tuple #[.agg #[.int .u64 0, .int .u64 0, .int .i64 0, .int .i64 0, .int .i64 0], .int .i64 4]) ∧ Below w.heap.size w w' := by
  obtain ⟨v1, e1⟩ : ∃ v, v = val (t.take 8) := ⟨_, rfl⟩
  obtain ⟨v2, e2⟩ : ∃ v, v = val ((t.drop 8).take 2) := ⟨_, rfl⟩
  obtain ⟨v3, e3⟩ : ∃ v, v = val ((t.drop 10).take 2) := ⟨_, rfl⟩
  obtain ⟨v4, e4⟩ : ∃ v, v = val ((t.drop 12).take 2) := ⟨_, rfl⟩
  have l2 : v2 < 65536 := by rw [e2]; exact val2 (by rw [List.length_take, List.length_drop]; omega)
  have l3 : v3 < 65536 := by rw [e3]; exact val2 (by rw [List.length_take, List.length_drop]; omega)
  have l4 : v4 < 65536 := by rw [e4]; exact val2 (by rw [List.length_take, List.length_drop]; omega)
  have g1 : (s.size : Int) = 128 := by omega
  have g3 : ((bs t).size : Int) = 14 := by rw [bs_size]; omega
  have hmay := fun w' => may_c g v1 (v2 : Nat) (v3 : Nat) (v4 : Nat) w'
  rw [e1, e2, e3, e4] at hmay
  change ∀ w' : World, Calls Tryz.prog 54 _ w' (fun e w'' => e = .returned (.bool (decide (Super.told g t).Ok)) ∧ _) at hmay
  simp only [hok, decide_false] at hmay
  rw [← e1, ← e2, ← e3, ← e4] at hmay
  have HM := Lib.hid hmay
  have R1 := Lib.hid (fun r w' (h : Rd w' r ⟨t, 0⟩) => ru64_any r ⟨t, 0⟩ (by simp only; omega) w' h)
  rw [R.take_ok (by omega), R.drop_ok (by omega), ← e1] at R1
  have R2 := Lib.hid (fun r w' (h : Rd w' r ⟨t.drop 8, 0⟩) => ru16_any r ⟨t.drop 8, 0⟩ (by simp only [List.length_drop]; omega) w' h)
  rw [R.take_ok (by rw [List.length_drop]; omega), R.drop_ok (by rw [List.length_drop]; omega), List.drop_drop, ← e2] at R2
  have R3 := Lib.hid (fun r w' (h : Rd w' r ⟨t.drop (8 + 2), 0⟩) => ru16_any r ⟨t.drop (8 + 2), 0⟩ (by simp only [List.length_drop]; omega) w' h)
  rw [R.take_ok (by rw [List.length_drop]; omega), R.drop_ok (by rw [List.length_drop]; omega), List.drop_drop, ← e3] at R3
  have R4 := Lib.hid (fun r w' (h : Rd w' r ⟨t.drop (8 + 2 + 2), 0⟩) => ru16_any r ⟨t.drop (8 + 2 + 2), 0⟩ (by simp only [List.length_drop]; omega) w' h)
  rw [R.take_ok (by rw [List.length_drop]; omega), R.drop_ok (by rw [List.length_drop]; omega), List.drop_drop, ← e4] at R4
  have HN := Lib.hid (fun w' => new_any (bs t) (by rw [bs_size]; omega) w')
  rw [bs_list] at HN
  clear hmay hok e1 e2 e3 e4 h1 ht
  generalize (⟨t, 0⟩ : R) = x0 at *
  generalize (⟨t.drop 8, 0⟩ : R) = x1 at *
  generalize (⟨t.drop (8 + 2), 0⟩ : R) = x2 at *
  generalize (⟨t.drop (8 + 2 + 2), 0⟩ : R) = x3 at *
  generalize (⟨t.drop (8 + 2 + 2 + 2), 0⟩ : R) = x4 at *
  generalize bs t = tt at *
  have HX := Lib.hid (Box.new w 28 #[.int .u64 0, .int .u64 0, .int .i64 0, .int .i64 0, .int .i64 0])
  go_enter Tryz.func26, Tryz.ntmps26
  go_wp2_with fail
  refine (HU.out _).mono ?_; rintro e w1 ⟨rfl, hb⟩
  have HA := Lib.hid (HX.out.later hb)
  clear hb HX HU
  go_wp2_with fail
  refine (HN.out _).mono ?_; rintro e w2 ⟨r, rfl, hr, hd, hb⟩
  have HR0 := Lib.hid (Rg.new HA.out hr hd hb)
  clear hr hd hb HA HN
  go_wp2_with fail
  refine (R1.out _ _ HR0.out.rd).mono ?_; rintro e w3 ⟨rfl, h1, h2⟩
  have HR1 := Lib.hid (HR0.out.step h1 h2)
  clear h1 h2 HR0 R1
  go_wp2_with fail
  refine (R2.out _ _ HR1.out.rd).mono ?_; rintro e w4 ⟨rfl, h1, h2⟩
  have HR2 := Lib.hid (HR1.out.step h1 h2)
  clear h1 h2 HR1 R2
  go_wp2_with fail
  refine (R3.out _ _ HR2.out.rd).mono ?_; rintro e w5 ⟨rfl, h1, h2⟩
  have HR3 := Lib.hid (HR2.out.step h1 h2)
  clear h1 h2 HR2 R3
  go_wp2_with fail
  refine (R4.out _ _ HR3.out.rd).mono ?_; rintro e w6 ⟨rfl, h1, h2⟩
  have HR4 := Lib.hid (HR3.out.step h1 h2)
  clear h1 h2 HR3 R4
  go_wp2_with fail
  refine (HM.out _).mono ?_; rintro e w7 ⟨rfl, hb⟩
  have HA := Lib.hid ((HR4.out.box.alloc _).later hb)
  clear hb HR4
  obtain ⟨c0, c1, c2, c3, c4⟩ := HA.out.c5
  have f0 := HA.out.one.frozen 0; have f1 := HA.out.one.frozen 1; have f2 := HA.out.one.frozen 2; have f3 := HA.out.one.frozen 3; have f4 := HA.out.one.frozen 4
  have hlt := HA.out.one.lt
  go_wp2_with fail
  have HF := Lib.hid (Box.five (a' := .int .u64 0) (b' := .int .u64 0) (c' := .int .i64 0) (d' := .int .i64 0) (e' := .int .i64 0) HA.out)
  obtain ⟨d0, d1, d2, d3, d4⟩ := HF.out.c5
  exact bodyPost_ret (v := .tuple #[.agg #[.int .u64 0, .int .u64 0, .int .i64 0, .int .i64 0, .int .i64 0], .int .i64 4]) (by simp [results, Tryz.results26, go_sem, d0, d1, d2, d3, d4, hlt]) rfl ⟨rfl, HF.out.below⟩
set_option maxHeartbeats 4000000 in
theorem take_good (s : ByteArray) (g : Nat) (t : List UInt8) (h1 : s.size = 128) (ht : t.length = 14) (hok : (Super.told g t).Ok) (HU : Hid (∀ w, Calls Tryz.prog 50 #[.string s] w fun e w' => e = .returned (.tuple #[.int .u64 g, .int .u32 0, .string (bs t), .int .i64 0]) ∧ Below w.heap.size w w')) (w : World) :
    Calls Tryz.prog 26 #[.string s] w fun e w' => e = .returned (.tuple #[.agg #[.int .u64 (Super.told g t).gen, .int .u64 (Super.told g t).calls, .int .i64 (Super.told g t).root, .int .i64 (Super.told g t).table, .int .i64 (Super.told g t).secs], .int .i64 0]) ∧ Below w.heap.size w w' := by
  obtain ⟨v1, e1⟩ : ∃ v, v = val (t.take 8) := ⟨_, rfl⟩
  obtain ⟨v2, e2⟩ : ∃ v, v = val ((t.drop 8).take 2) := ⟨_, rfl⟩
  obtain ⟨v3, e3⟩ : ∃ v, v = val ((t.drop 10).take 2) := ⟨_, rfl⟩
  obtain ⟨v4, e4⟩ : ∃ v, v = val ((t.drop 12).take 2) := ⟨_, rfl⟩
  have l2 : v2 < 65536 := by rw [e2]; exact val2 (by rw [List.length_take, List.length_drop]; omega)
  have l3 : v3 < 65536 := by rw [e3]; exact val2 (by rw [List.length_take, List.length_drop]; omega)
  have l4 : v4 < 65536 := by rw [e4]; exact val2 (by rw [List.length_take, List.length_drop]; omega)
  have g1 : (s.size : Int) = 128 := by omega
  have g3 : ((bs t).size : Int) = 14 := by rw [bs_size]; omega
  have hmay := fun w' => may_c g v1 (v2 : Nat) (v3 : Nat) (v4 : Nat) w'
  rw [e1, e2, e3, e4] at hmay
  change ∀ w' : World, Calls Tryz.prog 54 _ w' (fun e w'' => e = .returned (.bool (decide (Super.told g t).Ok)) ∧ _) at hmay
  simp only [hok, decide_true] at hmay
  rw [← e1, ← e2, ← e3, ← e4] at hmay
  have HM := Lib.hid hmay
  have R1 := Lib.hid (fun r w' (h : Rd w' r ⟨t, 0⟩) => ru64_any r ⟨t, 0⟩ (by simp only; omega) w' h)
  rw [R.take_ok (by omega), R.drop_ok (by omega), ← e1] at R1
  have R2 := Lib.hid (fun r w' (h : Rd w' r ⟨t.drop 8, 0⟩) => ru16_any r ⟨t.drop 8, 0⟩ (by simp only [List.length_drop]; omega) w' h)
  rw [R.take_ok (by rw [List.length_drop]; omega), R.drop_ok (by rw [List.length_drop]; omega), List.drop_drop, ← e2] at R2
  have R3 := Lib.hid (fun r w' (h : Rd w' r ⟨t.drop (8 + 2), 0⟩) => ru16_any r ⟨t.drop (8 + 2), 0⟩ (by simp only [List.length_drop]; omega) w' h)
  rw [R.take_ok (by rw [List.length_drop]; omega), R.drop_ok (by rw [List.length_drop]; omega), List.drop_drop, ← e3] at R3
  have R4 := Lib.hid (fun r w' (h : Rd w' r ⟨t.drop (8 + 2 + 2), 0⟩) => ru16_any r ⟨t.drop (8 + 2 + 2), 0⟩ (by simp only [List.length_drop]; omega) w' h)
  rw [R.take_ok (by rw [List.length_drop]; omega), R.drop_ok (by rw [List.length_drop]; omega), List.drop_drop, ← e4] at R4
  have HN := Lib.hid (fun w' => new_any (bs t) (by rw [bs_size]; omega) w')
  rw [bs_list] at HN
  have E1 := Lib.hid e1; have E2 := Lib.hid e2; have E3 := Lib.hid e3; have E4 := Lib.hid e4
  clear hmay hok e1 e2 e3 e4 h1 ht
  generalize (⟨t, 0⟩ : R) = x0 at *
  generalize (⟨t.drop 8, 0⟩ : R) = x1 at *
  generalize (⟨t.drop (8 + 2), 0⟩ : R) = x2 at *
  generalize (⟨t.drop (8 + 2 + 2), 0⟩ : R) = x3 at *
  generalize (⟨t.drop (8 + 2 + 2 + 2), 0⟩ : R) = x4 at *
  generalize bs t = tt at *
  have HX := Lib.hid (Box.new w 28 #[.int .u64 0, .int .u64 0, .int .i64 0, .int .i64 0, .int .i64 0])
  go_enter Tryz.func26, Tryz.ntmps26
  go_wp2_with fail
  refine (HU.out _).mono ?_; rintro e w1 ⟨rfl, hb⟩
  have HA := Lib.hid (HX.out.later hb)
  clear hb HX HU
  go_wp2_with fail
  refine (HN.out _).mono ?_; rintro e w2 ⟨r, rfl, hr, hd, hb⟩
  have HR0 := Lib.hid (Rg.new HA.out hr hd hb)
  clear hr hd hb HA HN
  go_wp2_with fail
  refine (R1.out _ _ HR0.out.rd).mono ?_; rintro e w3 ⟨rfl, h1, h2⟩
  have HR1 := Lib.hid (HR0.out.step h1 h2)
  clear h1 h2 HR0 R1
  go_wp2_with fail
  refine (R2.out _ _ HR1.out.rd).mono ?_; rintro e w4 ⟨rfl, h1, h2⟩
  have HR2 := Lib.hid (HR1.out.step h1 h2)
  clear h1 h2 HR1 R2
  go_wp2_with fail
  refine (R3.out _ _ HR2.out.rd).mono ?_; rintro e w5 ⟨rfl, h1, h2⟩
  have HR3 := Lib.hid (HR2.out.step h1 h2)
  clear h1 h2 HR2 R3
  go_wp2_with fail
  refine (R4.out _ _ HR3.out.rd).mono ?_; rintro e w6 ⟨rfl, h1, h2⟩
  have HR4 := Lib.hid (HR3.out.step h1 h2)
  clear h1 h2 HR3 R4
  go_wp2_with fail
  refine (HM.out _).mono ?_; rintro e w7 ⟨rfl, hb⟩
  have hi := is_below (Is.new w6 28 #[.int .u64 g, .int .u64 v1, .int .i64 (v2 : Nat), .int .i64 (v3 : Nat), .int .i64 (v4 : Nat)]) hb
  have HA := Lib.hid ((HR4.out.box.alloc _).later hb)
  clear hb HR4
  obtain ⟨k0, k1, k2, k3, k4⟩ := is5 hi
  obtain ⟨c0, c1, c2, c3, c4⟩ := HA.out.c5
  have f0 := HA.out.one.frozen 0; have f1 := HA.out.one.frozen 1; have f2 := HA.out.one.frozen 2; have f3 := HA.out.one.frozen 3; have f4 := HA.out.one.frozen 4
  have hlt := HA.out.one.lt
  clear hi
  go_wp2_with fail
  have HF := Lib.hid (Box.five (a' := .int .u64 g) (b' := .int .u64 v1) (c' := .int .i64 (v2 : Nat)) (d' := .int .i64 (v3 : Nat)) (e' := .int .i64 (v4 : Nat)) HA.out)
  obtain ⟨d0, d1, d2, d3, d4⟩ := HF.out.c5
  exact bodyPost_ret (v := .tuple #[.agg #[.int .u64 g, .int .u64 v1, .int .i64 (v2 : Nat), .int .i64 (v3 : Nat), .int .i64 (v4 : Nat)], .int .i64 0]) (by simp [results, Tryz.results26, go_sem, d0, d1, d2, d3, d4, hlt]) rfl ⟨by rw [E1.out, E2.out, E3.out, E4.out]; rfl, HF.out.below⟩
theorem take_c (s : ByteArray) (hs : s.size ≤ 1073741824) (w : World) : Calls Tryz.prog 26 #[.string s] w fun e w' => e = .returned (.tuple #[.agg #[.int .u64 (tk s.data.toList).1.gen, .int .u64 (tk s.data.toList).1.calls, .int .i64 (tk s.data.toList).1.root, .int .i64 (tk s.data.toList).1.table, .int .i64 (tk s.data.toList).1.secs], .int .i64 (tk s.data.toList).2]) ∧ Below w.heap.size w w' := by
  have HU := Lib.hid (fun w => un_any s hs w)
  have hl := Lib.size_eq s
  unfold tk
  rw [← hl]
  obtain ⟨u, hu⟩ : ∃ u, Seal.unstamp s.data.toList = u := ⟨_, rfl⟩
  rw [hu] at HU ⊢
  clear hu hl
  obtain ⟨g, i, t, x⟩ := u
  simp only at HU ⊢
  by_cases hx : x = 0
  · subst hx
    rw [if_neg (by simp)]
    by_cases h1 : ¬ s.size = 128 ∨ ¬ i = 0 ∨ ¬ t.length = 14
    · rw [if_pos h1]
      exact take_form s g i (bs t) (by rw [bs_size]; exact h1) HU w
    · rw [if_neg h1]
      have h2 : s.size = 128 := by omega
      have h3 : t.length = 14 := by omega
      obtain rfl : i = 0 := by omega
      by_cases hok : (Super.told g t).Ok
      · rw [if_pos hok]
        exact take_good s g t h2 h3 hok HU w
      · rw [if_neg hok]
        exact take_not s g t h2 h3 hok HU w
  · rw [if_pos hx]
    exact take_err s g i (bs t) x hx HU w
end Go.Proofs.YtlidieffaaicaaaGreat
