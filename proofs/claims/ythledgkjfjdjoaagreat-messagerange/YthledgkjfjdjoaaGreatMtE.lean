/- The changes of texts, by the program. Conditions: lengths below 2^40. -/
import Derived.Test.YthledgkjfjdjoaaGreatMtD
namespace Go.Proofs.YthledgkjfjdjoaaGreat.Mt
open Go.ChangeShapes Go.WideShapes Go.RowKit Go.Codec Go.Num Go.Mt
set_option maxRecDepth 100000
set_option linter.unusedSimpArgs false
set_option linter.unusedVariables false
/-- A boxed answer, a reader, and a change that is being told. -/
structure Rm (w : World) (arr : Array Value) (r : Nat) (x : R) (m : Nat) (ms : Array Value) (wx : World) : Prop where
  rg : Rg w 148 arr r x wx
  ms : Is wx m 148 ms
  lt : w.heap.size < m
section
variable {w wx wy : World} {arr ms : Array Value} {r m : Nat} {x y : R}
theorem Rm.new (h : Rg w 148 arr r x wx) (ms : Array Value) : Rm w arr r x wx.heap.size ms (wx.alloc (.cells ms 148)) :=
  ⟨h.later (below_alloc (Below.refl _ _) _), Is.new _ _ _, h.box.one.lt⟩
theorem Rm.ne (h : Rm w arr r x m ms wx) : r ≠ m := Is.ne h.rg.rd h.ms (by decide)
theorem Rm.step (h : Rm w arr r x m ms wx) (hw : Rd wy r y) (hg : wx.grownBy wy (some r)) : Rm w arr r y m ms wy :=
  ⟨h.rg.step hw hg, h.ms.kept hg (by have := h.ne; simp; omega), h.lt⟩
theorem Rm.put (h : Rm w arr r x m ms wx) (i : Nat) (v : Value) : Rm w arr r x m (ms.setIfInBounds i v) (wx.setCell ⟨m, i, none⟩ v) := by
  have hl := h.lt
  refine ⟨⟨⟨h.rg.box.below.setCell (by exact Nat.le_of_lt hl) _, h.rg.box.one.other (by show w.heap.size ≠ m; omega) _⟩, Is.other h.rg.rd (by exact h.ne) _, h.rg.ne⟩, h.ms.put i v, hl⟩
theorem Rm.later (h : Rm w arr r x m ms wx) (hb : Below wx.heap.size wx wy) : Rm w arr r x m ms wy := ⟨h.rg.later hb, h.ms.kept (grow_below hb none) (by simp), h.lt⟩
theorem Rm.cells {a b c d : Value} (h : Rm w arr r x m #[a, b, c, d] wx) : wx.cell? ⟨m, 0, none⟩ = some a ∧ wx.cell? ⟨m, 1, none⟩ = some b ∧ wx.cell? ⟨m, 2, none⟩ = some c ∧ wx.cell? ⟨m, 3, none⟩ = some d :=
  ⟨h.ms.cell 0, h.ms.cell 1, h.ms.cell 2, h.ms.cell 3⟩
end
set_option maxHeartbeats 4000000 in
theorem takec0_torn (s : ByteArray) (l : List UInt8) (h0 : s.data.toList = l) (hs : s.size ≤ 1099511627776) (c0 : Nat) (h1' : ((c0 : Int) == 1) = false) (h2' : ((c0 : Int) == 2) = false) (h3' : ((c0 : Int) == 3) = false) (h4' : ((c0 : Int) == 4) = false) (hc : gt l 0 1 = c0) (hl : s.size < 1) (w : World) :
    Calls Tryz.prog 104 #[.string s] w fun e w' => e = .returned (.tuple #[.agg #[.int .u8 0, .int .u64 0, .int .u8 0, .int .u64 0], .int .i64 10]) ∧ Below w.heap.size w w' := by
  rw [Lib.size_eq, h0] at hl
  have HX := Lib.hid (Box.new w 148 #[.int .u8 0, .int .u64 0, .int .u8 0, .int .u64 0])
  go_enter Tryz.func104, Tryz.ntmps104
  go_wp2_with fail
  refine (new_any s (by omega) _).mono ?_; rintro e w1 ⟨r, rfl, hr, hd, hb⟩
  rw [h0, ← rd_zero] at hd
  have HR0 := Lib.hid (Rg.new HX.out hr hd hb)
  clear hr hd hb HX
  rw [Lib.size_eq, h0] at hs
  go_wp2_with fail
  have HE := ru8_at r l 0 1 rfl hs _ HR0.out.rd
  rw [hc] at HE
  refine HE.mono ?_; rintro e w2 ⟨rfl, h1, h2⟩
  clear HE
  have HM := Lib.hid (Rm.new (HR0.out.step h1 h2) #[.int .u8 c0, .int .u64 0, .int .u8 0, .int .u64 0])
  clear h1 h2 HR0
  go_wp2_with fail
  have her : (rd l 1).er = 10 := by unfold rd; rw [if_neg (by omega)]
  have HE := err_any r _ _ HM.out.rg.rd
  rw [her] at HE
  refine HE.mono ?_; rintro e w4 ⟨rfl, rfl⟩
  clear HE
  obtain ⟨c0', c1', c2', c3'⟩ := HM.out.rg.box.cells
  have f0 := HM.out.rg.box.one.frozen 0; have f1 := HM.out.rg.box.one.frozen 1; have f2 := HM.out.rg.box.one.frozen 2; have f3 := HM.out.rg.box.one.frozen 3
  have hlt := HM.out.rg.box.one.lt
  go_wp2_with fail
  have HF := Lib.hid (Box.four (a' := .int .u8 0) (b' := .int .u64 0) (c' := .int .u8 0) (d' := .int .u64 0) HM.out.rg.box)
  obtain ⟨d0, d1, d2, d3⟩ := HF.out.cells
  exact bodyPost_ret (v := .tuple #[.agg #[.int .u8 0, .int .u64 0, .int .u8 0, .int .u64 0], .int .i64 10]) (by simp [results, Tryz.results104, go_sem, d0, d1, d2, d3, hlt]) rfl ⟨rfl, HF.out.below⟩
set_option maxHeartbeats 4000000 in
theorem takec0_long (s : ByteArray) (l : List UInt8) (h0 : s.data.toList = l) (hs : s.size ≤ 1099511627776) (c0 : Nat) (h1' : ((c0 : Int) == 1) = false) (h2' : ((c0 : Int) == 2) = false) (h3' : ((c0 : Int) == 3) = false) (h4' : ((c0 : Int) == 4) = false) (hc : gt l 0 1 = c0) (hl : 1 < s.size) (w : World) :
    Calls Tryz.prog 104 #[.string s] w fun e w' => e = .returned (.tuple #[.agg #[.int .u8 0, .int .u64 0, .int .u8 0, .int .u64 0], .int .i64 4]) ∧ Below w.heap.size w w' := by
  rw [Lib.size_eq, h0] at hl
  have HX := Lib.hid (Box.new w 148 #[.int .u8 0, .int .u64 0, .int .u8 0, .int .u64 0])
  go_enter Tryz.func104, Tryz.ntmps104
  go_wp2_with fail
  refine (new_any s (by omega) _).mono ?_; rintro e w1 ⟨r, rfl, hr, hd, hb⟩
  rw [h0, ← rd_zero] at hd
  have HR0 := Lib.hid (Rg.new HX.out hr hd hb)
  clear hr hd hb HX
  rw [Lib.size_eq, h0] at hs
  go_wp2_with fail
  have HE := ru8_at r l 0 1 rfl hs _ HR0.out.rd
  rw [hc] at HE
  refine HE.mono ?_; rintro e w2 ⟨rfl, h1, h2⟩
  clear HE
  have HM := Lib.hid (Rm.new (HR0.out.step h1 h2) #[.int .u8 c0, .int .u64 0, .int .u8 0, .int .u64 0])
  clear h1 h2 HR0
  go_wp2_with fail
  have her : (rd l 1).er = 0 := by unfold rd; rw [if_pos (by omega)]
  have HE := err_any r _ _ HM.out.rg.rd
  rw [her] at HE
  refine HE.mono ?_; rintro e w4 ⟨rfl, rfl⟩
  clear HE
  go_wp2_with fail
  have hre : (rd l 1).rest = l.drop 1 := by unfold rd; rw [if_pos (by omega)]
  have HE := rest_any r _ _ HM.out.rg.rd
  rw [hre] at HE
  obtain ⟨T, hT⟩ : ∃ T, bs (l.drop 1) = T := ⟨_, rfl⟩
  have hTs : T.size = l.length - 1 := by rw [← hT, bs_size]; simp
  rw [hT] at HE
  have hne : T.toList.isEmpty = false := by
    rw [Lib.toList_data]
    rcases h : T.data.toList with _ | ⟨x, y⟩
    · rw [Lib.size_eq, h] at hTs; simp at hTs; omega
    · rfl
  clear hTs hT
  refine HE.mono ?_; rintro e w3 ⟨rfl, rfl⟩
  clear HE
  obtain ⟨c0', c1', c2', c3'⟩ := HM.out.rg.box.cells
  have f0 := HM.out.rg.box.one.frozen 0; have f1 := HM.out.rg.box.one.frozen 1; have f2 := HM.out.rg.box.one.frozen 2; have f3 := HM.out.rg.box.one.frozen 3
  have hlt := HM.out.rg.box.one.lt
  go_wp2_with fail
  have HF := Lib.hid (Box.four (a' := .int .u8 0) (b' := .int .u64 0) (c' := .int .u8 0) (d' := .int .u64 0) HM.out.rg.box)
  obtain ⟨d0, d1, d2, d3⟩ := HF.out.cells
  exact bodyPost_ret (v := .tuple #[.agg #[.int .u8 0, .int .u64 0, .int .u8 0, .int .u64 0], .int .i64 4]) (by simp [results, Tryz.results104, go_sem, d0, d1, d2, d3, hlt]) rfl ⟨rfl, HF.out.below⟩
set_option maxHeartbeats 4000000 in
theorem takec0_form (s : ByteArray) (l : List UInt8) (h0 : s.data.toList = l) (hs : s.size ≤ 1099511627776) (c0 : Nat) (h1' : ((c0 : Int) == 1) = false) (h2' : ((c0 : Int) == 2) = false) (h3' : ((c0 : Int) == 3) = false) (h4' : ((c0 : Int) == 4) = false) (hc : gt l 0 1 = c0) (hl : s.size = 1) (w : World) (H : ∀ w, Calls Tryz.prog 121 #[.agg #[.int .u8 c0, .int .u64 0, .int .u8 0, .int .u64 0]] w fun e w' => e = .returned (.bool false) ∧ Below w.heap.size w w') :
    Calls Tryz.prog 104 #[.string s] w fun e w' => e = .returned (.tuple #[.agg #[.int .u8 0, .int .u64 0, .int .u8 0, .int .u64 0], .int .i64 4]) ∧ Below w.heap.size w w' := by
  rw [Lib.size_eq, h0] at hl
  have HX := Lib.hid (Box.new w 148 #[.int .u8 0, .int .u64 0, .int .u8 0, .int .u64 0])
  go_enter Tryz.func104, Tryz.ntmps104
  go_wp2_with fail
  refine (new_any s (by omega) _).mono ?_; rintro e w1 ⟨r, rfl, hr, hd, hb⟩
  rw [h0, ← rd_zero] at hd
  have HR0 := Lib.hid (Rg.new HX.out hr hd hb)
  clear hr hd hb HX
  rw [Lib.size_eq, h0] at hs
  go_wp2_with fail
  have HE := ru8_at r l 0 1 rfl hs _ HR0.out.rd
  rw [hc] at HE
  refine HE.mono ?_; rintro e w2 ⟨rfl, h1, h2⟩
  clear HE
  have HM := Lib.hid (Rm.new (HR0.out.step h1 h2) #[.int .u8 c0, .int .u64 0, .int .u8 0, .int .u64 0])
  clear h1 h2 HR0
  go_wp2_with fail
  have her : (rd l 1).er = 0 := by unfold rd; rw [if_pos (by omega)]
  have HE := err_any r _ _ HM.out.rg.rd
  rw [her] at HE
  refine HE.mono ?_; rintro e w4 ⟨rfl, rfl⟩
  clear HE
  go_wp2_with fail
  have hre : (rd l 1).rest = [] := by unfold rd; rw [if_pos (by omega)]; exact List.drop_of_length_le (by omega)
  have HE := rest_any r _ _ HM.out.rg.rd
  rw [hre, bs_nil] at HE
  refine HE.mono ?_; rintro e w3 ⟨rfl, rfl⟩
  clear HE
  obtain ⟨m0, m1, m2, m3⟩ := HM.out.cells
  have hltm := HM.out.ms.lt
  go_wp2_with fail
  refine (H _).mono ?_; rintro e w5 ⟨rfl, hb⟩
  replace HM := Lib.hid (HM.out.later hb)
  clear hb m0 m1 m2 m3 hltm
  obtain ⟨c0', c1', c2', c3'⟩ := HM.out.rg.box.cells
  have f0 := HM.out.rg.box.one.frozen 0; have f1 := HM.out.rg.box.one.frozen 1; have f2 := HM.out.rg.box.one.frozen 2; have f3 := HM.out.rg.box.one.frozen 3
  have hlt := HM.out.rg.box.one.lt
  go_wp2_with fail
  have HF := Lib.hid (Box.four (a' := .int .u8 0) (b' := .int .u64 0) (c' := .int .u8 0) (d' := .int .u64 0) HM.out.rg.box)
  obtain ⟨d0, d1, d2, d3⟩ := HF.out.cells
  exact bodyPost_ret (v := .tuple #[.agg #[.int .u8 0, .int .u64 0, .int .u8 0, .int .u64 0], .int .i64 4]) (by simp [results, Tryz.results104, go_sem, d0, d1, d2, d3, hlt]) rfl ⟨rfl, HF.out.below⟩
set_option maxHeartbeats 4000000 in
theorem takec1_torn (s : ByteArray) (l : List UInt8) (h0 : s.data.toList = l) (hs : s.size ≤ 1099511627776) (hc : gt l 0 1 = 1) (N : Nat) (hN : gt l 1 5 = N) (hNb : N < 4294967296) (hl : s.size < 5) (w : World) :
    Calls Tryz.prog 104 #[.string s] w fun e w' => e = .returned (.tuple #[.agg #[.int .u8 0, .int .u64 0, .int .u8 0, .int .u64 0], .int .i64 10]) ∧ Below w.heap.size w w' := by
  rw [Lib.size_eq, h0] at hl
  have hcv1 : IntKind.u64.wrap (N : Int) = (N : Int) := by rw [IntKind.wrap_u64]; omega
  have hcv2 : (N : Int) % 18446744073709551616 = (N : Int) := by omega
  have HX := Lib.hid (Box.new w 148 #[.int .u8 0, .int .u64 0, .int .u8 0, .int .u64 0])
  go_enter Tryz.func104, Tryz.ntmps104
  go_wp2_with fail
  refine (new_any s (by omega) _).mono ?_; rintro e w1 ⟨r, rfl, hr, hd, hb⟩
  rw [h0, ← rd_zero] at hd
  have HR0 := Lib.hid (Rg.new HX.out hr hd hb)
  clear hr hd hb HX
  rw [Lib.size_eq, h0] at hs
  go_wp2_with fail
  have HE := ru8_at r l 0 1 rfl hs _ HR0.out.rd
  rw [hc] at HE
  refine HE.mono ?_; rintro e w2 ⟨rfl, h1, h2⟩
  clear HE
  have HM := Lib.hid (Rm.new (HR0.out.step h1 h2) #[.int .u8 1, .int .u64 0, .int .u8 0, .int .u64 0])
  clear h1 h2 HR0
  go_wp2_with fail
  have HE := ru32_at r l 1 5 rfl hs _ HM.out.rg.rd
  rw [hN] at HE
  refine HE.mono ?_; rintro e w3 ⟨rfl, h1, h2⟩
  clear HE
  replace HM := Lib.hid (HM.out.step h1 h2)
  clear h1 h2
  have g0 := HM.out.ms.frozen 0; have g1 := HM.out.ms.frozen 1; have g2 := HM.out.ms.frozen 2; have g3 := HM.out.ms.frozen 3
  have hltm := HM.out.ms.lt
  obtain ⟨m0, m1, m2, m3⟩ := HM.out.cells
  go_wp2_with fail
  replace HM := Lib.hid (show Rm w _ r _ _ #[.int .u8 1, .int .u64 N, .int .u8 0, .int .u64 0] _ from HM.out.put 1 (.int .u64 N))
  clear g0 g1 g2 g3 hltm m0 m1 m2 m3
  have her : (rd l 5).er = 10 := by unfold rd; rw [if_neg (by omega)]
  have HE := err_any r _ _ HM.out.rg.rd
  rw [her] at HE
  refine HE.mono ?_; rintro e w4 ⟨rfl, rfl⟩
  clear HE
  obtain ⟨c0', c1', c2', c3'⟩ := HM.out.rg.box.cells
  have f0 := HM.out.rg.box.one.frozen 0; have f1 := HM.out.rg.box.one.frozen 1; have f2 := HM.out.rg.box.one.frozen 2; have f3 := HM.out.rg.box.one.frozen 3
  have hlt := HM.out.rg.box.one.lt
  go_wp2_with fail
  have HF := Lib.hid (Box.four (a' := .int .u8 0) (b' := .int .u64 0) (c' := .int .u8 0) (d' := .int .u64 0) HM.out.rg.box)
  obtain ⟨d0, d1, d2, d3⟩ := HF.out.cells
  exact bodyPost_ret (v := .tuple #[.agg #[.int .u8 0, .int .u64 0, .int .u8 0, .int .u64 0], .int .i64 10]) (by simp [results, Tryz.results104, go_sem, d0, d1, d2, d3, hlt]) rfl ⟨rfl, HF.out.below⟩
set_option maxHeartbeats 4000000 in
theorem takec1_long (s : ByteArray) (l : List UInt8) (h0 : s.data.toList = l) (hs : s.size ≤ 1099511627776) (hc : gt l 0 1 = 1) (N : Nat) (hN : gt l 1 5 = N) (hNb : N < 4294967296) (hl : 5 < s.size) (w : World) :
    Calls Tryz.prog 104 #[.string s] w fun e w' => e = .returned (.tuple #[.agg #[.int .u8 0, .int .u64 0, .int .u8 0, .int .u64 0], .int .i64 4]) ∧ Below w.heap.size w w' := by
  rw [Lib.size_eq, h0] at hl
  have hcv1 : IntKind.u64.wrap (N : Int) = (N : Int) := by rw [IntKind.wrap_u64]; omega
  have hcv2 : (N : Int) % 18446744073709551616 = (N : Int) := by omega
  have HX := Lib.hid (Box.new w 148 #[.int .u8 0, .int .u64 0, .int .u8 0, .int .u64 0])
  go_enter Tryz.func104, Tryz.ntmps104
  go_wp2_with fail
  refine (new_any s (by omega) _).mono ?_; rintro e w1 ⟨r, rfl, hr, hd, hb⟩
  rw [h0, ← rd_zero] at hd
  have HR0 := Lib.hid (Rg.new HX.out hr hd hb)
  clear hr hd hb HX
  rw [Lib.size_eq, h0] at hs
  go_wp2_with fail
  have HE := ru8_at r l 0 1 rfl hs _ HR0.out.rd
  rw [hc] at HE
  refine HE.mono ?_; rintro e w2 ⟨rfl, h1, h2⟩
  clear HE
  have HM := Lib.hid (Rm.new (HR0.out.step h1 h2) #[.int .u8 1, .int .u64 0, .int .u8 0, .int .u64 0])
  clear h1 h2 HR0
  go_wp2_with fail
  have HE := ru32_at r l 1 5 rfl hs _ HM.out.rg.rd
  rw [hN] at HE
  refine HE.mono ?_; rintro e w3 ⟨rfl, h1, h2⟩
  clear HE
  replace HM := Lib.hid (HM.out.step h1 h2)
  clear h1 h2
  have g0 := HM.out.ms.frozen 0; have g1 := HM.out.ms.frozen 1; have g2 := HM.out.ms.frozen 2; have g3 := HM.out.ms.frozen 3
  have hltm := HM.out.ms.lt
  obtain ⟨m0, m1, m2, m3⟩ := HM.out.cells
  go_wp2_with fail
  replace HM := Lib.hid (show Rm w _ r _ _ #[.int .u8 1, .int .u64 N, .int .u8 0, .int .u64 0] _ from HM.out.put 1 (.int .u64 N))
  clear g0 g1 g2 g3 hltm m0 m1 m2 m3
  have her : (rd l 5).er = 0 := by unfold rd; rw [if_pos (by omega)]
  have HE := err_any r _ _ HM.out.rg.rd
  rw [her] at HE
  refine HE.mono ?_; rintro e w4 ⟨rfl, rfl⟩
  clear HE
  go_wp2_with fail
  have hre : (rd l 5).rest = l.drop 5 := by unfold rd; rw [if_pos (by omega)]
  have HE := rest_any r _ _ HM.out.rg.rd
  rw [hre] at HE
  obtain ⟨T, hT⟩ : ∃ T, bs (l.drop 5) = T := ⟨_, rfl⟩
  have hTs : T.size = l.length - 5 := by rw [← hT, bs_size]; simp
  rw [hT] at HE
  have hne : T.toList.isEmpty = false := by
    rw [Lib.toList_data]
    rcases h : T.data.toList with _ | ⟨x, y⟩
    · rw [Lib.size_eq, h] at hTs; simp at hTs; omega
    · rfl
  clear hTs hT
  refine HE.mono ?_; rintro e w3 ⟨rfl, rfl⟩
  clear HE
  obtain ⟨c0', c1', c2', c3'⟩ := HM.out.rg.box.cells
  have f0 := HM.out.rg.box.one.frozen 0; have f1 := HM.out.rg.box.one.frozen 1; have f2 := HM.out.rg.box.one.frozen 2; have f3 := HM.out.rg.box.one.frozen 3
  have hlt := HM.out.rg.box.one.lt
  go_wp2_with fail
  have HF := Lib.hid (Box.four (a' := .int .u8 0) (b' := .int .u64 0) (c' := .int .u8 0) (d' := .int .u64 0) HM.out.rg.box)
  obtain ⟨d0, d1, d2, d3⟩ := HF.out.cells
  exact bodyPost_ret (v := .tuple #[.agg #[.int .u8 0, .int .u64 0, .int .u8 0, .int .u64 0], .int .i64 4]) (by simp [results, Tryz.results104, go_sem, d0, d1, d2, d3, hlt]) rfl ⟨rfl, HF.out.below⟩
set_option maxHeartbeats 4000000 in
theorem takec1_form (s : ByteArray) (l : List UInt8) (h0 : s.data.toList = l) (hs : s.size ≤ 1099511627776) (hc : gt l 0 1 = 1) (N : Nat) (hN : gt l 1 5 = N) (hNb : N < 4294967296) (hl : s.size = 5) (w : World) (H : ∀ w, Calls Tryz.prog 121 #[.agg #[.int .u8 1, .int .u64 N, .int .u8 0, .int .u64 0]] w fun e w' => e = .returned (.bool false) ∧ Below w.heap.size w w') :
    Calls Tryz.prog 104 #[.string s] w fun e w' => e = .returned (.tuple #[.agg #[.int .u8 0, .int .u64 0, .int .u8 0, .int .u64 0], .int .i64 4]) ∧ Below w.heap.size w w' := by
  rw [Lib.size_eq, h0] at hl
  have hcv1 : IntKind.u64.wrap (N : Int) = (N : Int) := by rw [IntKind.wrap_u64]; omega
  have hcv2 : (N : Int) % 18446744073709551616 = (N : Int) := by omega
  have HX := Lib.hid (Box.new w 148 #[.int .u8 0, .int .u64 0, .int .u8 0, .int .u64 0])
  go_enter Tryz.func104, Tryz.ntmps104
  go_wp2_with fail
  refine (new_any s (by omega) _).mono ?_; rintro e w1 ⟨r, rfl, hr, hd, hb⟩
  rw [h0, ← rd_zero] at hd
  have HR0 := Lib.hid (Rg.new HX.out hr hd hb)
  clear hr hd hb HX
  rw [Lib.size_eq, h0] at hs
  go_wp2_with fail
  have HE := ru8_at r l 0 1 rfl hs _ HR0.out.rd
  rw [hc] at HE
  refine HE.mono ?_; rintro e w2 ⟨rfl, h1, h2⟩
  clear HE
  have HM := Lib.hid (Rm.new (HR0.out.step h1 h2) #[.int .u8 1, .int .u64 0, .int .u8 0, .int .u64 0])
  clear h1 h2 HR0
  go_wp2_with fail
  have HE := ru32_at r l 1 5 rfl hs _ HM.out.rg.rd
  rw [hN] at HE
  refine HE.mono ?_; rintro e w3 ⟨rfl, h1, h2⟩
  clear HE
  replace HM := Lib.hid (HM.out.step h1 h2)
  clear h1 h2
  have g0 := HM.out.ms.frozen 0; have g1 := HM.out.ms.frozen 1; have g2 := HM.out.ms.frozen 2; have g3 := HM.out.ms.frozen 3
  have hltm := HM.out.ms.lt
  obtain ⟨m0, m1, m2, m3⟩ := HM.out.cells
  go_wp2_with fail
  replace HM := Lib.hid (show Rm w _ r _ _ #[.int .u8 1, .int .u64 N, .int .u8 0, .int .u64 0] _ from HM.out.put 1 (.int .u64 N))
  clear g0 g1 g2 g3 hltm m0 m1 m2 m3
  have her : (rd l 5).er = 0 := by unfold rd; rw [if_pos (by omega)]
  have HE := err_any r _ _ HM.out.rg.rd
  rw [her] at HE
  refine HE.mono ?_; rintro e w4 ⟨rfl, rfl⟩
  clear HE
  go_wp2_with fail
  have hre : (rd l 5).rest = [] := by unfold rd; rw [if_pos (by omega)]; exact List.drop_of_length_le (by omega)
  have HE := rest_any r _ _ HM.out.rg.rd
  rw [hre, bs_nil] at HE
  refine HE.mono ?_; rintro e w3 ⟨rfl, rfl⟩
  clear HE
  obtain ⟨m0, m1, m2, m3⟩ := HM.out.cells
  have hltm := HM.out.ms.lt
  go_wp2_with fail
  refine (H _).mono ?_; rintro e w5 ⟨rfl, hb⟩
  replace HM := Lib.hid (HM.out.later hb)
  clear hb m0 m1 m2 m3 hltm
  obtain ⟨c0', c1', c2', c3'⟩ := HM.out.rg.box.cells
  have f0 := HM.out.rg.box.one.frozen 0; have f1 := HM.out.rg.box.one.frozen 1; have f2 := HM.out.rg.box.one.frozen 2; have f3 := HM.out.rg.box.one.frozen 3
  have hlt := HM.out.rg.box.one.lt
  go_wp2_with fail
  have HF := Lib.hid (Box.four (a' := .int .u8 0) (b' := .int .u64 0) (c' := .int .u8 0) (d' := .int .u64 0) HM.out.rg.box)
  obtain ⟨d0, d1, d2, d3⟩ := HF.out.cells
  exact bodyPost_ret (v := .tuple #[.agg #[.int .u8 0, .int .u64 0, .int .u8 0, .int .u64 0], .int .i64 4]) (by simp [results, Tryz.results104, go_sem, d0, d1, d2, d3, hlt]) rfl ⟨rfl, HF.out.below⟩
set_option maxHeartbeats 4000000 in
theorem takec1_ok (s : ByteArray) (l : List UInt8) (h0 : s.data.toList = l) (hs : s.size ≤ 1099511627776) (hc : gt l 0 1 = 1) (N : Nat) (hN : gt l 1 5 = N) (hNb : N < 4294967296) (hl : s.size = 5) (w : World) (H : ∀ w, Calls Tryz.prog 121 #[.agg #[.int .u8 1, .int .u64 N, .int .u8 0, .int .u64 0]] w fun e w' => e = .returned (.bool true) ∧ Below w.heap.size w w') :
    Calls Tryz.prog 104 #[.string s] w fun e w' => e = .returned (.tuple #[.agg #[.int .u8 1, .int .u64 N, .int .u8 0, .int .u64 0], .int .i64 0]) ∧ Below w.heap.size w w' := by
  rw [Lib.size_eq, h0] at hl
  have hcv1 : IntKind.u64.wrap (N : Int) = (N : Int) := by rw [IntKind.wrap_u64]; omega
  have hcv2 : (N : Int) % 18446744073709551616 = (N : Int) := by omega
  have HX := Lib.hid (Box.new w 148 #[.int .u8 0, .int .u64 0, .int .u8 0, .int .u64 0])
  go_enter Tryz.func104, Tryz.ntmps104
  go_wp2_with fail
  refine (new_any s (by omega) _).mono ?_; rintro e w1 ⟨r, rfl, hr, hd, hb⟩
  rw [h0, ← rd_zero] at hd
  have HR0 := Lib.hid (Rg.new HX.out hr hd hb)
  clear hr hd hb HX
  rw [Lib.size_eq, h0] at hs
  go_wp2_with fail
  have HE := ru8_at r l 0 1 rfl hs _ HR0.out.rd
  rw [hc] at HE
  refine HE.mono ?_; rintro e w2 ⟨rfl, h1, h2⟩
  clear HE
  have HM := Lib.hid (Rm.new (HR0.out.step h1 h2) #[.int .u8 1, .int .u64 0, .int .u8 0, .int .u64 0])
  clear h1 h2 HR0
  go_wp2_with fail
  have HE := ru32_at r l 1 5 rfl hs _ HM.out.rg.rd
  rw [hN] at HE
  refine HE.mono ?_; rintro e w3 ⟨rfl, h1, h2⟩
  clear HE
  replace HM := Lib.hid (HM.out.step h1 h2)
  clear h1 h2
  have g0 := HM.out.ms.frozen 0; have g1 := HM.out.ms.frozen 1; have g2 := HM.out.ms.frozen 2; have g3 := HM.out.ms.frozen 3
  have hltm := HM.out.ms.lt
  obtain ⟨m0, m1, m2, m3⟩ := HM.out.cells
  go_wp2_with fail
  replace HM := Lib.hid (show Rm w _ r _ _ #[.int .u8 1, .int .u64 N, .int .u8 0, .int .u64 0] _ from HM.out.put 1 (.int .u64 N))
  clear g0 g1 g2 g3 hltm m0 m1 m2 m3
  have her : (rd l 5).er = 0 := by unfold rd; rw [if_pos (by omega)]
  have HE := err_any r _ _ HM.out.rg.rd
  rw [her] at HE
  refine HE.mono ?_; rintro e w4 ⟨rfl, rfl⟩
  clear HE
  go_wp2_with fail
  have hre : (rd l 5).rest = [] := by unfold rd; rw [if_pos (by omega)]; exact List.drop_of_length_le (by omega)
  have HE := rest_any r _ _ HM.out.rg.rd
  rw [hre, bs_nil] at HE
  refine HE.mono ?_; rintro e w3 ⟨rfl, rfl⟩
  clear HE
  obtain ⟨m0, m1, m2, m3⟩ := HM.out.cells
  have hltm := HM.out.ms.lt
  go_wp2_with fail
  refine (H _).mono ?_; rintro e w5 ⟨rfl, hb⟩
  replace HM := Lib.hid (HM.out.later hb)
  clear hb m0 m1 m2 m3 hltm
  obtain ⟨m0, m1, m2, m3⟩ := HM.out.cells
  have hltm := HM.out.ms.lt
  obtain ⟨c0', c1', c2', c3'⟩ := HM.out.rg.box.cells
  have f0 := HM.out.rg.box.one.frozen 0; have f1 := HM.out.rg.box.one.frozen 1; have f2 := HM.out.rg.box.one.frozen 2; have f3 := HM.out.rg.box.one.frozen 3
  have hlt := HM.out.rg.box.one.lt
  go_wp2_with fail
  have HF := Lib.hid (Box.four (a' := .int .u8 1) (b' := .int .u64 N) (c' := .int .u8 0) (d' := .int .u64 0) HM.out.rg.box)
  obtain ⟨d0, d1, d2, d3⟩ := HF.out.cells
  exact bodyPost_ret (v := .tuple #[.agg #[.int .u8 1, .int .u64 N, .int .u8 0, .int .u64 0], .int .i64 0]) (by simp [results, Tryz.results104, go_sem, d0, d1, d2, d3, hlt]) rfl ⟨rfl, HF.out.below⟩
set_option maxHeartbeats 4000000 in
theorem takec2_torn (s : ByteArray) (l : List UInt8) (h0 : s.data.toList = l) (hs : s.size ≤ 1099511627776) (hc : gt l 0 1 = 2) (N : Nat) (hN : gt l 1 5 = N) (hNb : N < 4294967296) (hl : s.size < 5) (w : World) :
    Calls Tryz.prog 104 #[.string s] w fun e w' => e = .returned (.tuple #[.agg #[.int .u8 0, .int .u64 0, .int .u8 0, .int .u64 0], .int .i64 10]) ∧ Below w.heap.size w w' := by
  rw [Lib.size_eq, h0] at hl
  have hcv1 : IntKind.u64.wrap (N : Int) = (N : Int) := by rw [IntKind.wrap_u64]; omega
  have hcv2 : (N : Int) % 18446744073709551616 = (N : Int) := by omega
  have HX := Lib.hid (Box.new w 148 #[.int .u8 0, .int .u64 0, .int .u8 0, .int .u64 0])
  go_enter Tryz.func104, Tryz.ntmps104
  go_wp2_with fail
  refine (new_any s (by omega) _).mono ?_; rintro e w1 ⟨r, rfl, hr, hd, hb⟩
  rw [h0, ← rd_zero] at hd
  have HR0 := Lib.hid (Rg.new HX.out hr hd hb)
  clear hr hd hb HX
  rw [Lib.size_eq, h0] at hs
  go_wp2_with fail
  have HE := ru8_at r l 0 1 rfl hs _ HR0.out.rd
  rw [hc] at HE
  refine HE.mono ?_; rintro e w2 ⟨rfl, h1, h2⟩
  clear HE
  have HM := Lib.hid (Rm.new (HR0.out.step h1 h2) #[.int .u8 2, .int .u64 0, .int .u8 0, .int .u64 0])
  clear h1 h2 HR0
  go_wp2_with fail
  have HE := ru32_at r l 1 5 rfl hs _ HM.out.rg.rd
  rw [hN] at HE
  refine HE.mono ?_; rintro e w3 ⟨rfl, h1, h2⟩
  clear HE
  replace HM := Lib.hid (HM.out.step h1 h2)
  clear h1 h2
  have g0 := HM.out.ms.frozen 0; have g1 := HM.out.ms.frozen 1; have g2 := HM.out.ms.frozen 2; have g3 := HM.out.ms.frozen 3
  have hltm := HM.out.ms.lt
  obtain ⟨m0, m1, m2, m3⟩ := HM.out.cells
  go_wp2_with fail
  replace HM := Lib.hid (show Rm w _ r _ _ #[.int .u8 2, .int .u64 N, .int .u8 0, .int .u64 0] _ from HM.out.put 1 (.int .u64 N))
  clear g0 g1 g2 g3 hltm m0 m1 m2 m3
  have her : (rd l 5).er = 10 := by unfold rd; rw [if_neg (by omega)]
  have HE := err_any r _ _ HM.out.rg.rd
  rw [her] at HE
  refine HE.mono ?_; rintro e w4 ⟨rfl, rfl⟩
  clear HE
  obtain ⟨c0', c1', c2', c3'⟩ := HM.out.rg.box.cells
  have f0 := HM.out.rg.box.one.frozen 0; have f1 := HM.out.rg.box.one.frozen 1; have f2 := HM.out.rg.box.one.frozen 2; have f3 := HM.out.rg.box.one.frozen 3
  have hlt := HM.out.rg.box.one.lt
  go_wp2_with fail
  have HF := Lib.hid (Box.four (a' := .int .u8 0) (b' := .int .u64 0) (c' := .int .u8 0) (d' := .int .u64 0) HM.out.rg.box)
  obtain ⟨d0, d1, d2, d3⟩ := HF.out.cells
  exact bodyPost_ret (v := .tuple #[.agg #[.int .u8 0, .int .u64 0, .int .u8 0, .int .u64 0], .int .i64 10]) (by simp [results, Tryz.results104, go_sem, d0, d1, d2, d3, hlt]) rfl ⟨rfl, HF.out.below⟩
set_option maxHeartbeats 4000000 in
theorem takec2_long (s : ByteArray) (l : List UInt8) (h0 : s.data.toList = l) (hs : s.size ≤ 1099511627776) (hc : gt l 0 1 = 2) (N : Nat) (hN : gt l 1 5 = N) (hNb : N < 4294967296) (hl : 5 < s.size) (w : World) :
    Calls Tryz.prog 104 #[.string s] w fun e w' => e = .returned (.tuple #[.agg #[.int .u8 0, .int .u64 0, .int .u8 0, .int .u64 0], .int .i64 4]) ∧ Below w.heap.size w w' := by
  rw [Lib.size_eq, h0] at hl
  have hcv1 : IntKind.u64.wrap (N : Int) = (N : Int) := by rw [IntKind.wrap_u64]; omega
  have hcv2 : (N : Int) % 18446744073709551616 = (N : Int) := by omega
  have HX := Lib.hid (Box.new w 148 #[.int .u8 0, .int .u64 0, .int .u8 0, .int .u64 0])
  go_enter Tryz.func104, Tryz.ntmps104
  go_wp2_with fail
  refine (new_any s (by omega) _).mono ?_; rintro e w1 ⟨r, rfl, hr, hd, hb⟩
  rw [h0, ← rd_zero] at hd
  have HR0 := Lib.hid (Rg.new HX.out hr hd hb)
  clear hr hd hb HX
  rw [Lib.size_eq, h0] at hs
  go_wp2_with fail
  have HE := ru8_at r l 0 1 rfl hs _ HR0.out.rd
  rw [hc] at HE
  refine HE.mono ?_; rintro e w2 ⟨rfl, h1, h2⟩
  clear HE
  have HM := Lib.hid (Rm.new (HR0.out.step h1 h2) #[.int .u8 2, .int .u64 0, .int .u8 0, .int .u64 0])
  clear h1 h2 HR0
  go_wp2_with fail
  have HE := ru32_at r l 1 5 rfl hs _ HM.out.rg.rd
  rw [hN] at HE
  refine HE.mono ?_; rintro e w3 ⟨rfl, h1, h2⟩
  clear HE
  replace HM := Lib.hid (HM.out.step h1 h2)
  clear h1 h2
  have g0 := HM.out.ms.frozen 0; have g1 := HM.out.ms.frozen 1; have g2 := HM.out.ms.frozen 2; have g3 := HM.out.ms.frozen 3
  have hltm := HM.out.ms.lt
  obtain ⟨m0, m1, m2, m3⟩ := HM.out.cells
  go_wp2_with fail
  replace HM := Lib.hid (show Rm w _ r _ _ #[.int .u8 2, .int .u64 N, .int .u8 0, .int .u64 0] _ from HM.out.put 1 (.int .u64 N))
  clear g0 g1 g2 g3 hltm m0 m1 m2 m3
  have her : (rd l 5).er = 0 := by unfold rd; rw [if_pos (by omega)]
  have HE := err_any r _ _ HM.out.rg.rd
  rw [her] at HE
  refine HE.mono ?_; rintro e w4 ⟨rfl, rfl⟩
  clear HE
  go_wp2_with fail
  have hre : (rd l 5).rest = l.drop 5 := by unfold rd; rw [if_pos (by omega)]
  have HE := rest_any r _ _ HM.out.rg.rd
  rw [hre] at HE
  obtain ⟨T, hT⟩ : ∃ T, bs (l.drop 5) = T := ⟨_, rfl⟩
  have hTs : T.size = l.length - 5 := by rw [← hT, bs_size]; simp
  rw [hT] at HE
  have hne : T.toList.isEmpty = false := by
    rw [Lib.toList_data]
    rcases h : T.data.toList with _ | ⟨x, y⟩
    · rw [Lib.size_eq, h] at hTs; simp at hTs; omega
    · rfl
  clear hTs hT
  refine HE.mono ?_; rintro e w3 ⟨rfl, rfl⟩
  clear HE
  obtain ⟨c0', c1', c2', c3'⟩ := HM.out.rg.box.cells
  have f0 := HM.out.rg.box.one.frozen 0; have f1 := HM.out.rg.box.one.frozen 1; have f2 := HM.out.rg.box.one.frozen 2; have f3 := HM.out.rg.box.one.frozen 3
  have hlt := HM.out.rg.box.one.lt
  go_wp2_with fail
  have HF := Lib.hid (Box.four (a' := .int .u8 0) (b' := .int .u64 0) (c' := .int .u8 0) (d' := .int .u64 0) HM.out.rg.box)
  obtain ⟨d0, d1, d2, d3⟩ := HF.out.cells
  exact bodyPost_ret (v := .tuple #[.agg #[.int .u8 0, .int .u64 0, .int .u8 0, .int .u64 0], .int .i64 4]) (by simp [results, Tryz.results104, go_sem, d0, d1, d2, d3, hlt]) rfl ⟨rfl, HF.out.below⟩
set_option maxHeartbeats 4000000 in
theorem takec2_form (s : ByteArray) (l : List UInt8) (h0 : s.data.toList = l) (hs : s.size ≤ 1099511627776) (hc : gt l 0 1 = 2) (N : Nat) (hN : gt l 1 5 = N) (hNb : N < 4294967296) (hl : s.size = 5) (w : World) (H : ∀ w, Calls Tryz.prog 121 #[.agg #[.int .u8 2, .int .u64 N, .int .u8 0, .int .u64 0]] w fun e w' => e = .returned (.bool false) ∧ Below w.heap.size w w') :
    Calls Tryz.prog 104 #[.string s] w fun e w' => e = .returned (.tuple #[.agg #[.int .u8 0, .int .u64 0, .int .u8 0, .int .u64 0], .int .i64 4]) ∧ Below w.heap.size w w' := by
  rw [Lib.size_eq, h0] at hl
  have hcv1 : IntKind.u64.wrap (N : Int) = (N : Int) := by rw [IntKind.wrap_u64]; omega
  have hcv2 : (N : Int) % 18446744073709551616 = (N : Int) := by omega
  have HX := Lib.hid (Box.new w 148 #[.int .u8 0, .int .u64 0, .int .u8 0, .int .u64 0])
  go_enter Tryz.func104, Tryz.ntmps104
  go_wp2_with fail
  refine (new_any s (by omega) _).mono ?_; rintro e w1 ⟨r, rfl, hr, hd, hb⟩
  rw [h0, ← rd_zero] at hd
  have HR0 := Lib.hid (Rg.new HX.out hr hd hb)
  clear hr hd hb HX
  rw [Lib.size_eq, h0] at hs
  go_wp2_with fail
  have HE := ru8_at r l 0 1 rfl hs _ HR0.out.rd
  rw [hc] at HE
  refine HE.mono ?_; rintro e w2 ⟨rfl, h1, h2⟩
  clear HE
  have HM := Lib.hid (Rm.new (HR0.out.step h1 h2) #[.int .u8 2, .int .u64 0, .int .u8 0, .int .u64 0])
  clear h1 h2 HR0
  go_wp2_with fail
  have HE := ru32_at r l 1 5 rfl hs _ HM.out.rg.rd
  rw [hN] at HE
  refine HE.mono ?_; rintro e w3 ⟨rfl, h1, h2⟩
  clear HE
  replace HM := Lib.hid (HM.out.step h1 h2)
  clear h1 h2
  have g0 := HM.out.ms.frozen 0; have g1 := HM.out.ms.frozen 1; have g2 := HM.out.ms.frozen 2; have g3 := HM.out.ms.frozen 3
  have hltm := HM.out.ms.lt
  obtain ⟨m0, m1, m2, m3⟩ := HM.out.cells
  go_wp2_with fail
  replace HM := Lib.hid (show Rm w _ r _ _ #[.int .u8 2, .int .u64 N, .int .u8 0, .int .u64 0] _ from HM.out.put 1 (.int .u64 N))
  clear g0 g1 g2 g3 hltm m0 m1 m2 m3
  have her : (rd l 5).er = 0 := by unfold rd; rw [if_pos (by omega)]
  have HE := err_any r _ _ HM.out.rg.rd
  rw [her] at HE
  refine HE.mono ?_; rintro e w4 ⟨rfl, rfl⟩
  clear HE
  go_wp2_with fail
  have hre : (rd l 5).rest = [] := by unfold rd; rw [if_pos (by omega)]; exact List.drop_of_length_le (by omega)
  have HE := rest_any r _ _ HM.out.rg.rd
  rw [hre, bs_nil] at HE
  refine HE.mono ?_; rintro e w3 ⟨rfl, rfl⟩
  clear HE
  obtain ⟨m0, m1, m2, m3⟩ := HM.out.cells
  have hltm := HM.out.ms.lt
  go_wp2_with fail
  refine (H _).mono ?_; rintro e w5 ⟨rfl, hb⟩
  replace HM := Lib.hid (HM.out.later hb)
  clear hb m0 m1 m2 m3 hltm
  obtain ⟨c0', c1', c2', c3'⟩ := HM.out.rg.box.cells
  have f0 := HM.out.rg.box.one.frozen 0; have f1 := HM.out.rg.box.one.frozen 1; have f2 := HM.out.rg.box.one.frozen 2; have f3 := HM.out.rg.box.one.frozen 3
  have hlt := HM.out.rg.box.one.lt
  go_wp2_with fail
  have HF := Lib.hid (Box.four (a' := .int .u8 0) (b' := .int .u64 0) (c' := .int .u8 0) (d' := .int .u64 0) HM.out.rg.box)
  obtain ⟨d0, d1, d2, d3⟩ := HF.out.cells
  exact bodyPost_ret (v := .tuple #[.agg #[.int .u8 0, .int .u64 0, .int .u8 0, .int .u64 0], .int .i64 4]) (by simp [results, Tryz.results104, go_sem, d0, d1, d2, d3, hlt]) rfl ⟨rfl, HF.out.below⟩
set_option maxHeartbeats 4000000 in
theorem takec2_ok (s : ByteArray) (l : List UInt8) (h0 : s.data.toList = l) (hs : s.size ≤ 1099511627776) (hc : gt l 0 1 = 2) (N : Nat) (hN : gt l 1 5 = N) (hNb : N < 4294967296) (hl : s.size = 5) (w : World) (H : ∀ w, Calls Tryz.prog 121 #[.agg #[.int .u8 2, .int .u64 N, .int .u8 0, .int .u64 0]] w fun e w' => e = .returned (.bool true) ∧ Below w.heap.size w w') :
    Calls Tryz.prog 104 #[.string s] w fun e w' => e = .returned (.tuple #[.agg #[.int .u8 2, .int .u64 N, .int .u8 0, .int .u64 0], .int .i64 0]) ∧ Below w.heap.size w w' := by
  rw [Lib.size_eq, h0] at hl
  have hcv1 : IntKind.u64.wrap (N : Int) = (N : Int) := by rw [IntKind.wrap_u64]; omega
  have hcv2 : (N : Int) % 18446744073709551616 = (N : Int) := by omega
  have HX := Lib.hid (Box.new w 148 #[.int .u8 0, .int .u64 0, .int .u8 0, .int .u64 0])
  go_enter Tryz.func104, Tryz.ntmps104
  go_wp2_with fail
  refine (new_any s (by omega) _).mono ?_; rintro e w1 ⟨r, rfl, hr, hd, hb⟩
  rw [h0, ← rd_zero] at hd
  have HR0 := Lib.hid (Rg.new HX.out hr hd hb)
  clear hr hd hb HX
  rw [Lib.size_eq, h0] at hs
  go_wp2_with fail
  have HE := ru8_at r l 0 1 rfl hs _ HR0.out.rd
  rw [hc] at HE
  refine HE.mono ?_; rintro e w2 ⟨rfl, h1, h2⟩
  clear HE
  have HM := Lib.hid (Rm.new (HR0.out.step h1 h2) #[.int .u8 2, .int .u64 0, .int .u8 0, .int .u64 0])
  clear h1 h2 HR0
  go_wp2_with fail
  have HE := ru32_at r l 1 5 rfl hs _ HM.out.rg.rd
  rw [hN] at HE
  refine HE.mono ?_; rintro e w3 ⟨rfl, h1, h2⟩
  clear HE
  replace HM := Lib.hid (HM.out.step h1 h2)
  clear h1 h2
  have g0 := HM.out.ms.frozen 0; have g1 := HM.out.ms.frozen 1; have g2 := HM.out.ms.frozen 2; have g3 := HM.out.ms.frozen 3
  have hltm := HM.out.ms.lt
  obtain ⟨m0, m1, m2, m3⟩ := HM.out.cells
  go_wp2_with fail
  replace HM := Lib.hid (show Rm w _ r _ _ #[.int .u8 2, .int .u64 N, .int .u8 0, .int .u64 0] _ from HM.out.put 1 (.int .u64 N))
  clear g0 g1 g2 g3 hltm m0 m1 m2 m3
  have her : (rd l 5).er = 0 := by unfold rd; rw [if_pos (by omega)]
  have HE := err_any r _ _ HM.out.rg.rd
  rw [her] at HE
  refine HE.mono ?_; rintro e w4 ⟨rfl, rfl⟩
  clear HE
  go_wp2_with fail
  have hre : (rd l 5).rest = [] := by unfold rd; rw [if_pos (by omega)]; exact List.drop_of_length_le (by omega)
  have HE := rest_any r _ _ HM.out.rg.rd
  rw [hre, bs_nil] at HE
  refine HE.mono ?_; rintro e w3 ⟨rfl, rfl⟩
  clear HE
  obtain ⟨m0, m1, m2, m3⟩ := HM.out.cells
  have hltm := HM.out.ms.lt
  go_wp2_with fail
  refine (H _).mono ?_; rintro e w5 ⟨rfl, hb⟩
  replace HM := Lib.hid (HM.out.later hb)
  clear hb m0 m1 m2 m3 hltm
  obtain ⟨m0, m1, m2, m3⟩ := HM.out.cells
  have hltm := HM.out.ms.lt
  obtain ⟨c0', c1', c2', c3'⟩ := HM.out.rg.box.cells
  have f0 := HM.out.rg.box.one.frozen 0; have f1 := HM.out.rg.box.one.frozen 1; have f2 := HM.out.rg.box.one.frozen 2; have f3 := HM.out.rg.box.one.frozen 3
  have hlt := HM.out.rg.box.one.lt
  go_wp2_with fail
  have HF := Lib.hid (Box.four (a' := .int .u8 2) (b' := .int .u64 N) (c' := .int .u8 0) (d' := .int .u64 0) HM.out.rg.box)
  obtain ⟨d0, d1, d2, d3⟩ := HF.out.cells
  exact bodyPost_ret (v := .tuple #[.agg #[.int .u8 2, .int .u64 N, .int .u8 0, .int .u64 0], .int .i64 0]) (by simp [results, Tryz.results104, go_sem, d0, d1, d2, d3, hlt]) rfl ⟨rfl, HF.out.below⟩
set_option maxHeartbeats 4000000 in
theorem takec3_torn (s : ByteArray) (l : List UInt8) (h0 : s.data.toList = l) (hs : s.size ≤ 1099511627776) (hc : gt l 0 1 = 3) (O B : Nat) (hO : gt l 1 2 = O) (hB : gt l 2 10 = B) (hl : s.size < 10) (w : World) :
    Calls Tryz.prog 104 #[.string s] w fun e w' => e = .returned (.tuple #[.agg #[.int .u8 0, .int .u64 0, .int .u8 0, .int .u64 0], .int .i64 10]) ∧ Below w.heap.size w w' := by
  rw [Lib.size_eq, h0] at hl
  have HX := Lib.hid (Box.new w 148 #[.int .u8 0, .int .u64 0, .int .u8 0, .int .u64 0])
  go_enter Tryz.func104, Tryz.ntmps104
  go_wp2_with fail
  refine (new_any s (by omega) _).mono ?_; rintro e w1 ⟨r, rfl, hr, hd, hb⟩
  rw [h0, ← rd_zero] at hd
  have HR0 := Lib.hid (Rg.new HX.out hr hd hb)
  clear hr hd hb HX
  rw [Lib.size_eq, h0] at hs
  go_wp2_with fail
  have HE := ru8_at r l 0 1 rfl hs _ HR0.out.rd
  rw [hc] at HE
  refine HE.mono ?_; rintro e w2 ⟨rfl, h1, h2⟩
  clear HE
  have HM := Lib.hid (Rm.new (HR0.out.step h1 h2) #[.int .u8 3, .int .u64 0, .int .u8 0, .int .u64 0])
  clear h1 h2 HR0
  go_wp2_with fail
  have HE := ru8_at r l 1 2 rfl hs _ HM.out.rg.rd
  rw [hO] at HE
  refine HE.mono ?_; rintro e w3 ⟨rfl, h1, h2⟩
  clear HE
  replace HM := Lib.hid (HM.out.step h1 h2)
  clear h1 h2
  go_wp2_with fail
  have HE := ru64_at r l 2 10 rfl hs _ HM.out.rg.rd
  rw [hB] at HE
  refine HE.mono ?_; rintro e w3 ⟨rfl, h1, h2⟩
  clear HE
  replace HM := Lib.hid (HM.out.step h1 h2)
  clear h1 h2
  have g0 := HM.out.ms.frozen 0; have g1 := HM.out.ms.frozen 1; have g2 := HM.out.ms.frozen 2; have g3 := HM.out.ms.frozen 3
  have hltm := HM.out.ms.lt
  obtain ⟨m0, m1, m2, m3⟩ := HM.out.cells
  go_wp2_with fail
  replace HM := Lib.hid (show Rm w _ r _ _ #[.int .u8 3, .int .u64 0, .int .u8 O, .int .u64 B] _ from (HM.out.put 2 (.int .u8 O)).put 3 (.int .u64 B))
  clear g0 g1 g2 g3 hltm m0 m1 m2 m3
  have her : (rd l 10).er = 10 := by unfold rd; rw [if_neg (by omega)]
  have HE := err_any r _ _ HM.out.rg.rd
  rw [her] at HE
  refine HE.mono ?_; rintro e w4 ⟨rfl, rfl⟩
  clear HE
  obtain ⟨c0', c1', c2', c3'⟩ := HM.out.rg.box.cells
  have f0 := HM.out.rg.box.one.frozen 0; have f1 := HM.out.rg.box.one.frozen 1; have f2 := HM.out.rg.box.one.frozen 2; have f3 := HM.out.rg.box.one.frozen 3
  have hlt := HM.out.rg.box.one.lt
  go_wp2_with fail
  have HF := Lib.hid (Box.four (a' := .int .u8 0) (b' := .int .u64 0) (c' := .int .u8 0) (d' := .int .u64 0) HM.out.rg.box)
  obtain ⟨d0, d1, d2, d3⟩ := HF.out.cells
  exact bodyPost_ret (v := .tuple #[.agg #[.int .u8 0, .int .u64 0, .int .u8 0, .int .u64 0], .int .i64 10]) (by simp [results, Tryz.results104, go_sem, d0, d1, d2, d3, hlt]) rfl ⟨rfl, HF.out.below⟩
set_option maxHeartbeats 4000000 in
theorem takec3_long (s : ByteArray) (l : List UInt8) (h0 : s.data.toList = l) (hs : s.size ≤ 1099511627776) (hc : gt l 0 1 = 3) (O B : Nat) (hO : gt l 1 2 = O) (hB : gt l 2 10 = B) (hl : 10 < s.size) (w : World) :
    Calls Tryz.prog 104 #[.string s] w fun e w' => e = .returned (.tuple #[.agg #[.int .u8 0, .int .u64 0, .int .u8 0, .int .u64 0], .int .i64 4]) ∧ Below w.heap.size w w' := by
  rw [Lib.size_eq, h0] at hl
  have HX := Lib.hid (Box.new w 148 #[.int .u8 0, .int .u64 0, .int .u8 0, .int .u64 0])
  go_enter Tryz.func104, Tryz.ntmps104
  go_wp2_with fail
  refine (new_any s (by omega) _).mono ?_; rintro e w1 ⟨r, rfl, hr, hd, hb⟩
  rw [h0, ← rd_zero] at hd
  have HR0 := Lib.hid (Rg.new HX.out hr hd hb)
  clear hr hd hb HX
  rw [Lib.size_eq, h0] at hs
  go_wp2_with fail
  have HE := ru8_at r l 0 1 rfl hs _ HR0.out.rd
  rw [hc] at HE
  refine HE.mono ?_; rintro e w2 ⟨rfl, h1, h2⟩
  clear HE
  have HM := Lib.hid (Rm.new (HR0.out.step h1 h2) #[.int .u8 3, .int .u64 0, .int .u8 0, .int .u64 0])
  clear h1 h2 HR0
  go_wp2_with fail
  have HE := ru8_at r l 1 2 rfl hs _ HM.out.rg.rd
  rw [hO] at HE
  refine HE.mono ?_; rintro e w3 ⟨rfl, h1, h2⟩
  clear HE
  replace HM := Lib.hid (HM.out.step h1 h2)
  clear h1 h2
  go_wp2_with fail
  have HE := ru64_at r l 2 10 rfl hs _ HM.out.rg.rd
  rw [hB] at HE
  refine HE.mono ?_; rintro e w3 ⟨rfl, h1, h2⟩
  clear HE
  replace HM := Lib.hid (HM.out.step h1 h2)
  clear h1 h2
  have g0 := HM.out.ms.frozen 0; have g1 := HM.out.ms.frozen 1; have g2 := HM.out.ms.frozen 2; have g3 := HM.out.ms.frozen 3
  have hltm := HM.out.ms.lt
  obtain ⟨m0, m1, m2, m3⟩ := HM.out.cells
  go_wp2_with fail
  replace HM := Lib.hid (show Rm w _ r _ _ #[.int .u8 3, .int .u64 0, .int .u8 O, .int .u64 B] _ from (HM.out.put 2 (.int .u8 O)).put 3 (.int .u64 B))
  clear g0 g1 g2 g3 hltm m0 m1 m2 m3
  have her : (rd l 10).er = 0 := by unfold rd; rw [if_pos (by omega)]
  have HE := err_any r _ _ HM.out.rg.rd
  rw [her] at HE
  refine HE.mono ?_; rintro e w4 ⟨rfl, rfl⟩
  clear HE
  go_wp2_with fail
  have hre : (rd l 10).rest = l.drop 10 := by unfold rd; rw [if_pos (by omega)]
  have HE := rest_any r _ _ HM.out.rg.rd
  rw [hre] at HE
  obtain ⟨T, hT⟩ : ∃ T, bs (l.drop 10) = T := ⟨_, rfl⟩
  have hTs : T.size = l.length - 10 := by rw [← hT, bs_size]; simp
  rw [hT] at HE
  have hne : T.toList.isEmpty = false := by
    rw [Lib.toList_data]
    rcases h : T.data.toList with _ | ⟨x, y⟩
    · rw [Lib.size_eq, h] at hTs; simp at hTs; omega
    · rfl
  clear hTs hT
  refine HE.mono ?_; rintro e w3 ⟨rfl, rfl⟩
  clear HE
  obtain ⟨c0', c1', c2', c3'⟩ := HM.out.rg.box.cells
  have f0 := HM.out.rg.box.one.frozen 0; have f1 := HM.out.rg.box.one.frozen 1; have f2 := HM.out.rg.box.one.frozen 2; have f3 := HM.out.rg.box.one.frozen 3
  have hlt := HM.out.rg.box.one.lt
  go_wp2_with fail
  have HF := Lib.hid (Box.four (a' := .int .u8 0) (b' := .int .u64 0) (c' := .int .u8 0) (d' := .int .u64 0) HM.out.rg.box)
  obtain ⟨d0, d1, d2, d3⟩ := HF.out.cells
  exact bodyPost_ret (v := .tuple #[.agg #[.int .u8 0, .int .u64 0, .int .u8 0, .int .u64 0], .int .i64 4]) (by simp [results, Tryz.results104, go_sem, d0, d1, d2, d3, hlt]) rfl ⟨rfl, HF.out.below⟩
set_option maxHeartbeats 4000000 in
theorem takec3_form (s : ByteArray) (l : List UInt8) (h0 : s.data.toList = l) (hs : s.size ≤ 1099511627776) (hc : gt l 0 1 = 3) (O B : Nat) (hO : gt l 1 2 = O) (hB : gt l 2 10 = B) (hl : s.size = 10) (w : World) (H : ∀ w, Calls Tryz.prog 121 #[.agg #[.int .u8 3, .int .u64 0, .int .u8 O, .int .u64 B]] w fun e w' => e = .returned (.bool false) ∧ Below w.heap.size w w') :
    Calls Tryz.prog 104 #[.string s] w fun e w' => e = .returned (.tuple #[.agg #[.int .u8 0, .int .u64 0, .int .u8 0, .int .u64 0], .int .i64 4]) ∧ Below w.heap.size w w' := by
  rw [Lib.size_eq, h0] at hl
  have HX := Lib.hid (Box.new w 148 #[.int .u8 0, .int .u64 0, .int .u8 0, .int .u64 0])
  go_enter Tryz.func104, Tryz.ntmps104
  go_wp2_with fail
  refine (new_any s (by omega) _).mono ?_; rintro e w1 ⟨r, rfl, hr, hd, hb⟩
  rw [h0, ← rd_zero] at hd
  have HR0 := Lib.hid (Rg.new HX.out hr hd hb)
  clear hr hd hb HX
  rw [Lib.size_eq, h0] at hs
  go_wp2_with fail
  have HE := ru8_at r l 0 1 rfl hs _ HR0.out.rd
  rw [hc] at HE
  refine HE.mono ?_; rintro e w2 ⟨rfl, h1, h2⟩
  clear HE
  have HM := Lib.hid (Rm.new (HR0.out.step h1 h2) #[.int .u8 3, .int .u64 0, .int .u8 0, .int .u64 0])
  clear h1 h2 HR0
  go_wp2_with fail
  have HE := ru8_at r l 1 2 rfl hs _ HM.out.rg.rd
  rw [hO] at HE
  refine HE.mono ?_; rintro e w3 ⟨rfl, h1, h2⟩
  clear HE
  replace HM := Lib.hid (HM.out.step h1 h2)
  clear h1 h2
  go_wp2_with fail
  have HE := ru64_at r l 2 10 rfl hs _ HM.out.rg.rd
  rw [hB] at HE
  refine HE.mono ?_; rintro e w3 ⟨rfl, h1, h2⟩
  clear HE
  replace HM := Lib.hid (HM.out.step h1 h2)
  clear h1 h2
  have g0 := HM.out.ms.frozen 0; have g1 := HM.out.ms.frozen 1; have g2 := HM.out.ms.frozen 2; have g3 := HM.out.ms.frozen 3
  have hltm := HM.out.ms.lt
  obtain ⟨m0, m1, m2, m3⟩ := HM.out.cells
  go_wp2_with fail
  replace HM := Lib.hid (show Rm w _ r _ _ #[.int .u8 3, .int .u64 0, .int .u8 O, .int .u64 B] _ from (HM.out.put 2 (.int .u8 O)).put 3 (.int .u64 B))
  clear g0 g1 g2 g3 hltm m0 m1 m2 m3
  have her : (rd l 10).er = 0 := by unfold rd; rw [if_pos (by omega)]
  have HE := err_any r _ _ HM.out.rg.rd
  rw [her] at HE
  refine HE.mono ?_; rintro e w4 ⟨rfl, rfl⟩
  clear HE
  go_wp2_with fail
  have hre : (rd l 10).rest = [] := by unfold rd; rw [if_pos (by omega)]; exact List.drop_of_length_le (by omega)
  have HE := rest_any r _ _ HM.out.rg.rd
  rw [hre, bs_nil] at HE
  refine HE.mono ?_; rintro e w3 ⟨rfl, rfl⟩
  clear HE
  obtain ⟨m0, m1, m2, m3⟩ := HM.out.cells
  have hltm := HM.out.ms.lt
  go_wp2_with fail
  refine (H _).mono ?_; rintro e w5 ⟨rfl, hb⟩
  replace HM := Lib.hid (HM.out.later hb)
  clear hb m0 m1 m2 m3 hltm
  obtain ⟨c0', c1', c2', c3'⟩ := HM.out.rg.box.cells
  have f0 := HM.out.rg.box.one.frozen 0; have f1 := HM.out.rg.box.one.frozen 1; have f2 := HM.out.rg.box.one.frozen 2; have f3 := HM.out.rg.box.one.frozen 3
  have hlt := HM.out.rg.box.one.lt
  go_wp2_with fail
  have HF := Lib.hid (Box.four (a' := .int .u8 0) (b' := .int .u64 0) (c' := .int .u8 0) (d' := .int .u64 0) HM.out.rg.box)
  obtain ⟨d0, d1, d2, d3⟩ := HF.out.cells
  exact bodyPost_ret (v := .tuple #[.agg #[.int .u8 0, .int .u64 0, .int .u8 0, .int .u64 0], .int .i64 4]) (by simp [results, Tryz.results104, go_sem, d0, d1, d2, d3, hlt]) rfl ⟨rfl, HF.out.below⟩
set_option maxHeartbeats 4000000 in
theorem takec3_ok (s : ByteArray) (l : List UInt8) (h0 : s.data.toList = l) (hs : s.size ≤ 1099511627776) (hc : gt l 0 1 = 3) (O B : Nat) (hO : gt l 1 2 = O) (hB : gt l 2 10 = B) (hl : s.size = 10) (w : World) (H : ∀ w, Calls Tryz.prog 121 #[.agg #[.int .u8 3, .int .u64 0, .int .u8 O, .int .u64 B]] w fun e w' => e = .returned (.bool true) ∧ Below w.heap.size w w') :
    Calls Tryz.prog 104 #[.string s] w fun e w' => e = .returned (.tuple #[.agg #[.int .u8 3, .int .u64 0, .int .u8 O, .int .u64 B], .int .i64 0]) ∧ Below w.heap.size w w' := by
  rw [Lib.size_eq, h0] at hl
  have HX := Lib.hid (Box.new w 148 #[.int .u8 0, .int .u64 0, .int .u8 0, .int .u64 0])
  go_enter Tryz.func104, Tryz.ntmps104
  go_wp2_with fail
  refine (new_any s (by omega) _).mono ?_; rintro e w1 ⟨r, rfl, hr, hd, hb⟩
  rw [h0, ← rd_zero] at hd
  have HR0 := Lib.hid (Rg.new HX.out hr hd hb)
  clear hr hd hb HX
  rw [Lib.size_eq, h0] at hs
  go_wp2_with fail
  have HE := ru8_at r l 0 1 rfl hs _ HR0.out.rd
  rw [hc] at HE
  refine HE.mono ?_; rintro e w2 ⟨rfl, h1, h2⟩
  clear HE
  have HM := Lib.hid (Rm.new (HR0.out.step h1 h2) #[.int .u8 3, .int .u64 0, .int .u8 0, .int .u64 0])
  clear h1 h2 HR0
  go_wp2_with fail
  have HE := ru8_at r l 1 2 rfl hs _ HM.out.rg.rd
  rw [hO] at HE
  refine HE.mono ?_; rintro e w3 ⟨rfl, h1, h2⟩
  clear HE
  replace HM := Lib.hid (HM.out.step h1 h2)
  clear h1 h2
  go_wp2_with fail
  have HE := ru64_at r l 2 10 rfl hs _ HM.out.rg.rd
  rw [hB] at HE
  refine HE.mono ?_; rintro e w3 ⟨rfl, h1, h2⟩
  clear HE
  replace HM := Lib.hid (HM.out.step h1 h2)
  clear h1 h2
  have g0 := HM.out.ms.frozen 0; have g1 := HM.out.ms.frozen 1; have g2 := HM.out.ms.frozen 2; have g3 := HM.out.ms.frozen 3
  have hltm := HM.out.ms.lt
  obtain ⟨m0, m1, m2, m3⟩ := HM.out.cells
  go_wp2_with fail
  replace HM := Lib.hid (show Rm w _ r _ _ #[.int .u8 3, .int .u64 0, .int .u8 O, .int .u64 B] _ from (HM.out.put 2 (.int .u8 O)).put 3 (.int .u64 B))
  clear g0 g1 g2 g3 hltm m0 m1 m2 m3
  have her : (rd l 10).er = 0 := by unfold rd; rw [if_pos (by omega)]
  have HE := err_any r _ _ HM.out.rg.rd
  rw [her] at HE
  refine HE.mono ?_; rintro e w4 ⟨rfl, rfl⟩
  clear HE
  go_wp2_with fail
  have hre : (rd l 10).rest = [] := by unfold rd; rw [if_pos (by omega)]; exact List.drop_of_length_le (by omega)
  have HE := rest_any r _ _ HM.out.rg.rd
  rw [hre, bs_nil] at HE
  refine HE.mono ?_; rintro e w3 ⟨rfl, rfl⟩
  clear HE
  obtain ⟨m0, m1, m2, m3⟩ := HM.out.cells
  have hltm := HM.out.ms.lt
  go_wp2_with fail
  refine (H _).mono ?_; rintro e w5 ⟨rfl, hb⟩
  replace HM := Lib.hid (HM.out.later hb)
  clear hb m0 m1 m2 m3 hltm
  obtain ⟨m0, m1, m2, m3⟩ := HM.out.cells
  have hltm := HM.out.ms.lt
  obtain ⟨c0', c1', c2', c3'⟩ := HM.out.rg.box.cells
  have f0 := HM.out.rg.box.one.frozen 0; have f1 := HM.out.rg.box.one.frozen 1; have f2 := HM.out.rg.box.one.frozen 2; have f3 := HM.out.rg.box.one.frozen 3
  have hlt := HM.out.rg.box.one.lt
  go_wp2_with fail
  have HF := Lib.hid (Box.four (a' := .int .u8 3) (b' := .int .u64 0) (c' := .int .u8 O) (d' := .int .u64 B) HM.out.rg.box)
  obtain ⟨d0, d1, d2, d3⟩ := HF.out.cells
  exact bodyPost_ret (v := .tuple #[.agg #[.int .u8 3, .int .u64 0, .int .u8 O, .int .u64 B], .int .i64 0]) (by simp [results, Tryz.results104, go_sem, d0, d1, d2, d3, hlt]) rfl ⟨rfl, HF.out.below⟩
set_option maxHeartbeats 4000000 in
theorem takec4_torn (s : ByteArray) (l : List UInt8) (h0 : s.data.toList = l) (hs : s.size ≤ 1099511627776) (hc : gt l 0 1 = 4) (N : Nat) (hN : gt l 1 9 = N) (hl : s.size < 9) (w : World) :
    Calls Tryz.prog 104 #[.string s] w fun e w' => e = .returned (.tuple #[.agg #[.int .u8 0, .int .u64 0, .int .u8 0, .int .u64 0], .int .i64 10]) ∧ Below w.heap.size w w' := by
  rw [Lib.size_eq, h0] at hl
  have HX := Lib.hid (Box.new w 148 #[.int .u8 0, .int .u64 0, .int .u8 0, .int .u64 0])
  go_enter Tryz.func104, Tryz.ntmps104
  go_wp2_with fail
  refine (new_any s (by omega) _).mono ?_; rintro e w1 ⟨r, rfl, hr, hd, hb⟩
  rw [h0, ← rd_zero] at hd
  have HR0 := Lib.hid (Rg.new HX.out hr hd hb)
  clear hr hd hb HX
  rw [Lib.size_eq, h0] at hs
  go_wp2_with fail
  have HE := ru8_at r l 0 1 rfl hs _ HR0.out.rd
  rw [hc] at HE
  refine HE.mono ?_; rintro e w2 ⟨rfl, h1, h2⟩
  clear HE
  have HM := Lib.hid (Rm.new (HR0.out.step h1 h2) #[.int .u8 4, .int .u64 0, .int .u8 0, .int .u64 0])
  clear h1 h2 HR0
  go_wp2_with fail
  have HE := ru64_at r l 1 9 rfl hs _ HM.out.rg.rd
  rw [hN] at HE
  refine HE.mono ?_; rintro e w3 ⟨rfl, h1, h2⟩
  clear HE
  replace HM := Lib.hid (HM.out.step h1 h2)
  clear h1 h2
  have g0 := HM.out.ms.frozen 0; have g1 := HM.out.ms.frozen 1; have g2 := HM.out.ms.frozen 2; have g3 := HM.out.ms.frozen 3
  have hltm := HM.out.ms.lt
  obtain ⟨m0, m1, m2, m3⟩ := HM.out.cells
  go_wp2_with fail
  replace HM := Lib.hid (show Rm w _ r _ _ #[.int .u8 4, .int .u64 N, .int .u8 0, .int .u64 0] _ from HM.out.put 1 (.int .u64 N))
  clear g0 g1 g2 g3 hltm m0 m1 m2 m3
  have her : (rd l 9).er = 10 := by unfold rd; rw [if_neg (by omega)]
  have HE := err_any r _ _ HM.out.rg.rd
  rw [her] at HE
  refine HE.mono ?_; rintro e w4 ⟨rfl, rfl⟩
  clear HE
  obtain ⟨c0', c1', c2', c3'⟩ := HM.out.rg.box.cells
  have f0 := HM.out.rg.box.one.frozen 0; have f1 := HM.out.rg.box.one.frozen 1; have f2 := HM.out.rg.box.one.frozen 2; have f3 := HM.out.rg.box.one.frozen 3
  have hlt := HM.out.rg.box.one.lt
  go_wp2_with fail
  have HF := Lib.hid (Box.four (a' := .int .u8 0) (b' := .int .u64 0) (c' := .int .u8 0) (d' := .int .u64 0) HM.out.rg.box)
  obtain ⟨d0, d1, d2, d3⟩ := HF.out.cells
  exact bodyPost_ret (v := .tuple #[.agg #[.int .u8 0, .int .u64 0, .int .u8 0, .int .u64 0], .int .i64 10]) (by simp [results, Tryz.results104, go_sem, d0, d1, d2, d3, hlt]) rfl ⟨rfl, HF.out.below⟩
set_option maxHeartbeats 4000000 in
theorem takec4_long (s : ByteArray) (l : List UInt8) (h0 : s.data.toList = l) (hs : s.size ≤ 1099511627776) (hc : gt l 0 1 = 4) (N : Nat) (hN : gt l 1 9 = N) (hl : 9 < s.size) (w : World) :
    Calls Tryz.prog 104 #[.string s] w fun e w' => e = .returned (.tuple #[.agg #[.int .u8 0, .int .u64 0, .int .u8 0, .int .u64 0], .int .i64 4]) ∧ Below w.heap.size w w' := by
  rw [Lib.size_eq, h0] at hl
  have HX := Lib.hid (Box.new w 148 #[.int .u8 0, .int .u64 0, .int .u8 0, .int .u64 0])
  go_enter Tryz.func104, Tryz.ntmps104
  go_wp2_with fail
  refine (new_any s (by omega) _).mono ?_; rintro e w1 ⟨r, rfl, hr, hd, hb⟩
  rw [h0, ← rd_zero] at hd
  have HR0 := Lib.hid (Rg.new HX.out hr hd hb)
  clear hr hd hb HX
  rw [Lib.size_eq, h0] at hs
  go_wp2_with fail
  have HE := ru8_at r l 0 1 rfl hs _ HR0.out.rd
  rw [hc] at HE
  refine HE.mono ?_; rintro e w2 ⟨rfl, h1, h2⟩
  clear HE
  have HM := Lib.hid (Rm.new (HR0.out.step h1 h2) #[.int .u8 4, .int .u64 0, .int .u8 0, .int .u64 0])
  clear h1 h2 HR0
  go_wp2_with fail
  have HE := ru64_at r l 1 9 rfl hs _ HM.out.rg.rd
  rw [hN] at HE
  refine HE.mono ?_; rintro e w3 ⟨rfl, h1, h2⟩
  clear HE
  replace HM := Lib.hid (HM.out.step h1 h2)
  clear h1 h2
  have g0 := HM.out.ms.frozen 0; have g1 := HM.out.ms.frozen 1; have g2 := HM.out.ms.frozen 2; have g3 := HM.out.ms.frozen 3
  have hltm := HM.out.ms.lt
  obtain ⟨m0, m1, m2, m3⟩ := HM.out.cells
  go_wp2_with fail
  replace HM := Lib.hid (show Rm w _ r _ _ #[.int .u8 4, .int .u64 N, .int .u8 0, .int .u64 0] _ from HM.out.put 1 (.int .u64 N))
  clear g0 g1 g2 g3 hltm m0 m1 m2 m3
  have her : (rd l 9).er = 0 := by unfold rd; rw [if_pos (by omega)]
  have HE := err_any r _ _ HM.out.rg.rd
  rw [her] at HE
  refine HE.mono ?_; rintro e w4 ⟨rfl, rfl⟩
  clear HE
  go_wp2_with fail
  have hre : (rd l 9).rest = l.drop 9 := by unfold rd; rw [if_pos (by omega)]
  have HE := rest_any r _ _ HM.out.rg.rd
  rw [hre] at HE
  obtain ⟨T, hT⟩ : ∃ T, bs (l.drop 9) = T := ⟨_, rfl⟩
  have hTs : T.size = l.length - 9 := by rw [← hT, bs_size]; simp
  rw [hT] at HE
  have hne : T.toList.isEmpty = false := by
    rw [Lib.toList_data]
    rcases h : T.data.toList with _ | ⟨x, y⟩
    · rw [Lib.size_eq, h] at hTs; simp at hTs; omega
    · rfl
  clear hTs hT
  refine HE.mono ?_; rintro e w3 ⟨rfl, rfl⟩
  clear HE
  obtain ⟨c0', c1', c2', c3'⟩ := HM.out.rg.box.cells
  have f0 := HM.out.rg.box.one.frozen 0; have f1 := HM.out.rg.box.one.frozen 1; have f2 := HM.out.rg.box.one.frozen 2; have f3 := HM.out.rg.box.one.frozen 3
  have hlt := HM.out.rg.box.one.lt
  go_wp2_with fail
  have HF := Lib.hid (Box.four (a' := .int .u8 0) (b' := .int .u64 0) (c' := .int .u8 0) (d' := .int .u64 0) HM.out.rg.box)
  obtain ⟨d0, d1, d2, d3⟩ := HF.out.cells
  exact bodyPost_ret (v := .tuple #[.agg #[.int .u8 0, .int .u64 0, .int .u8 0, .int .u64 0], .int .i64 4]) (by simp [results, Tryz.results104, go_sem, d0, d1, d2, d3, hlt]) rfl ⟨rfl, HF.out.below⟩
set_option maxHeartbeats 4000000 in
theorem takec4_form (s : ByteArray) (l : List UInt8) (h0 : s.data.toList = l) (hs : s.size ≤ 1099511627776) (hc : gt l 0 1 = 4) (N : Nat) (hN : gt l 1 9 = N) (hl : s.size = 9) (w : World) (H : ∀ w, Calls Tryz.prog 121 #[.agg #[.int .u8 4, .int .u64 N, .int .u8 0, .int .u64 0]] w fun e w' => e = .returned (.bool false) ∧ Below w.heap.size w w') :
    Calls Tryz.prog 104 #[.string s] w fun e w' => e = .returned (.tuple #[.agg #[.int .u8 0, .int .u64 0, .int .u8 0, .int .u64 0], .int .i64 4]) ∧ Below w.heap.size w w' := by
  rw [Lib.size_eq, h0] at hl
  have HX := Lib.hid (Box.new w 148 #[.int .u8 0, .int .u64 0, .int .u8 0, .int .u64 0])
  go_enter Tryz.func104, Tryz.ntmps104
  go_wp2_with fail
  refine (new_any s (by omega) _).mono ?_; rintro e w1 ⟨r, rfl, hr, hd, hb⟩
  rw [h0, ← rd_zero] at hd
  have HR0 := Lib.hid (Rg.new HX.out hr hd hb)
  clear hr hd hb HX
  rw [Lib.size_eq, h0] at hs
  go_wp2_with fail
  have HE := ru8_at r l 0 1 rfl hs _ HR0.out.rd
  rw [hc] at HE
  refine HE.mono ?_; rintro e w2 ⟨rfl, h1, h2⟩
  clear HE
  have HM := Lib.hid (Rm.new (HR0.out.step h1 h2) #[.int .u8 4, .int .u64 0, .int .u8 0, .int .u64 0])
  clear h1 h2 HR0
  go_wp2_with fail
  have HE := ru64_at r l 1 9 rfl hs _ HM.out.rg.rd
  rw [hN] at HE
  refine HE.mono ?_; rintro e w3 ⟨rfl, h1, h2⟩
  clear HE
  replace HM := Lib.hid (HM.out.step h1 h2)
  clear h1 h2
  have g0 := HM.out.ms.frozen 0; have g1 := HM.out.ms.frozen 1; have g2 := HM.out.ms.frozen 2; have g3 := HM.out.ms.frozen 3
  have hltm := HM.out.ms.lt
  obtain ⟨m0, m1, m2, m3⟩ := HM.out.cells
  go_wp2_with fail
  replace HM := Lib.hid (show Rm w _ r _ _ #[.int .u8 4, .int .u64 N, .int .u8 0, .int .u64 0] _ from HM.out.put 1 (.int .u64 N))
  clear g0 g1 g2 g3 hltm m0 m1 m2 m3
  have her : (rd l 9).er = 0 := by unfold rd; rw [if_pos (by omega)]
  have HE := err_any r _ _ HM.out.rg.rd
  rw [her] at HE
  refine HE.mono ?_; rintro e w4 ⟨rfl, rfl⟩
  clear HE
  go_wp2_with fail
  have hre : (rd l 9).rest = [] := by unfold rd; rw [if_pos (by omega)]; exact List.drop_of_length_le (by omega)
  have HE := rest_any r _ _ HM.out.rg.rd
  rw [hre, bs_nil] at HE
  refine HE.mono ?_; rintro e w3 ⟨rfl, rfl⟩
  clear HE
  obtain ⟨m0, m1, m2, m3⟩ := HM.out.cells
  have hltm := HM.out.ms.lt
  go_wp2_with fail
  refine (H _).mono ?_; rintro e w5 ⟨rfl, hb⟩
  replace HM := Lib.hid (HM.out.later hb)
  clear hb m0 m1 m2 m3 hltm
  obtain ⟨c0', c1', c2', c3'⟩ := HM.out.rg.box.cells
  have f0 := HM.out.rg.box.one.frozen 0; have f1 := HM.out.rg.box.one.frozen 1; have f2 := HM.out.rg.box.one.frozen 2; have f3 := HM.out.rg.box.one.frozen 3
  have hlt := HM.out.rg.box.one.lt
  go_wp2_with fail
  have HF := Lib.hid (Box.four (a' := .int .u8 0) (b' := .int .u64 0) (c' := .int .u8 0) (d' := .int .u64 0) HM.out.rg.box)
  obtain ⟨d0, d1, d2, d3⟩ := HF.out.cells
  exact bodyPost_ret (v := .tuple #[.agg #[.int .u8 0, .int .u64 0, .int .u8 0, .int .u64 0], .int .i64 4]) (by simp [results, Tryz.results104, go_sem, d0, d1, d2, d3, hlt]) rfl ⟨rfl, HF.out.below⟩
set_option maxHeartbeats 4000000 in
theorem takec4_ok (s : ByteArray) (l : List UInt8) (h0 : s.data.toList = l) (hs : s.size ≤ 1099511627776) (hc : gt l 0 1 = 4) (N : Nat) (hN : gt l 1 9 = N) (hl : s.size = 9) (w : World) (H : ∀ w, Calls Tryz.prog 121 #[.agg #[.int .u8 4, .int .u64 N, .int .u8 0, .int .u64 0]] w fun e w' => e = .returned (.bool true) ∧ Below w.heap.size w w') :
    Calls Tryz.prog 104 #[.string s] w fun e w' => e = .returned (.tuple #[.agg #[.int .u8 4, .int .u64 N, .int .u8 0, .int .u64 0], .int .i64 0]) ∧ Below w.heap.size w w' := by
  rw [Lib.size_eq, h0] at hl
  have HX := Lib.hid (Box.new w 148 #[.int .u8 0, .int .u64 0, .int .u8 0, .int .u64 0])
  go_enter Tryz.func104, Tryz.ntmps104
  go_wp2_with fail
  refine (new_any s (by omega) _).mono ?_; rintro e w1 ⟨r, rfl, hr, hd, hb⟩
  rw [h0, ← rd_zero] at hd
  have HR0 := Lib.hid (Rg.new HX.out hr hd hb)
  clear hr hd hb HX
  rw [Lib.size_eq, h0] at hs
  go_wp2_with fail
  have HE := ru8_at r l 0 1 rfl hs _ HR0.out.rd
  rw [hc] at HE
  refine HE.mono ?_; rintro e w2 ⟨rfl, h1, h2⟩
  clear HE
  have HM := Lib.hid (Rm.new (HR0.out.step h1 h2) #[.int .u8 4, .int .u64 0, .int .u8 0, .int .u64 0])
  clear h1 h2 HR0
  go_wp2_with fail
  have HE := ru64_at r l 1 9 rfl hs _ HM.out.rg.rd
  rw [hN] at HE
  refine HE.mono ?_; rintro e w3 ⟨rfl, h1, h2⟩
  clear HE
  replace HM := Lib.hid (HM.out.step h1 h2)
  clear h1 h2
  have g0 := HM.out.ms.frozen 0; have g1 := HM.out.ms.frozen 1; have g2 := HM.out.ms.frozen 2; have g3 := HM.out.ms.frozen 3
  have hltm := HM.out.ms.lt
  obtain ⟨m0, m1, m2, m3⟩ := HM.out.cells
  go_wp2_with fail
  replace HM := Lib.hid (show Rm w _ r _ _ #[.int .u8 4, .int .u64 N, .int .u8 0, .int .u64 0] _ from HM.out.put 1 (.int .u64 N))
  clear g0 g1 g2 g3 hltm m0 m1 m2 m3
  have her : (rd l 9).er = 0 := by unfold rd; rw [if_pos (by omega)]
  have HE := err_any r _ _ HM.out.rg.rd
  rw [her] at HE
  refine HE.mono ?_; rintro e w4 ⟨rfl, rfl⟩
  clear HE
  go_wp2_with fail
  have hre : (rd l 9).rest = [] := by unfold rd; rw [if_pos (by omega)]; exact List.drop_of_length_le (by omega)
  have HE := rest_any r _ _ HM.out.rg.rd
  rw [hre, bs_nil] at HE
  refine HE.mono ?_; rintro e w3 ⟨rfl, rfl⟩
  clear HE
  obtain ⟨m0, m1, m2, m3⟩ := HM.out.cells
  have hltm := HM.out.ms.lt
  go_wp2_with fail
  refine (H _).mono ?_; rintro e w5 ⟨rfl, hb⟩
  replace HM := Lib.hid (HM.out.later hb)
  clear hb m0 m1 m2 m3 hltm
  obtain ⟨m0, m1, m2, m3⟩ := HM.out.cells
  have hltm := HM.out.ms.lt
  obtain ⟨c0', c1', c2', c3'⟩ := HM.out.rg.box.cells
  have f0 := HM.out.rg.box.one.frozen 0; have f1 := HM.out.rg.box.one.frozen 1; have f2 := HM.out.rg.box.one.frozen 2; have f3 := HM.out.rg.box.one.frozen 3
  have hlt := HM.out.rg.box.one.lt
  go_wp2_with fail
  have HF := Lib.hid (Box.four (a' := .int .u8 4) (b' := .int .u64 N) (c' := .int .u8 0) (d' := .int .u64 0) HM.out.rg.box)
  obtain ⟨d0, d1, d2, d3⟩ := HF.out.cells
  exact bodyPost_ret (v := .tuple #[.agg #[.int .u8 4, .int .u64 N, .int .u8 0, .int .u64 0], .int .i64 0]) (by simp [results, Tryz.results104, go_sem, d0, d1, d2, d3, hlt]) rfl ⟨rfl, HF.out.below⟩
theorem gt_lt5 (l : List UInt8) : gt l 1 5 < 4294967296 := by
  unfold gt
  have := num4 l
  split <;> omega
set_option maxHeartbeats 1000000 in
theorem takeChange_any (s : ByteArray) (l : List UInt8) (hl : s.data.toList = l) (hs : s.size ≤ 1099511627776) (w : World) :
    Calls Tryz.prog 104 #[.string s] w fun e w' => e = .returned (.tuple #[.agg #[.int .u8 (okI (takeCE l) (num l 0 1) : Nat), .int .u64 (okI (takeCE l) (cN l (num l 0 1)) : Nat), .int .u8 (okI (takeCE l) (cOp l (num l 0 1)) : Nat), .int .u64 (okI (takeCE l) (cBy l (num l 0 1)) : Nat)], .int .i64 (takeCE l : Nat)]) ∧ Below w.heap.size w w' := by
  have hz := Lib.size_eq s
  rw [hl] at hz
  by_cases hn : l = []
  · have e : takeCE l = 10 := by unfold takeCE; rw [if_pos hn]
    have hg : gt l 0 1 = 0 := by subst hn; rfl
    rw [e]
    exact takec0_torn s l hl hs 0 rfl rfl rfl rfl hg (by rw [hz, hn]; decide) w
  have hp : 0 < l.length := List.length_pos_iff.2 hn
  by_cases h14 : num l 0 1 < 1 ∨ 4 < num l 0 1
  · have e : takeCE l = 4 := by unfold takeCE; rw [if_neg hn, if_pos h14]
    rw [e]
    have hg := gt_of l 0 1 (by omega)
    generalize num l 0 1 = c at *
    have h1 : ((c : Int) == 1) = false := by simp; omega
    have h2 : ((c : Int) == 2) = false := by simp; omega
    have h3 : ((c : Int) == 3) = false := by simp; omega
    have h4 : ((c : Int) == 4) = false := by simp; omega
    by_cases a : l.length = 1
    · have H := mayBe_any c 0 0 0
      have e2 : mayC c 0 0 0 = false := by unfold mayC; rw [if_neg (by omega), if_neg (by omega), if_neg (by omega)]
      rw [e2] at H
      exact takec0_form s l hl hs c h1 h2 h3 h4 hg (by omega) w H
    · exact takec0_long s l hl hs c h1 h2 h3 h4 hg (by omega) w
  have hw : num l 0 1 = 1 ∨ num l 0 1 = 2 ∨ num l 0 1 = 3 ∨ num l 0 1 = 4 := by omega
  rcases hw with hw | hw | hw | hw
  · have hc' : gt l 0 1 = 1 := by rw [gt_of l 0 1 (by omega), hw]
    have hcN : cN l 1 = (num l 1 5) := rfl
    have hcO : cOp l 1 = 0 := rfl
    have hcB : cBy l 1 = 0 := rfl
    have hLo : long 1 = 5 := rfl
    rw [hw, hcN, hcO, hcB]
    by_cases a1 : l.length < 5
    · have e : takeCE l = 10 := by unfold takeCE; rw [if_neg hn, hw, if_neg (by omega), hLo, if_pos a1]
      rw [e]
      exact takec1_torn s l hl hs hc' (gt l 1 5) rfl (gt_lt5 l) (by omega) w
    by_cases a2 : 5 < l.length
    · have e : takeCE l = 4 := by unfold takeCE; rw [if_neg hn, hw, if_neg (by omega), hLo, if_neg a1, if_pos a2]
      rw [e]
      exact takec1_long s l hl hs hc' (gt l 1 5) rfl (gt_lt5 l) (by omega) w
    have e : takeCE l = ckC 1 (num l 1 5) 0 0 := by unfold takeCE; rw [if_neg hn, hw, if_neg (by omega), hLo, if_neg a1, if_neg a2, hcN, hcO, hcB]
    have H := mayBe_any 1 (num l 1 5) 0 0
    cases hm : mayC 1 (num l 1 5) 0 0 with
    | true =>
      have e2 : ckC 1 (num l 1 5) 0 0 = 0 := by simp [ckC, hm]
      rw [e, e2]
      rw [hm] at H
      have K := takec1_ok s l hl hs hc' (gt l 1 5) rfl (gt_lt5 l) (by omega) w
      rw [gt_of l 1 5 (by omega)] at K
      exact K H
    | false =>
      have e2 : ckC 1 (num l 1 5) 0 0 = 4 := by simp [ckC, hm]
      rw [e, e2]
      rw [hm] at H
      have K := takec1_form s l hl hs hc' (gt l 1 5) rfl (gt_lt5 l) (by omega) w
      rw [gt_of l 1 5 (by omega)] at K
      exact K H
  · have hc' : gt l 0 1 = 2 := by rw [gt_of l 0 1 (by omega), hw]
    have hcN : cN l 2 = (num l 1 5) := rfl
    have hcO : cOp l 2 = 0 := rfl
    have hcB : cBy l 2 = 0 := rfl
    have hLo : long 2 = 5 := rfl
    rw [hw, hcN, hcO, hcB]
    by_cases a1 : l.length < 5
    · have e : takeCE l = 10 := by unfold takeCE; rw [if_neg hn, hw, if_neg (by omega), hLo, if_pos a1]
      rw [e]
      exact takec2_torn s l hl hs hc' (gt l 1 5) rfl (gt_lt5 l) (by omega) w
    by_cases a2 : 5 < l.length
    · have e : takeCE l = 4 := by unfold takeCE; rw [if_neg hn, hw, if_neg (by omega), hLo, if_neg a1, if_pos a2]
      rw [e]
      exact takec2_long s l hl hs hc' (gt l 1 5) rfl (gt_lt5 l) (by omega) w
    have e : takeCE l = ckC 2 (num l 1 5) 0 0 := by unfold takeCE; rw [if_neg hn, hw, if_neg (by omega), hLo, if_neg a1, if_neg a2, hcN, hcO, hcB]
    have H := mayBe_any 2 (num l 1 5) 0 0
    cases hm : mayC 2 (num l 1 5) 0 0 with
    | true =>
      have e2 : ckC 2 (num l 1 5) 0 0 = 0 := by simp [ckC, hm]
      rw [e, e2]
      rw [hm] at H
      have K := takec2_ok s l hl hs hc' (gt l 1 5) rfl (gt_lt5 l) (by omega) w
      rw [gt_of l 1 5 (by omega)] at K
      exact K H
    | false =>
      have e2 : ckC 2 (num l 1 5) 0 0 = 4 := by simp [ckC, hm]
      rw [e, e2]
      rw [hm] at H
      have K := takec2_form s l hl hs hc' (gt l 1 5) rfl (gt_lt5 l) (by omega) w
      rw [gt_of l 1 5 (by omega)] at K
      exact K H
  · have hc' : gt l 0 1 = 3 := by rw [gt_of l 0 1 (by omega), hw]
    have hcN : cN l 3 = 0 := rfl
    have hcO : cOp l 3 = (num l 1 2) := rfl
    have hcB : cBy l 3 = (num l 2 10) := rfl
    have hLo : long 3 = 10 := rfl
    rw [hw, hcN, hcO, hcB]
    by_cases a1 : l.length < 10
    · have e : takeCE l = 10 := by unfold takeCE; rw [if_neg hn, hw, if_neg (by omega), hLo, if_pos a1]
      rw [e]
      exact takec3_torn s l hl hs hc' (gt l 1 2) (gt l 2 10) rfl rfl (by omega) w
    by_cases a2 : 10 < l.length
    · have e : takeCE l = 4 := by unfold takeCE; rw [if_neg hn, hw, if_neg (by omega), hLo, if_neg a1, if_pos a2]
      rw [e]
      exact takec3_long s l hl hs hc' (gt l 1 2) (gt l 2 10) rfl rfl (by omega) w
    have e : takeCE l = ckC 3 0 (num l 1 2) (num l 2 10) := by unfold takeCE; rw [if_neg hn, hw, if_neg (by omega), hLo, if_neg a1, if_neg a2, hcN, hcO, hcB]
    have H := mayBe_any 3 0 (num l 1 2) (num l 2 10)
    cases hm : mayC 3 0 (num l 1 2) (num l 2 10) with
    | true =>
      have e2 : ckC 3 0 (num l 1 2) (num l 2 10) = 0 := by simp [ckC, hm]
      rw [e, e2]
      rw [hm] at H
      have K := takec3_ok s l hl hs hc' (gt l 1 2) (gt l 2 10) rfl rfl (by omega) w
      rw [gt_of l 1 2 (by omega), gt_of l 2 10 (by omega)] at K
      exact K H
    | false =>
      have e2 : ckC 3 0 (num l 1 2) (num l 2 10) = 4 := by simp [ckC, hm]
      rw [e, e2]
      rw [hm] at H
      have K := takec3_form s l hl hs hc' (gt l 1 2) (gt l 2 10) rfl rfl (by omega) w
      rw [gt_of l 1 2 (by omega), gt_of l 2 10 (by omega)] at K
      exact K H
  · have hc' : gt l 0 1 = 4 := by rw [gt_of l 0 1 (by omega), hw]
    have hcN : cN l 4 = (num l 1 9) := rfl
    have hcO : cOp l 4 = 0 := rfl
    have hcB : cBy l 4 = 0 := rfl
    have hLo : long 4 = 9 := rfl
    rw [hw, hcN, hcO, hcB]
    by_cases a1 : l.length < 9
    · have e : takeCE l = 10 := by unfold takeCE; rw [if_neg hn, hw, if_neg (by omega), hLo, if_pos a1]
      rw [e]
      exact takec4_torn s l hl hs hc' (gt l 1 9) rfl (by omega) w
    by_cases a2 : 9 < l.length
    · have e : takeCE l = 4 := by unfold takeCE; rw [if_neg hn, hw, if_neg (by omega), hLo, if_neg a1, if_pos a2]
      rw [e]
      exact takec4_long s l hl hs hc' (gt l 1 9) rfl (by omega) w
    have e : takeCE l = ckC 4 (num l 1 9) 0 0 := by unfold takeCE; rw [if_neg hn, hw, if_neg (by omega), hLo, if_neg a1, if_neg a2, hcN, hcO, hcB]
    have H := mayBe_any 4 (num l 1 9) 0 0
    cases hm : mayC 4 (num l 1 9) 0 0 with
    | true =>
      have e2 : ckC 4 (num l 1 9) 0 0 = 0 := by simp [ckC, hm]
      rw [e, e2]
      rw [hm] at H
      have K := takec4_ok s l hl hs hc' (gt l 1 9) rfl (by omega) w
      rw [gt_of l 1 9 (by omega)] at K
      exact K H
    | false =>
      have e2 : ckC 4 (num l 1 9) 0 0 = 4 := by simp [ckC, hm]
      rw [e, e2]
      rw [hm] at H
      have K := takec4_form s l hl hs hc' (gt l 1 9) rfl (by omega) w
      rw [gt_of l 1 9 (by omega)] at K
      exact K H
end Go.Proofs.YthledgkjfjdjoaaGreat.Mt
