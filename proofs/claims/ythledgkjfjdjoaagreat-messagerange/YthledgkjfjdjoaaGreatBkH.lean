/- The patches of texts, by the program: all arms. Conditions: lengths below 2^40. -/
import Derived.Test.YthledgkjfjdjoaaGreatBkG
namespace Go.Proofs.YthledgkjfjdjoaaGreat.Bk
open Go.ChangeShapes Go.WideShapes Go.RowKit Go.Codec Go.Blk
set_option maxRecDepth 100000
set_option linter.unusedSimpArgs false
set_option linter.unusedVariables false
theorem bs_nil : bs [] = ⟨#[]⟩ := rfl
/-- The answer's cell, a reader, and a patch's cell. -/
structure T3 (w : World) (r g : Nat) (x : R) (res box : Array Value) (wx : World) : Prop where
  below : Below w.heap.size w wx
  res : Is wx w.heap.size 154 res
  rd : Rd wx r x
  box : Is wx g 154 box
  h1 : w.heap.size < r
  h2 : r < g
section
variable {w wx wy : World} {r g : Nat} {x y : R} {res box : Array Value}
theorem T3.new (h : Box w 154 res wx) (hr : wx.heap.size ≤ r) (hd : Rd wy r x) (hb : Below wx.heap.size wx wy) (box : Array Value) : T3 w r wy.heap.size x res box (wy.alloc (.cells box 154)) :=
  have h1 := h.later hb
  have h2 := h1.later (below_alloc (Below.refl _ _) (.cells box 154))
  ⟨h2.below, h2.one, Is.kept hd (grow_below (below_alloc (Below.refl _ _) _) none) (by simp), Is.new _ _ _, by have := h.one.lt; omega, Is.lt hd⟩
theorem T3.step (h : T3 w r g x res box wx) (hw : Rd wy r y) (hg : wx.grownBy wy (some r)) : T3 w r g y res box wy :=
  ⟨h.below.trans (below_of_grow hg h.below.size (by have := h.h1; omega)), h.res.kept hg (by have := h.h1; simp; omega), hw, h.box.kept hg (by have := h.h2; simp; omega), h.h1, h.h2⟩
theorem T3.later (h : T3 w r g x res box wx) (hb : Below wx.heap.size wx wy) : T3 w r g x res box wy :=
  ⟨h.below.trans (hb.mono h.below.size), h.res.kept (grow_below hb none) (by simp), Is.kept h.rd (grow_below hb none) (by simp), h.box.kept (grow_below hb none) (by simp), h.h1, h.h2⟩
theorem T3.put {a b c d a' b' c' d' : Value} (h : T3 w r g x res #[a, b, c, d] wx) : T3 w r g x res #[a', b', c', d'] ((((wx.setCell ⟨g, 0, none⟩ a').setCell ⟨g, 1, none⟩ b').setCell ⟨g, 2, none⟩ c').setCell ⟨g, 3, none⟩ d') := by
  have n1 := h.h1; have n2 := h.h2
  refine ⟨(((h.below.setCell (by simp; omega) _).setCell (by simp; omega) _).setCell (by simp; omega) _).setCell (by simp; omega) _, ?_, ?_, ?_, n1, n2⟩
  · exact (((h.res.other (by simp; omega) _).other (by simp; omega) _).other (by simp; omega) _).other (by simp; omega) _
  · exact (((Is.other h.rd (by simp; omega) _).other (by simp; omega) _).other (by simp; omega) _).other (by simp; omega) _
  · have h1 := (((h.box.put 0 a').put 1 b').put 2 c').put 3 d'
    simp at h1
    exact h1
theorem T3.end {a b c d a' b' c' d' : Value} (h : T3 w r g x #[a, b, c, d] box wx) : Box w 154 #[a', b', c', d'] ((((wx.setCell ⟨w.heap.size, 0, none⟩ a').setCell ⟨w.heap.size, 1, none⟩ b').setCell ⟨w.heap.size, 2, none⟩ c').setCell ⟨w.heap.size, 3, none⟩ d') := by
  refine ⟨(((h.below.setCell (Nat.le_refl _) _).setCell (Nat.le_refl _) _).setCell (Nat.le_refl _) _).setCell (Nat.le_refl _) _, ?_⟩
  have h1 := (((h.res.put 0 a').put 1 b').put 2 c').put 3 d'
  simp at h1
  exact h1
theorem T3.cells {a b c d : Value} (h : T3 w r g x res #[a, b, c, d] wx) : wx.cell? ⟨g, 0, none⟩ = some a ∧ wx.cell? ⟨g, 1, none⟩ = some b ∧ wx.cell? ⟨g, 2, none⟩ = some c ∧ wx.cell? ⟨g, 3, none⟩ = some d :=
  ⟨h.box.cell 0, h.box.cell 1, h.box.cell 2, h.box.cell 3⟩
theorem T3.rcells {a b c d : Value} (h : T3 w r g x #[a, b, c, d] box wx) : wx.cell? ⟨w.heap.size, 0, none⟩ = some a ∧ wx.cell? ⟨w.heap.size, 1, none⟩ = some b ∧ wx.cell? ⟨w.heap.size, 2, none⟩ = some c ∧ wx.cell? ⟨w.heap.size, 3, none⟩ = some d :=
  ⟨h.res.cell 0, h.res.cell 1, h.res.cell 2, h.res.cell 3⟩
theorem T3.free (h : T3 w r g x res box wx) : (wx.frozen? ⟨g, 0, none⟩ = false ∧ wx.frozen? ⟨g, 1, none⟩ = false ∧ wx.frozen? ⟨g, 2, none⟩ = false ∧ wx.frozen? ⟨g, 3, none⟩ = false) ∧ g < wx.heap.size :=
  ⟨⟨h.box.frozen 0, h.box.frozen 1, h.box.frozen 2, h.box.frozen 3⟩, h.box.lt⟩
theorem T3.rfree (h : T3 w r g x res box wx) : (wx.frozen? ⟨w.heap.size, 0, none⟩ = false ∧ wx.frozen? ⟨w.heap.size, 1, none⟩ = false ∧ wx.frozen? ⟨w.heap.size, 2, none⟩ = false ∧ wx.frozen? ⟨w.heap.size, 3, none⟩ = false) ∧ w.heap.size < wx.heap.size :=
  ⟨⟨h.res.frozen 0, h.res.frozen 1, h.res.frozen 2, h.res.frozen 3⟩, h.res.lt⟩
end
set_option maxHeartbeats 4000000 in
theorem take_0E (s : ByteArray) (hs : s.size ≤ 1099511627776) (v : Nat) (x1 : R) (hv1 : ((v : Int) == 1) = false) (hv2 : ((v : Int) == 2) = false) (G0 : ∀ r wx, Rd wx r ⟨s.data.toList, 0⟩ → Calls Tryz.prog 41 #[.pointer (some ⟨r, 0, none⟩)] wx (Got .u8 r v x1 wx)) (he : x1.er = 10) (w : World) :
    Calls Tryz.prog 108 #[.string s] w fun e w' => e = .returned (.tuple #[.agg #[.bool false, .int .i64 0, .int .i64 0, .string ⟨#[]⟩], .int .i64 10]) ∧ Below w.heap.size w w' := by
  have HX := Lib.hid (Box.new w 154 #[.bool false, .int .i64 0, .int .i64 0, .string ⟨#[]⟩])
  go_enter Tryz.func108, Tryz.ntmps108
  go_wp2_with fail
  refine (new_any s (by omega) _).mono ?_; rintro e w1 ⟨r, rfl, hr, hd, hb⟩
  have HR0 := Lib.hid (T3.new HX.out hr hd hb #[.bool false, .int .i64 0, .int .i64 0, .string ⟨#[]⟩])
  clear hr hd hb HX
  go_wp2_with fail
  refine (G0 r _ HR0.out.rd).mono ?_; rintro e w2 ⟨rfl, h1, h2⟩
  have HR1 := Lib.hid (HR0.out.step h1 h2)
  clear h1 h2 HR0 G0
  go_wp2_with fail
  have HE := err_any r _ _ HR1.out.rd
  rw [he] at HE
  refine HE.mono ?_; rintro e w5 ⟨rfl, rfl⟩
  clear HE
  obtain ⟨c0, c1, c2, c3⟩ := HR1.out.rcells
  obtain ⟨⟨f0, f1, f2, f3⟩, hlt⟩ := HR1.out.rfree
  go_wp2_with fail
  have HF := Lib.hid (T3.end (a' := .bool false) (b' := .int .i64 0) (c' := .int .i64 0) (d' := .string ⟨#[]⟩) HR1.out)
  obtain ⟨q0, q1, q2, q3⟩ := HF.out.cells
  exact bodyPost_ret (v := .tuple #[.agg #[.bool false, .int .i64 0, .int .i64 0, .string ⟨#[]⟩], .int .i64 10]) (by simp [results, Tryz.results108, go_sem, q0, q1, q2, q3, hlt]) rfl ⟨rfl, HF.out.below⟩
set_option maxHeartbeats 4000000 in
theorem take_0L (s : ByteArray) (hs : s.size ≤ 1099511627776) (v : Nat) (x1 : R) (hv1 : ((v : Int) == 1) = false) (hv2 : ((v : Int) == 2) = false) (G0 : ∀ r wx, Rd wx r ⟨s.data.toList, 0⟩ → Calls Tryz.prog 41 #[.pointer (some ⟨r, 0, none⟩)] wx (Got .u8 r v x1 wx)) (he : x1.er = 0) (hre : (bs x1.rest).toList.isEmpty = false) (w : World) :
    Calls Tryz.prog 108 #[.string s] w fun e w' => e = .returned (.tuple #[.agg #[.bool false, .int .i64 0, .int .i64 0, .string ⟨#[]⟩], .int .i64 4]) ∧ Below w.heap.size w w' := by
  have HX := Lib.hid (Box.new w 154 #[.bool false, .int .i64 0, .int .i64 0, .string ⟨#[]⟩])
  go_enter Tryz.func108, Tryz.ntmps108
  go_wp2_with fail
  refine (new_any s (by omega) _).mono ?_; rintro e w1 ⟨r, rfl, hr, hd, hb⟩
  have HR0 := Lib.hid (T3.new HX.out hr hd hb #[.bool false, .int .i64 0, .int .i64 0, .string ⟨#[]⟩])
  clear hr hd hb HX
  go_wp2_with fail
  refine (G0 r _ HR0.out.rd).mono ?_; rintro e w2 ⟨rfl, h1, h2⟩
  have HR1 := Lib.hid (HR0.out.step h1 h2)
  clear h1 h2 HR0 G0
  go_wp2_with fail
  have HE := err_any r _ _ HR1.out.rd
  rw [he] at HE
  refine HE.mono ?_; rintro e w5 ⟨rfl, rfl⟩
  clear HE
  go_wp2_with fail
  have HE := rest_any r _ _ HR1.out.rd
  refine HE.mono ?_; rintro e w6 ⟨rfl, rfl⟩
  clear HE
  obtain ⟨c0, c1, c2, c3⟩ := HR1.out.rcells
  obtain ⟨⟨f0, f1, f2, f3⟩, hlt⟩ := HR1.out.rfree
  go_wp2_with fail
  have HF := Lib.hid (T3.end (a' := .bool false) (b' := .int .i64 0) (c' := .int .i64 0) (d' := .string ⟨#[]⟩) HR1.out)
  obtain ⟨q0, q1, q2, q3⟩ := HF.out.cells
  exact bodyPost_ret (v := .tuple #[.agg #[.bool false, .int .i64 0, .int .i64 0, .string ⟨#[]⟩], .int .i64 4]) (by simp [results, Tryz.results108, go_sem, q0, q1, q2, q3, hlt]) rfl ⟨rfl, HF.out.below⟩
set_option maxHeartbeats 4000000 in
theorem take_0N (s : ByteArray) (hs : s.size ≤ 1099511627776) (v : Nat) (x1 : R) (hv1 : ((v : Int) == 1) = false) (hv2 : ((v : Int) == 2) = false) (G0 : ∀ r wx, Rd wx r ⟨s.data.toList, 0⟩ → Calls Tryz.prog 41 #[.pointer (some ⟨r, 0, none⟩)] wx (Got .u8 r v x1 wx)) (he : x1.er = 0) (hre : x1.rest = []) (M : ∀ w, Calls Tryz.prog 126 #[.agg #[.bool false, .int .i64 0, .int .i64 0, .string ⟨#[]⟩]] w fun e w' => e = .returned (.bool false) ∧ Below w.heap.size w w') (w : World) :
    Calls Tryz.prog 108 #[.string s] w fun e w' => e = .returned (.tuple #[.agg #[.bool false, .int .i64 0, .int .i64 0, .string ⟨#[]⟩], .int .i64 4]) ∧ Below w.heap.size w w' := by
  have HX := Lib.hid (Box.new w 154 #[.bool false, .int .i64 0, .int .i64 0, .string ⟨#[]⟩])
  go_enter Tryz.func108, Tryz.ntmps108
  go_wp2_with fail
  refine (new_any s (by omega) _).mono ?_; rintro e w1 ⟨r, rfl, hr, hd, hb⟩
  have HR0 := Lib.hid (T3.new HX.out hr hd hb #[.bool false, .int .i64 0, .int .i64 0, .string ⟨#[]⟩])
  clear hr hd hb HX
  go_wp2_with fail
  refine (G0 r _ HR0.out.rd).mono ?_; rintro e w2 ⟨rfl, h1, h2⟩
  have HR1 := Lib.hid (HR0.out.step h1 h2)
  clear h1 h2 HR0 G0
  go_wp2_with fail
  have HE := err_any r _ _ HR1.out.rd
  rw [he] at HE
  refine HE.mono ?_; rintro e w5 ⟨rfl, rfl⟩
  clear HE
  go_wp2_with fail
  have HE := rest_any r _ _ HR1.out.rd
  rw [hre, bs_nil] at HE
  refine HE.mono ?_; rintro e w6 ⟨rfl, rfl⟩
  clear HE
  obtain ⟨c0, c1, c2, c3⟩ := HR1.out.cells
  have hltg := HR1.out.box.lt
  go_wp2_with fail
  refine (M _).mono ?_; rintro e w7 ⟨rfl, hb⟩
  have HB := Lib.hid (HR1.out.later hb)
  clear hb c0 c1 c2 c3 hltg HR1
  obtain ⟨c0, c1, c2, c3⟩ := HB.out.rcells
  obtain ⟨⟨f0, f1, f2, f3⟩, hlt⟩ := HB.out.rfree
  go_wp2_with fail
  have HF := Lib.hid (T3.end (a' := .bool false) (b' := .int .i64 0) (c' := .int .i64 0) (d' := .string ⟨#[]⟩) HB.out)
  obtain ⟨q0, q1, q2, q3⟩ := HF.out.cells
  exact bodyPost_ret (v := .tuple #[.agg #[.bool false, .int .i64 0, .int .i64 0, .string ⟨#[]⟩], .int .i64 4]) (by simp [results, Tryz.results108, go_sem, q0, q1, q2, q3, hlt]) rfl ⟨rfl, HF.out.below⟩
set_option maxHeartbeats 4000000 in
theorem take_1E (s : ByteArray) (hs : s.size ≤ 1099511627776) (x1 : R) (G0 : ∀ r wx, Rd wx r ⟨s.data.toList, 0⟩ → Calls Tryz.prog 41 #[.pointer (some ⟨r, 0, none⟩)] wx (Got .u8 r 1 x1 wx)) (n : Nat) (hn : n < 256) (x2 : R) (G1 : ∀ r wx, Rd wx r x1 → Calls Tryz.prog 41 #[.pointer (some ⟨r, 0, none⟩)] wx (Got .u8 r n x2 wx)) (t : List UInt8) (T : ByteArray) (hT : bs t = T) (x3 : R) (G2 : ∀ r wx, Rd wx r x2 → Calls Tryz.prog 42 #[.pointer (some ⟨r, 0, none⟩)] wx (Took r t x3 wx)) (he : x3.er = 10) (w : World) :
    Calls Tryz.prog 108 #[.string s] w fun e w' => e = .returned (.tuple #[.agg #[.bool false, .int .i64 0, .int .i64 0, .string ⟨#[]⟩], .int .i64 10]) ∧ Below w.heap.size w w' := by
  have HX := Lib.hid (Box.new w 154 #[.bool false, .int .i64 0, .int .i64 0, .string ⟨#[]⟩])
  have hcv : (IntKind.i64.wrap (n : Int)) = (n : Int) := by rw [IntKind.wrap_i64]; omega
  go_enter Tryz.func108, Tryz.ntmps108
  go_wp2_with fail
  refine (new_any s (by omega) _).mono ?_; rintro e w1 ⟨r, rfl, hr, hd, hb⟩
  have HR0 := Lib.hid (T3.new HX.out hr hd hb #[.bool false, .int .i64 0, .int .i64 0, .string ⟨#[]⟩])
  clear hr hd hb HX
  go_wp2_with fail
  refine (G0 r _ HR0.out.rd).mono ?_; rintro e w2 ⟨rfl, h1, h2⟩
  have HR1 := Lib.hid (HR0.out.step h1 h2)
  clear h1 h2 HR0 G0
  go_wp2_with fail
  refine (G1 r _ HR1.out.rd).mono ?_; rintro e w3 ⟨rfl, h1, h2⟩
  have HR2 := Lib.hid (HR1.out.step h1 h2)
  clear h1 h2 HR1 G1
  go_wp2_with fail
  refine (G2 r _ HR2.out.rd).mono ?_; rintro e w4 ⟨rfl, h1, h2⟩
  have HR3 := Lib.hid (HR2.out.step h1 h2)
  rw [hT]
  clear h1 h2 HR2 G2
  obtain ⟨c0, c1, c2, c3⟩ := HR3.out.cells
  obtain ⟨⟨f0, f1, f2, f3⟩, hlt⟩ := HR3.out.free
  have HP := Lib.hid (T3.put (a' := .bool false) (b' := .int .i64 n) (c' := .int .i64 0) (d' := .string T) HR3.out)
  go_wp2_with fail
  clear c0 c1 c2 c3 f0 f1 f2 f3 hlt HR3
  have HE := err_any r _ _ HP.out.rd
  rw [he] at HE
  refine HE.mono ?_; rintro e w5 ⟨rfl, rfl⟩
  clear HE
  obtain ⟨c0, c1, c2, c3⟩ := HP.out.rcells
  obtain ⟨⟨f0, f1, f2, f3⟩, hlt⟩ := HP.out.rfree
  go_wp2_with fail
  have HF := Lib.hid (T3.end (a' := .bool false) (b' := .int .i64 0) (c' := .int .i64 0) (d' := .string ⟨#[]⟩) HP.out)
  obtain ⟨q0, q1, q2, q3⟩ := HF.out.cells
  exact bodyPost_ret (v := .tuple #[.agg #[.bool false, .int .i64 0, .int .i64 0, .string ⟨#[]⟩], .int .i64 10]) (by simp [results, Tryz.results108, go_sem, q0, q1, q2, q3, hlt]) rfl ⟨rfl, HF.out.below⟩
set_option maxHeartbeats 4000000 in
theorem take_1L (s : ByteArray) (hs : s.size ≤ 1099511627776) (x1 : R) (G0 : ∀ r wx, Rd wx r ⟨s.data.toList, 0⟩ → Calls Tryz.prog 41 #[.pointer (some ⟨r, 0, none⟩)] wx (Got .u8 r 1 x1 wx)) (n : Nat) (hn : n < 256) (x2 : R) (G1 : ∀ r wx, Rd wx r x1 → Calls Tryz.prog 41 #[.pointer (some ⟨r, 0, none⟩)] wx (Got .u8 r n x2 wx)) (t : List UInt8) (T : ByteArray) (hT : bs t = T) (x3 : R) (G2 : ∀ r wx, Rd wx r x2 → Calls Tryz.prog 42 #[.pointer (some ⟨r, 0, none⟩)] wx (Took r t x3 wx)) (he : x3.er = 0) (hre : (bs x3.rest).toList.isEmpty = false) (w : World) :
    Calls Tryz.prog 108 #[.string s] w fun e w' => e = .returned (.tuple #[.agg #[.bool false, .int .i64 0, .int .i64 0, .string ⟨#[]⟩], .int .i64 4]) ∧ Below w.heap.size w w' := by
  have HX := Lib.hid (Box.new w 154 #[.bool false, .int .i64 0, .int .i64 0, .string ⟨#[]⟩])
  have hcv : (IntKind.i64.wrap (n : Int)) = (n : Int) := by rw [IntKind.wrap_i64]; omega
  go_enter Tryz.func108, Tryz.ntmps108
  go_wp2_with fail
  refine (new_any s (by omega) _).mono ?_; rintro e w1 ⟨r, rfl, hr, hd, hb⟩
  have HR0 := Lib.hid (T3.new HX.out hr hd hb #[.bool false, .int .i64 0, .int .i64 0, .string ⟨#[]⟩])
  clear hr hd hb HX
  go_wp2_with fail
  refine (G0 r _ HR0.out.rd).mono ?_; rintro e w2 ⟨rfl, h1, h2⟩
  have HR1 := Lib.hid (HR0.out.step h1 h2)
  clear h1 h2 HR0 G0
  go_wp2_with fail
  refine (G1 r _ HR1.out.rd).mono ?_; rintro e w3 ⟨rfl, h1, h2⟩
  have HR2 := Lib.hid (HR1.out.step h1 h2)
  clear h1 h2 HR1 G1
  go_wp2_with fail
  refine (G2 r _ HR2.out.rd).mono ?_; rintro e w4 ⟨rfl, h1, h2⟩
  have HR3 := Lib.hid (HR2.out.step h1 h2)
  rw [hT]
  clear h1 h2 HR2 G2
  obtain ⟨c0, c1, c2, c3⟩ := HR3.out.cells
  obtain ⟨⟨f0, f1, f2, f3⟩, hlt⟩ := HR3.out.free
  have HP := Lib.hid (T3.put (a' := .bool false) (b' := .int .i64 n) (c' := .int .i64 0) (d' := .string T) HR3.out)
  go_wp2_with fail
  clear c0 c1 c2 c3 f0 f1 f2 f3 hlt HR3
  have HE := err_any r _ _ HP.out.rd
  rw [he] at HE
  refine HE.mono ?_; rintro e w5 ⟨rfl, rfl⟩
  clear HE
  go_wp2_with fail
  have HE := rest_any r _ _ HP.out.rd
  refine HE.mono ?_; rintro e w6 ⟨rfl, rfl⟩
  clear HE
  obtain ⟨c0, c1, c2, c3⟩ := HP.out.rcells
  obtain ⟨⟨f0, f1, f2, f3⟩, hlt⟩ := HP.out.rfree
  go_wp2_with fail
  have HF := Lib.hid (T3.end (a' := .bool false) (b' := .int .i64 0) (c' := .int .i64 0) (d' := .string ⟨#[]⟩) HP.out)
  obtain ⟨q0, q1, q2, q3⟩ := HF.out.cells
  exact bodyPost_ret (v := .tuple #[.agg #[.bool false, .int .i64 0, .int .i64 0, .string ⟨#[]⟩], .int .i64 4]) (by simp [results, Tryz.results108, go_sem, q0, q1, q2, q3, hlt]) rfl ⟨rfl, HF.out.below⟩
set_option maxHeartbeats 4000000 in
theorem take_1N (s : ByteArray) (hs : s.size ≤ 1099511627776) (x1 : R) (G0 : ∀ r wx, Rd wx r ⟨s.data.toList, 0⟩ → Calls Tryz.prog 41 #[.pointer (some ⟨r, 0, none⟩)] wx (Got .u8 r 1 x1 wx)) (n : Nat) (hn : n < 256) (x2 : R) (G1 : ∀ r wx, Rd wx r x1 → Calls Tryz.prog 41 #[.pointer (some ⟨r, 0, none⟩)] wx (Got .u8 r n x2 wx)) (t : List UInt8) (T : ByteArray) (hT : bs t = T) (x3 : R) (G2 : ∀ r wx, Rd wx r x2 → Calls Tryz.prog 42 #[.pointer (some ⟨r, 0, none⟩)] wx (Took r t x3 wx)) (he : x3.er = 0) (hre : x3.rest = []) (M : ∀ w, Calls Tryz.prog 126 #[.agg #[.bool false, .int .i64 n, .int .i64 0, .string T]] w fun e w' => e = .returned (.bool false) ∧ Below w.heap.size w w') (w : World) :
    Calls Tryz.prog 108 #[.string s] w fun e w' => e = .returned (.tuple #[.agg #[.bool false, .int .i64 0, .int .i64 0, .string ⟨#[]⟩], .int .i64 4]) ∧ Below w.heap.size w w' := by
  have HX := Lib.hid (Box.new w 154 #[.bool false, .int .i64 0, .int .i64 0, .string ⟨#[]⟩])
  have hcv : (IntKind.i64.wrap (n : Int)) = (n : Int) := by rw [IntKind.wrap_i64]; omega
  go_enter Tryz.func108, Tryz.ntmps108
  go_wp2_with fail
  refine (new_any s (by omega) _).mono ?_; rintro e w1 ⟨r, rfl, hr, hd, hb⟩
  have HR0 := Lib.hid (T3.new HX.out hr hd hb #[.bool false, .int .i64 0, .int .i64 0, .string ⟨#[]⟩])
  clear hr hd hb HX
  go_wp2_with fail
  refine (G0 r _ HR0.out.rd).mono ?_; rintro e w2 ⟨rfl, h1, h2⟩
  have HR1 := Lib.hid (HR0.out.step h1 h2)
  clear h1 h2 HR0 G0
  go_wp2_with fail
  refine (G1 r _ HR1.out.rd).mono ?_; rintro e w3 ⟨rfl, h1, h2⟩
  have HR2 := Lib.hid (HR1.out.step h1 h2)
  clear h1 h2 HR1 G1
  go_wp2_with fail
  refine (G2 r _ HR2.out.rd).mono ?_; rintro e w4 ⟨rfl, h1, h2⟩
  have HR3 := Lib.hid (HR2.out.step h1 h2)
  rw [hT]
  clear h1 h2 HR2 G2
  obtain ⟨c0, c1, c2, c3⟩ := HR3.out.cells
  obtain ⟨⟨f0, f1, f2, f3⟩, hlt⟩ := HR3.out.free
  have HP := Lib.hid (T3.put (a' := .bool false) (b' := .int .i64 n) (c' := .int .i64 0) (d' := .string T) HR3.out)
  go_wp2_with fail
  clear c0 c1 c2 c3 f0 f1 f2 f3 hlt HR3
  have HE := err_any r _ _ HP.out.rd
  rw [he] at HE
  refine HE.mono ?_; rintro e w5 ⟨rfl, rfl⟩
  clear HE
  go_wp2_with fail
  have HE := rest_any r _ _ HP.out.rd
  rw [hre, bs_nil] at HE
  refine HE.mono ?_; rintro e w6 ⟨rfl, rfl⟩
  clear HE
  obtain ⟨c0, c1, c2, c3⟩ := HP.out.cells
  have hltg := HP.out.box.lt
  go_wp2_with fail
  refine (M _).mono ?_; rintro e w7 ⟨rfl, hb⟩
  have HB := Lib.hid (HP.out.later hb)
  clear hb c0 c1 c2 c3 hltg HP
  obtain ⟨c0, c1, c2, c3⟩ := HB.out.rcells
  obtain ⟨⟨f0, f1, f2, f3⟩, hlt⟩ := HB.out.rfree
  go_wp2_with fail
  have HF := Lib.hid (T3.end (a' := .bool false) (b' := .int .i64 0) (c' := .int .i64 0) (d' := .string ⟨#[]⟩) HB.out)
  obtain ⟨q0, q1, q2, q3⟩ := HF.out.cells
  exact bodyPost_ret (v := .tuple #[.agg #[.bool false, .int .i64 0, .int .i64 0, .string ⟨#[]⟩], .int .i64 4]) (by simp [results, Tryz.results108, go_sem, q0, q1, q2, q3, hlt]) rfl ⟨rfl, HF.out.below⟩
set_option maxHeartbeats 4000000 in
theorem take_1Y (s : ByteArray) (hs : s.size ≤ 1099511627776) (x1 : R) (G0 : ∀ r wx, Rd wx r ⟨s.data.toList, 0⟩ → Calls Tryz.prog 41 #[.pointer (some ⟨r, 0, none⟩)] wx (Got .u8 r 1 x1 wx)) (n : Nat) (hn : n < 256) (x2 : R) (G1 : ∀ r wx, Rd wx r x1 → Calls Tryz.prog 41 #[.pointer (some ⟨r, 0, none⟩)] wx (Got .u8 r n x2 wx)) (t : List UInt8) (T : ByteArray) (hT : bs t = T) (x3 : R) (G2 : ∀ r wx, Rd wx r x2 → Calls Tryz.prog 42 #[.pointer (some ⟨r, 0, none⟩)] wx (Took r t x3 wx)) (he : x3.er = 0) (hre : x3.rest = []) (M : ∀ w, Calls Tryz.prog 126 #[.agg #[.bool false, .int .i64 n, .int .i64 0, .string T]] w fun e w' => e = .returned (.bool true) ∧ Below w.heap.size w w') (w : World) :
    Calls Tryz.prog 108 #[.string s] w fun e w' => e = .returned (.tuple #[.agg #[.bool false, .int .i64 n, .int .i64 0, .string T], .int .i64 0]) ∧ Below w.heap.size w w' := by
  have HX := Lib.hid (Box.new w 154 #[.bool false, .int .i64 0, .int .i64 0, .string ⟨#[]⟩])
  have hcv : (IntKind.i64.wrap (n : Int)) = (n : Int) := by rw [IntKind.wrap_i64]; omega
  go_enter Tryz.func108, Tryz.ntmps108
  go_wp2_with fail
  refine (new_any s (by omega) _).mono ?_; rintro e w1 ⟨r, rfl, hr, hd, hb⟩
  have HR0 := Lib.hid (T3.new HX.out hr hd hb #[.bool false, .int .i64 0, .int .i64 0, .string ⟨#[]⟩])
  clear hr hd hb HX
  go_wp2_with fail
  refine (G0 r _ HR0.out.rd).mono ?_; rintro e w2 ⟨rfl, h1, h2⟩
  have HR1 := Lib.hid (HR0.out.step h1 h2)
  clear h1 h2 HR0 G0
  go_wp2_with fail
  refine (G1 r _ HR1.out.rd).mono ?_; rintro e w3 ⟨rfl, h1, h2⟩
  have HR2 := Lib.hid (HR1.out.step h1 h2)
  clear h1 h2 HR1 G1
  go_wp2_with fail
  refine (G2 r _ HR2.out.rd).mono ?_; rintro e w4 ⟨rfl, h1, h2⟩
  have HR3 := Lib.hid (HR2.out.step h1 h2)
  rw [hT]
  clear h1 h2 HR2 G2
  obtain ⟨c0, c1, c2, c3⟩ := HR3.out.cells
  obtain ⟨⟨f0, f1, f2, f3⟩, hlt⟩ := HR3.out.free
  have HP := Lib.hid (T3.put (a' := .bool false) (b' := .int .i64 n) (c' := .int .i64 0) (d' := .string T) HR3.out)
  go_wp2_with fail
  clear c0 c1 c2 c3 f0 f1 f2 f3 hlt HR3
  have HE := err_any r _ _ HP.out.rd
  rw [he] at HE
  refine HE.mono ?_; rintro e w5 ⟨rfl, rfl⟩
  clear HE
  go_wp2_with fail
  have HE := rest_any r _ _ HP.out.rd
  rw [hre, bs_nil] at HE
  refine HE.mono ?_; rintro e w6 ⟨rfl, rfl⟩
  clear HE
  obtain ⟨c0, c1, c2, c3⟩ := HP.out.cells
  have hltg := HP.out.box.lt
  go_wp2_with fail
  refine (M _).mono ?_; rintro e w7 ⟨rfl, hb⟩
  have HB := Lib.hid (HP.out.later hb)
  clear hb c0 c1 c2 c3 hltg HP
  obtain ⟨c0, c1, c2, c3⟩ := HB.out.rcells
  obtain ⟨⟨f0, f1, f2, f3⟩, hlt⟩ := HB.out.rfree
  obtain ⟨d0, d1, d2, d3⟩ := HB.out.cells
  have hltg := HB.out.box.lt
  go_wp2_with fail
  have HF := Lib.hid (T3.end (a' := .bool false) (b' := .int .i64 n) (c' := .int .i64 0) (d' := .string T) HB.out)
  obtain ⟨q0, q1, q2, q3⟩ := HF.out.cells
  exact bodyPost_ret (v := .tuple #[.agg #[.bool false, .int .i64 n, .int .i64 0, .string T], .int .i64 0]) (by simp [results, Tryz.results108, go_sem, q0, q1, q2, q3, hlt]) rfl ⟨rfl, HF.out.below⟩
set_option maxHeartbeats 4000000 in
theorem take_2E (s : ByteArray) (hs : s.size ≤ 1099511627776) (x1 : R) (G0 : ∀ r wx, Rd wx r ⟨s.data.toList, 0⟩ → Calls Tryz.prog 41 #[.pointer (some ⟨r, 0, none⟩)] wx (Got .u8 r 2 x1 wx)) (n : Nat) (hn : n < 256) (x2 : R) (G1 : ∀ r wx, Rd wx r x1 → Calls Tryz.prog 41 #[.pointer (some ⟨r, 0, none⟩)] wx (Got .u8 r n x2 wx)) (he : x2.er = 10) (w : World) :
    Calls Tryz.prog 108 #[.string s] w fun e w' => e = .returned (.tuple #[.agg #[.bool false, .int .i64 0, .int .i64 0, .string ⟨#[]⟩], .int .i64 10]) ∧ Below w.heap.size w w' := by
  have HX := Lib.hid (Box.new w 154 #[.bool false, .int .i64 0, .int .i64 0, .string ⟨#[]⟩])
  have hcv : (IntKind.i64.wrap (n : Int)) = (n : Int) := by rw [IntKind.wrap_i64]; omega
  go_enter Tryz.func108, Tryz.ntmps108
  go_wp2_with fail
  refine (new_any s (by omega) _).mono ?_; rintro e w1 ⟨r, rfl, hr, hd, hb⟩
  have HR0 := Lib.hid (T3.new HX.out hr hd hb #[.bool false, .int .i64 0, .int .i64 0, .string ⟨#[]⟩])
  clear hr hd hb HX
  go_wp2_with fail
  refine (G0 r _ HR0.out.rd).mono ?_; rintro e w2 ⟨rfl, h1, h2⟩
  have HR1 := Lib.hid (HR0.out.step h1 h2)
  clear h1 h2 HR0 G0
  go_wp2_with fail
  refine (G1 r _ HR1.out.rd).mono ?_; rintro e w3 ⟨rfl, h1, h2⟩
  have HR2 := Lib.hid (HR1.out.step h1 h2)
  clear h1 h2 HR1 G1
  obtain ⟨c0, c1, c2, c3⟩ := HR2.out.cells
  obtain ⟨⟨f0, f1, f2, f3⟩, hlt⟩ := HR2.out.free
  have HP := Lib.hid (T3.put (a' := .bool true) (b' := .int .i64 0) (c' := .int .i64 n) (d' := .string ⟨#[]⟩) HR2.out)
  go_wp2_with fail
  clear c0 c1 c2 c3 f0 f1 f2 f3 hlt HR2
  have HE := err_any r _ _ HP.out.rd
  rw [he] at HE
  refine HE.mono ?_; rintro e w5 ⟨rfl, rfl⟩
  clear HE
  obtain ⟨c0, c1, c2, c3⟩ := HP.out.rcells
  obtain ⟨⟨f0, f1, f2, f3⟩, hlt⟩ := HP.out.rfree
  go_wp2_with fail
  have HF := Lib.hid (T3.end (a' := .bool false) (b' := .int .i64 0) (c' := .int .i64 0) (d' := .string ⟨#[]⟩) HP.out)
  obtain ⟨q0, q1, q2, q3⟩ := HF.out.cells
  exact bodyPost_ret (v := .tuple #[.agg #[.bool false, .int .i64 0, .int .i64 0, .string ⟨#[]⟩], .int .i64 10]) (by simp [results, Tryz.results108, go_sem, q0, q1, q2, q3, hlt]) rfl ⟨rfl, HF.out.below⟩
set_option maxHeartbeats 4000000 in
theorem take_2L (s : ByteArray) (hs : s.size ≤ 1099511627776) (x1 : R) (G0 : ∀ r wx, Rd wx r ⟨s.data.toList, 0⟩ → Calls Tryz.prog 41 #[.pointer (some ⟨r, 0, none⟩)] wx (Got .u8 r 2 x1 wx)) (n : Nat) (hn : n < 256) (x2 : R) (G1 : ∀ r wx, Rd wx r x1 → Calls Tryz.prog 41 #[.pointer (some ⟨r, 0, none⟩)] wx (Got .u8 r n x2 wx)) (he : x2.er = 0) (hre : (bs x2.rest).toList.isEmpty = false) (w : World) :
    Calls Tryz.prog 108 #[.string s] w fun e w' => e = .returned (.tuple #[.agg #[.bool false, .int .i64 0, .int .i64 0, .string ⟨#[]⟩], .int .i64 4]) ∧ Below w.heap.size w w' := by
  have HX := Lib.hid (Box.new w 154 #[.bool false, .int .i64 0, .int .i64 0, .string ⟨#[]⟩])
  have hcv : (IntKind.i64.wrap (n : Int)) = (n : Int) := by rw [IntKind.wrap_i64]; omega
  go_enter Tryz.func108, Tryz.ntmps108
  go_wp2_with fail
  refine (new_any s (by omega) _).mono ?_; rintro e w1 ⟨r, rfl, hr, hd, hb⟩
  have HR0 := Lib.hid (T3.new HX.out hr hd hb #[.bool false, .int .i64 0, .int .i64 0, .string ⟨#[]⟩])
  clear hr hd hb HX
  go_wp2_with fail
  refine (G0 r _ HR0.out.rd).mono ?_; rintro e w2 ⟨rfl, h1, h2⟩
  have HR1 := Lib.hid (HR0.out.step h1 h2)
  clear h1 h2 HR0 G0
  go_wp2_with fail
  refine (G1 r _ HR1.out.rd).mono ?_; rintro e w3 ⟨rfl, h1, h2⟩
  have HR2 := Lib.hid (HR1.out.step h1 h2)
  clear h1 h2 HR1 G1
  obtain ⟨c0, c1, c2, c3⟩ := HR2.out.cells
  obtain ⟨⟨f0, f1, f2, f3⟩, hlt⟩ := HR2.out.free
  have HP := Lib.hid (T3.put (a' := .bool true) (b' := .int .i64 0) (c' := .int .i64 n) (d' := .string ⟨#[]⟩) HR2.out)
  go_wp2_with fail
  clear c0 c1 c2 c3 f0 f1 f2 f3 hlt HR2
  have HE := err_any r _ _ HP.out.rd
  rw [he] at HE
  refine HE.mono ?_; rintro e w5 ⟨rfl, rfl⟩
  clear HE
  go_wp2_with fail
  have HE := rest_any r _ _ HP.out.rd
  refine HE.mono ?_; rintro e w6 ⟨rfl, rfl⟩
  clear HE
  obtain ⟨c0, c1, c2, c3⟩ := HP.out.rcells
  obtain ⟨⟨f0, f1, f2, f3⟩, hlt⟩ := HP.out.rfree
  go_wp2_with fail
  have HF := Lib.hid (T3.end (a' := .bool false) (b' := .int .i64 0) (c' := .int .i64 0) (d' := .string ⟨#[]⟩) HP.out)
  obtain ⟨q0, q1, q2, q3⟩ := HF.out.cells
  exact bodyPost_ret (v := .tuple #[.agg #[.bool false, .int .i64 0, .int .i64 0, .string ⟨#[]⟩], .int .i64 4]) (by simp [results, Tryz.results108, go_sem, q0, q1, q2, q3, hlt]) rfl ⟨rfl, HF.out.below⟩
set_option maxHeartbeats 4000000 in
theorem take_2N (s : ByteArray) (hs : s.size ≤ 1099511627776) (x1 : R) (G0 : ∀ r wx, Rd wx r ⟨s.data.toList, 0⟩ → Calls Tryz.prog 41 #[.pointer (some ⟨r, 0, none⟩)] wx (Got .u8 r 2 x1 wx)) (n : Nat) (hn : n < 256) (x2 : R) (G1 : ∀ r wx, Rd wx r x1 → Calls Tryz.prog 41 #[.pointer (some ⟨r, 0, none⟩)] wx (Got .u8 r n x2 wx)) (he : x2.er = 0) (hre : x2.rest = []) (M : ∀ w, Calls Tryz.prog 126 #[.agg #[.bool true, .int .i64 0, .int .i64 n, .string ⟨#[]⟩]] w fun e w' => e = .returned (.bool false) ∧ Below w.heap.size w w') (w : World) :
    Calls Tryz.prog 108 #[.string s] w fun e w' => e = .returned (.tuple #[.agg #[.bool false, .int .i64 0, .int .i64 0, .string ⟨#[]⟩], .int .i64 4]) ∧ Below w.heap.size w w' := by
  have HX := Lib.hid (Box.new w 154 #[.bool false, .int .i64 0, .int .i64 0, .string ⟨#[]⟩])
  have hcv : (IntKind.i64.wrap (n : Int)) = (n : Int) := by rw [IntKind.wrap_i64]; omega
  go_enter Tryz.func108, Tryz.ntmps108
  go_wp2_with fail
  refine (new_any s (by omega) _).mono ?_; rintro e w1 ⟨r, rfl, hr, hd, hb⟩
  have HR0 := Lib.hid (T3.new HX.out hr hd hb #[.bool false, .int .i64 0, .int .i64 0, .string ⟨#[]⟩])
  clear hr hd hb HX
  go_wp2_with fail
  refine (G0 r _ HR0.out.rd).mono ?_; rintro e w2 ⟨rfl, h1, h2⟩
  have HR1 := Lib.hid (HR0.out.step h1 h2)
  clear h1 h2 HR0 G0
  go_wp2_with fail
  refine (G1 r _ HR1.out.rd).mono ?_; rintro e w3 ⟨rfl, h1, h2⟩
  have HR2 := Lib.hid (HR1.out.step h1 h2)
  clear h1 h2 HR1 G1
  obtain ⟨c0, c1, c2, c3⟩ := HR2.out.cells
  obtain ⟨⟨f0, f1, f2, f3⟩, hlt⟩ := HR2.out.free
  have HP := Lib.hid (T3.put (a' := .bool true) (b' := .int .i64 0) (c' := .int .i64 n) (d' := .string ⟨#[]⟩) HR2.out)
  go_wp2_with fail
  clear c0 c1 c2 c3 f0 f1 f2 f3 hlt HR2
  have HE := err_any r _ _ HP.out.rd
  rw [he] at HE
  refine HE.mono ?_; rintro e w5 ⟨rfl, rfl⟩
  clear HE
  go_wp2_with fail
  have HE := rest_any r _ _ HP.out.rd
  rw [hre, bs_nil] at HE
  refine HE.mono ?_; rintro e w6 ⟨rfl, rfl⟩
  clear HE
  obtain ⟨c0, c1, c2, c3⟩ := HP.out.cells
  have hltg := HP.out.box.lt
  go_wp2_with fail
  refine (M _).mono ?_; rintro e w7 ⟨rfl, hb⟩
  have HB := Lib.hid (HP.out.later hb)
  clear hb c0 c1 c2 c3 hltg HP
  obtain ⟨c0, c1, c2, c3⟩ := HB.out.rcells
  obtain ⟨⟨f0, f1, f2, f3⟩, hlt⟩ := HB.out.rfree
  go_wp2_with fail
  have HF := Lib.hid (T3.end (a' := .bool false) (b' := .int .i64 0) (c' := .int .i64 0) (d' := .string ⟨#[]⟩) HB.out)
  obtain ⟨q0, q1, q2, q3⟩ := HF.out.cells
  exact bodyPost_ret (v := .tuple #[.agg #[.bool false, .int .i64 0, .int .i64 0, .string ⟨#[]⟩], .int .i64 4]) (by simp [results, Tryz.results108, go_sem, q0, q1, q2, q3, hlt]) rfl ⟨rfl, HF.out.below⟩
set_option maxHeartbeats 4000000 in
theorem take_2Y (s : ByteArray) (hs : s.size ≤ 1099511627776) (x1 : R) (G0 : ∀ r wx, Rd wx r ⟨s.data.toList, 0⟩ → Calls Tryz.prog 41 #[.pointer (some ⟨r, 0, none⟩)] wx (Got .u8 r 2 x1 wx)) (n : Nat) (hn : n < 256) (x2 : R) (G1 : ∀ r wx, Rd wx r x1 → Calls Tryz.prog 41 #[.pointer (some ⟨r, 0, none⟩)] wx (Got .u8 r n x2 wx)) (he : x2.er = 0) (hre : x2.rest = []) (M : ∀ w, Calls Tryz.prog 126 #[.agg #[.bool true, .int .i64 0, .int .i64 n, .string ⟨#[]⟩]] w fun e w' => e = .returned (.bool true) ∧ Below w.heap.size w w') (w : World) :
    Calls Tryz.prog 108 #[.string s] w fun e w' => e = .returned (.tuple #[.agg #[.bool true, .int .i64 0, .int .i64 n, .string ⟨#[]⟩], .int .i64 0]) ∧ Below w.heap.size w w' := by
  have HX := Lib.hid (Box.new w 154 #[.bool false, .int .i64 0, .int .i64 0, .string ⟨#[]⟩])
  have hcv : (IntKind.i64.wrap (n : Int)) = (n : Int) := by rw [IntKind.wrap_i64]; omega
  go_enter Tryz.func108, Tryz.ntmps108
  go_wp2_with fail
  refine (new_any s (by omega) _).mono ?_; rintro e w1 ⟨r, rfl, hr, hd, hb⟩
  have HR0 := Lib.hid (T3.new HX.out hr hd hb #[.bool false, .int .i64 0, .int .i64 0, .string ⟨#[]⟩])
  clear hr hd hb HX
  go_wp2_with fail
  refine (G0 r _ HR0.out.rd).mono ?_; rintro e w2 ⟨rfl, h1, h2⟩
  have HR1 := Lib.hid (HR0.out.step h1 h2)
  clear h1 h2 HR0 G0
  go_wp2_with fail
  refine (G1 r _ HR1.out.rd).mono ?_; rintro e w3 ⟨rfl, h1, h2⟩
  have HR2 := Lib.hid (HR1.out.step h1 h2)
  clear h1 h2 HR1 G1
  obtain ⟨c0, c1, c2, c3⟩ := HR2.out.cells
  obtain ⟨⟨f0, f1, f2, f3⟩, hlt⟩ := HR2.out.free
  have HP := Lib.hid (T3.put (a' := .bool true) (b' := .int .i64 0) (c' := .int .i64 n) (d' := .string ⟨#[]⟩) HR2.out)
  go_wp2_with fail
  clear c0 c1 c2 c3 f0 f1 f2 f3 hlt HR2
  have HE := err_any r _ _ HP.out.rd
  rw [he] at HE
  refine HE.mono ?_; rintro e w5 ⟨rfl, rfl⟩
  clear HE
  go_wp2_with fail
  have HE := rest_any r _ _ HP.out.rd
  rw [hre, bs_nil] at HE
  refine HE.mono ?_; rintro e w6 ⟨rfl, rfl⟩
  clear HE
  obtain ⟨c0, c1, c2, c3⟩ := HP.out.cells
  have hltg := HP.out.box.lt
  go_wp2_with fail
  refine (M _).mono ?_; rintro e w7 ⟨rfl, hb⟩
  have HB := Lib.hid (HP.out.later hb)
  clear hb c0 c1 c2 c3 hltg HP
  obtain ⟨c0, c1, c2, c3⟩ := HB.out.rcells
  obtain ⟨⟨f0, f1, f2, f3⟩, hlt⟩ := HB.out.rfree
  obtain ⟨d0, d1, d2, d3⟩ := HB.out.cells
  have hltg := HB.out.box.lt
  go_wp2_with fail
  have HF := Lib.hid (T3.end (a' := .bool true) (b' := .int .i64 0) (c' := .int .i64 n) (d' := .string ⟨#[]⟩) HB.out)
  obtain ⟨q0, q1, q2, q3⟩ := HF.out.cells
  exact bodyPost_ret (v := .tuple #[.agg #[.bool true, .int .i64 0, .int .i64 n, .string ⟨#[]⟩], .int .i64 0]) (by simp [results, Tryz.results108, go_sem, q0, q1, q2, q3, hlt]) rfl ⟨rfl, HF.out.below⟩
end Go.Proofs.YthledgkjfjdjoaaGreat.Bk
