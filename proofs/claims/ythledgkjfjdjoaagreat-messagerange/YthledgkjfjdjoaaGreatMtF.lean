/- What a change makes of a meta, by the program. Conditions: numbers of their kinds. -/
import Derived.Test.YthledgkjfjdjoaaGreatMtE
namespace Go.Proofs.YthledgkjfjdjoaaGreat.Mt
open Go.ChangeShapes Go.WideShapes Go.RowKit Go.Codec Go.Num Go.Mt
set_option maxRecDepth 100000
set_option linter.unusedSimpArgs false
set_option linter.unusedVariables false
set_option maxHeartbeats 4000000 in
theorem resized_file (sz mk st n : Nat) (w : World) :
    Calls Tryz.prog 124 #[.agg #[.int .u8 1, .int .u32 sz, .int .u64 mk, .int .u64 st], .int .u32 n] w fun e w' => e = .returned (.agg #[.int .u8 1, .int .u32 n, .int .u64 mk, .int .u64 st]) ∧ Below w.heap.size w w' := by
  go_enter Tryz.func124, Tryz.ntmps124
  go_wp2
  exact bodyPost_ret (v := .agg #[.int .u8 1, .int .u32 n, .int .u64 mk, .int .u64 st]) (by simp [results, Tryz.results124, go_sem]) rfl ⟨rfl, below_alloc (below_alloc (Below.refl _ _) _) _⟩
set_option maxHeartbeats 4000000 in
theorem resized_dir (k sz mk st n : Nat) (hk : ((k : Int) == 1) = false) (w : World) :
    Calls Tryz.prog 124 #[.agg #[.int .u8 k, .int .u32 sz, .int .u64 mk, .int .u64 st], .int .u32 n] w fun e w' => e = .returned (.agg #[.int .u8 k, .int .u32 sz, .int .u64 mk, .int .u64 st]) ∧ Below w.heap.size w w' := by
  go_enter Tryz.func124, Tryz.ntmps124
  go_wp2
  exact bodyPost_ret (v := .agg #[.int .u8 k, .int .u32 sz, .int .u64 mk, .int .u64 st]) (by simp [results, Tryz.results124, go_sem]) rfl ⟨rfl, below_alloc (below_alloc (Below.refl _ _) _) _⟩
/-- Three boxes: a meta, a change, and the answer. -/
structure Bx3 (w : World) (t : TypeId) (A C Z : Array Value) (wx : World) : Prop where
  below : Below w.heap.size w wx
  m : Is wx w.heap.size 89 A
  c : Is wx (w.heap.size + 1) t C
  z : Is wx (w.heap.size + 1 + 1) 89 Z
section
variable {w wx wy : World} {t : TypeId} {A C Z : Array Value}
theorem _root_.Go.Proofs.YthledgkjfjdjoaaGreat.Is.at {w : World} {g h : Nat} {t : TypeId} {cs : Array Value} (H : Is w g t cs) (e : g = h) : Is w h t cs := e ▸ H
theorem Bx3.new (w : World) (t : TypeId) (A C Z : Array Value) : Bx3 w t A C Z (((w.alloc (.cells A 89)).alloc (.cells C t)).alloc (.cells Z 89)) :=
  ⟨below_alloc (below_alloc (below_alloc (Below.refl _ _) _) _) _, ((Is.new w 89 A).alloc _).alloc _, ((Is.new (w.alloc (.cells A 89)) t C).alloc _).at (by simp), (Is.new ((w.alloc (.cells A 89)).alloc (.cells C t)) 89 Z).at (by simp)⟩
theorem Bx3.later (h : Bx3 w t A C Z wx) (hb : Below wx.heap.size wx wy) : Bx3 w t A C Z wy :=
  ⟨h.below.trans (hb.mono h.below.size), h.m.kept (grow_below hb none) (by simp), h.c.kept (grow_below hb none) (by simp), h.z.kept (grow_below hb none) (by simp)⟩
theorem Bx3.cells {a b c d a' b' c' d' : Value} (h : Bx3 w t #[a, b, c, d] #[a', b', c', d'] Z wx) :
    (wx.cell? ⟨w.heap.size, 0, none⟩ = some a ∧ wx.cell? ⟨w.heap.size, 1, none⟩ = some b ∧ wx.cell? ⟨w.heap.size, 2, none⟩ = some c ∧ wx.cell? ⟨w.heap.size, 3, none⟩ = some d) ∧
    (wx.cell? ⟨w.heap.size + 1, 0, none⟩ = some a' ∧ wx.cell? ⟨w.heap.size + 1, 1, none⟩ = some b' ∧ wx.cell? ⟨w.heap.size + 1, 2, none⟩ = some c' ∧ wx.cell? ⟨w.heap.size + 1, 3, none⟩ = some d') :=
  ⟨⟨h.m.cell 0, h.m.cell 1, h.m.cell 2, h.m.cell 3⟩, h.c.cell 0, h.c.cell 1, h.c.cell 2, h.c.cell 3⟩
theorem Bx3.zs {a b c d : Value} (h : Bx3 w t A C #[a, b, c, d] wx) :
    wx.cell? ⟨w.heap.size + 1 + 1, 0, none⟩ = some a ∧ wx.cell? ⟨w.heap.size + 1 + 1, 1, none⟩ = some b ∧ wx.cell? ⟨w.heap.size + 1 + 1, 2, none⟩ = some c ∧ wx.cell? ⟨w.heap.size + 1 + 1, 3, none⟩ = some d :=
  ⟨h.z.cell 0, h.z.cell 1, h.z.cell 2, h.z.cell 3⟩
theorem Bx3.putm (h : Bx3 w t A C Z wx) (i : Nat) (v : Value) : Bx3 w t (A.setIfInBounds i v) C Z (wx.setCell ⟨w.heap.size, i, none⟩ v) :=
  ⟨h.below.setCell (Nat.le_refl _) _, h.m.put i v, h.c.other (by show w.heap.size + 1 ≠ w.heap.size; omega) _, h.z.other (by show w.heap.size + 1 + 1 ≠ w.heap.size; omega) _⟩
theorem Bx3.four {a b c d a' b' c' d' : Value} (h : Bx3 w t A C #[a, b, c, d] wx) : Bx3 w t A C #[a', b', c', d'] ((((wx.setCell ⟨w.heap.size + 1 + 1, 0, none⟩ a').setCell ⟨w.heap.size + 1 + 1, 1, none⟩ b').setCell ⟨w.heap.size + 1 + 1, 2, none⟩ c').setCell ⟨w.heap.size + 1 + 1, 3, none⟩ d') := by
  have hle : w.heap.size ≤ w.heap.size + 1 + 1 := by omega
  have n1 : w.heap.size ≠ w.heap.size + 1 + 1 := by omega
  have n2 : w.heap.size + 1 ≠ w.heap.size + 1 + 1 := by omega
  refine ⟨(((h.below.setCell hle _).setCell hle _).setCell hle _).setCell hle _, (((h.m.other (by exact n1) _).other (by exact n1) _).other (by exact n1) _).other (by exact n1) _, (((h.c.other (by exact n2) _).other (by exact n2) _).other (by exact n2) _).other (by exact n2) _, ?_⟩
  have h1 := (((h.z.put 0 a').put 1 b').put 2 c').put 3 d'
  simp at h1
  exact h1
end
set_option maxHeartbeats 4000000 in
theorem apply_no1 (k sz mk st wh n op b : Nat) (w : World) (CK : ∀ w, Calls Tryz.prog 120 #[.agg #[.int .u8 k, .int .u32 sz, .int .u64 mk, .int .u64 st]] w fun e w' => e = .returned (.int .i64 4) ∧ Below w.heap.size w w') :
    Calls Tryz.prog 106 #[.agg #[.int .u8 k, .int .u32 sz, .int .u64 mk, .int .u64 st], .agg #[.int .u8 wh, .int .u64 n, .int .u8 op, .int .u64 b]] w fun e w' => e = .returned (.agg #[.int .u8 k, .int .u32 sz, .int .u64 mk, .int .u64 st]) ∧ Below w.heap.size w w' := by
  have HB := Lib.hid (Bx3.new w 148 #[.int .u8 k, .int .u32 sz, .int .u64 mk, .int .u64 st] #[.int .u8 wh, .int .u64 n, .int .u8 op, .int .u64 b] #[.int .u8 0, .int .u32 0, .int .u64 0, .int .u64 0])
  go_enter Tryz.func106, Tryz.ntmps106
  go_wp2_with fail
  refine (CK _).mono ?_; rintro e w1 ⟨rfl, hb⟩
  replace HB := Lib.hid (HB.out.later hb)
  clear hb
  obtain ⟨⟨c0, c1, c2, c3⟩, d0, d1, d2, d3⟩ := HB.out.cells
  have f0 := HB.out.z.frozen 0; have f1 := HB.out.z.frozen 1; have f2 := HB.out.z.frozen 2; have f3 := HB.out.z.frozen 3
  have hlt := HB.out.z.lt; have hltm := HB.out.m.lt; have hltc := HB.out.c.lt
  obtain ⟨z0, z1, z2, z3⟩ := HB.out.zs
  go_wp2_with fail
  have HF := Lib.hid (Bx3.four (a' := .int .u8 k) (b' := .int .u32 sz) (c' := .int .u64 mk) (d' := .int .u64 st) HB.out)
  have hltz := HF.out.z.lt
  obtain ⟨e0, e1, e2, e3⟩ := HF.out.zs
  exact bodyPost_ret (v := .agg #[.int .u8 k, .int .u32 sz, .int .u64 mk, .int .u64 st]) (by simp [results, Tryz.results106, go_sem, e0, e1, e2, e3, hltz]) rfl ⟨rfl, HF.out.below⟩
set_option maxHeartbeats 4000000 in
theorem apply_no2 (k sz mk st wh n op b : Nat) (w : World) (CK : ∀ w, Calls Tryz.prog 120 #[.agg #[.int .u8 k, .int .u32 sz, .int .u64 mk, .int .u64 st]] w fun e w' => e = .returned (.int .i64 0) ∧ Below w.heap.size w w') (MB : ∀ w, Calls Tryz.prog 121 #[.agg #[.int .u8 wh, .int .u64 n, .int .u8 op, .int .u64 b]] w fun e w' => e = .returned (.bool false) ∧ Below w.heap.size w w') :
    Calls Tryz.prog 106 #[.agg #[.int .u8 k, .int .u32 sz, .int .u64 mk, .int .u64 st], .agg #[.int .u8 wh, .int .u64 n, .int .u8 op, .int .u64 b]] w fun e w' => e = .returned (.agg #[.int .u8 k, .int .u32 sz, .int .u64 mk, .int .u64 st]) ∧ Below w.heap.size w w' := by
  have HB := Lib.hid (Bx3.new w 148 #[.int .u8 k, .int .u32 sz, .int .u64 mk, .int .u64 st] #[.int .u8 wh, .int .u64 n, .int .u8 op, .int .u64 b] #[.int .u8 0, .int .u32 0, .int .u64 0, .int .u64 0])
  go_enter Tryz.func106, Tryz.ntmps106
  go_wp2_with fail
  refine (CK _).mono ?_; rintro e w1 ⟨rfl, hb⟩
  replace HB := Lib.hid (HB.out.later hb)
  clear hb
  obtain ⟨⟨c0, c1, c2, c3⟩, d0, d1, d2, d3⟩ := HB.out.cells
  have f0 := HB.out.z.frozen 0; have f1 := HB.out.z.frozen 1; have f2 := HB.out.z.frozen 2; have f3 := HB.out.z.frozen 3
  have hlt := HB.out.z.lt; have hltm := HB.out.m.lt; have hltc := HB.out.c.lt
  obtain ⟨z0, z1, z2, z3⟩ := HB.out.zs
  go_wp2_with fail
  clear c0 c1 c2 c3 d0 d1 d2 d3 f0 f1 f2 f3 hlt hltm hltc z0 z1 z2 z3
  refine (MB _).mono ?_; rintro e w2 ⟨rfl, hb⟩
  replace HB := Lib.hid (HB.out.later hb)
  clear hb
  obtain ⟨⟨c0, c1, c2, c3⟩, d0, d1, d2, d3⟩ := HB.out.cells
  have f0 := HB.out.z.frozen 0; have f1 := HB.out.z.frozen 1; have f2 := HB.out.z.frozen 2; have f3 := HB.out.z.frozen 3
  have hlt := HB.out.z.lt; have hltm := HB.out.m.lt; have hltc := HB.out.c.lt
  obtain ⟨z0, z1, z2, z3⟩ := HB.out.zs
  go_wp2_with fail
  have HF := Lib.hid (Bx3.four (a' := .int .u8 k) (b' := .int .u32 sz) (c' := .int .u64 mk) (d' := .int .u64 st) HB.out)
  have hltz := HF.out.z.lt
  obtain ⟨e0, e1, e2, e3⟩ := HF.out.zs
  exact bodyPost_ret (v := .agg #[.int .u8 k, .int .u32 sz, .int .u64 mk, .int .u64 st]) (by simp [results, Tryz.results106, go_sem, e0, e1, e2, e3, hltz]) rfl ⟨rfl, HF.out.below⟩
set_option maxHeartbeats 4000000 in
theorem apply_1a (k sz mk st n op b : Nat) (X : Nat) (hn : n ≤ 2048) (hM : (sz : Int) < (n : Int)) (w : World) (CK : ∀ w, Calls Tryz.prog 120 #[.agg #[.int .u8 k, .int .u32 sz, .int .u64 mk, .int .u64 st]] w fun e w' => e = .returned (.int .i64 0) ∧ Below w.heap.size w w') (MB : ∀ w, Calls Tryz.prog 121 #[.agg #[.int .u8 1, .int .u64 n, .int .u8 op, .int .u64 b]] w fun e w' => e = .returned (.bool true) ∧ Below w.heap.size w w') (RZ : ∀ w, Calls Tryz.prog 124 #[.agg #[.int .u8 k, .int .u32 sz, .int .u64 mk, .int .u64 st], .int .u32 n] w fun e w' => e = .returned (.agg #[.int .u8 k, .int .u32 X, .int .u64 mk, .int .u64 st]) ∧ Below w.heap.size w w') :
    Calls Tryz.prog 106 #[.agg #[.int .u8 k, .int .u32 sz, .int .u64 mk, .int .u64 st], .agg #[.int .u8 1, .int .u64 n, .int .u8 op, .int .u64 b]] w fun e w' => e = .returned (.agg #[.int .u8 k, .int .u32 X, .int .u64 mk, .int .u64 st]) ∧ Below w.heap.size w w' := by
  have HB := Lib.hid (Bx3.new w 148 #[.int .u8 k, .int .u32 sz, .int .u64 mk, .int .u64 st] #[.int .u8 1, .int .u64 n, .int .u8 op, .int .u64 b] #[.int .u8 0, .int .u32 0, .int .u64 0, .int .u64 0])
  go_enter Tryz.func106, Tryz.ntmps106
  go_wp2_with fail
  refine (CK _).mono ?_; rintro e w1 ⟨rfl, hb⟩
  replace HB := Lib.hid (HB.out.later hb)
  clear hb
  obtain ⟨⟨c0, c1, c2, c3⟩, d0, d1, d2, d3⟩ := HB.out.cells
  have f0 := HB.out.z.frozen 0; have f1 := HB.out.z.frozen 1; have f2 := HB.out.z.frozen 2; have f3 := HB.out.z.frozen 3
  have hlt := HB.out.z.lt; have hltm := HB.out.m.lt; have hltc := HB.out.c.lt
  obtain ⟨z0, z1, z2, z3⟩ := HB.out.zs
  go_wp2_with fail
  clear c0 c1 c2 c3 d0 d1 d2 d3 f0 f1 f2 f3 hlt hltm hltc z0 z1 z2 z3
  refine (MB _).mono ?_; rintro e w2 ⟨rfl, hb⟩
  replace HB := Lib.hid (HB.out.later hb)
  clear hb
  obtain ⟨⟨c0, c1, c2, c3⟩, d0, d1, d2, d3⟩ := HB.out.cells
  have f0 := HB.out.z.frozen 0; have f1 := HB.out.z.frozen 1; have f2 := HB.out.z.frozen 2; have f3 := HB.out.z.frozen 3
  have hlt := HB.out.z.lt; have hltm := HB.out.m.lt; have hltc := HB.out.c.lt
  obtain ⟨z0, z1, z2, z3⟩ := HB.out.zs
  have hcv : (n : Int) % 4294967296 = (n : Int) := by omega
  go_wp2_with fail
  clear c0 c1 c2 c3 d0 d1 d2 d3 f0 f1 f2 f3 hlt hltm hltc z0 z1 z2 z3
  refine (RZ _).mono ?_; rintro e w3 ⟨rfl, hb⟩
  replace HB := Lib.hid (HB.out.later hb)
  clear hb
  obtain ⟨⟨c0, c1, c2, c3⟩, d0, d1, d2, d3⟩ := HB.out.cells
  have f0 := HB.out.z.frozen 0; have f1 := HB.out.z.frozen 1; have f2 := HB.out.z.frozen 2; have f3 := HB.out.z.frozen 3
  have hlt := HB.out.z.lt; have hltm := HB.out.m.lt; have hltc := HB.out.c.lt
  obtain ⟨z0, z1, z2, z3⟩ := HB.out.zs
  go_wp2_with fail
  have HF := Lib.hid (Bx3.four (a' := .int .u8 k) (b' := .int .u32 X) (c' := .int .u64 mk) (d' := .int .u64 st) HB.out)
  have hltz := HF.out.z.lt
  obtain ⟨e0, e1, e2, e3⟩ := HF.out.zs
  exact bodyPost_ret (v := .agg #[.int .u8 k, .int .u32 X, .int .u64 mk, .int .u64 st]) (by simp [results, Tryz.results106, go_sem, e0, e1, e2, e3, hltz]) rfl ⟨rfl, HF.out.below⟩
set_option maxHeartbeats 4000000 in
theorem apply_1b (k sz mk st n op b : Nat) (X : Nat) (hn : n ≤ 2048) (hM : ¬ (sz : Int) < (n : Int)) (w : World) (CK : ∀ w, Calls Tryz.prog 120 #[.agg #[.int .u8 k, .int .u32 sz, .int .u64 mk, .int .u64 st]] w fun e w' => e = .returned (.int .i64 0) ∧ Below w.heap.size w w') (MB : ∀ w, Calls Tryz.prog 121 #[.agg #[.int .u8 1, .int .u64 n, .int .u8 op, .int .u64 b]] w fun e w' => e = .returned (.bool true) ∧ Below w.heap.size w w') (RZ : ∀ w, Calls Tryz.prog 124 #[.agg #[.int .u8 k, .int .u32 sz, .int .u64 mk, .int .u64 st], .int .u32 sz] w fun e w' => e = .returned (.agg #[.int .u8 k, .int .u32 X, .int .u64 mk, .int .u64 st]) ∧ Below w.heap.size w w') :
    Calls Tryz.prog 106 #[.agg #[.int .u8 k, .int .u32 sz, .int .u64 mk, .int .u64 st], .agg #[.int .u8 1, .int .u64 n, .int .u8 op, .int .u64 b]] w fun e w' => e = .returned (.agg #[.int .u8 k, .int .u32 X, .int .u64 mk, .int .u64 st]) ∧ Below w.heap.size w w' := by
  have HB := Lib.hid (Bx3.new w 148 #[.int .u8 k, .int .u32 sz, .int .u64 mk, .int .u64 st] #[.int .u8 1, .int .u64 n, .int .u8 op, .int .u64 b] #[.int .u8 0, .int .u32 0, .int .u64 0, .int .u64 0])
  go_enter Tryz.func106, Tryz.ntmps106
  go_wp2_with fail
  refine (CK _).mono ?_; rintro e w1 ⟨rfl, hb⟩
  replace HB := Lib.hid (HB.out.later hb)
  clear hb
  obtain ⟨⟨c0, c1, c2, c3⟩, d0, d1, d2, d3⟩ := HB.out.cells
  have f0 := HB.out.z.frozen 0; have f1 := HB.out.z.frozen 1; have f2 := HB.out.z.frozen 2; have f3 := HB.out.z.frozen 3
  have hlt := HB.out.z.lt; have hltm := HB.out.m.lt; have hltc := HB.out.c.lt
  obtain ⟨z0, z1, z2, z3⟩ := HB.out.zs
  go_wp2_with fail
  clear c0 c1 c2 c3 d0 d1 d2 d3 f0 f1 f2 f3 hlt hltm hltc z0 z1 z2 z3
  refine (MB _).mono ?_; rintro e w2 ⟨rfl, hb⟩
  replace HB := Lib.hid (HB.out.later hb)
  clear hb
  obtain ⟨⟨c0, c1, c2, c3⟩, d0, d1, d2, d3⟩ := HB.out.cells
  have f0 := HB.out.z.frozen 0; have f1 := HB.out.z.frozen 1; have f2 := HB.out.z.frozen 2; have f3 := HB.out.z.frozen 3
  have hlt := HB.out.z.lt; have hltm := HB.out.m.lt; have hltc := HB.out.c.lt
  obtain ⟨z0, z1, z2, z3⟩ := HB.out.zs
  have hcv : (n : Int) % 4294967296 = (n : Int) := by omega
  go_wp2_with fail
  clear c0 c1 c2 c3 d0 d1 d2 d3 f0 f1 f2 f3 hlt hltm hltc z0 z1 z2 z3
  refine (RZ _).mono ?_; rintro e w3 ⟨rfl, hb⟩
  replace HB := Lib.hid (HB.out.later hb)
  clear hb
  obtain ⟨⟨c0, c1, c2, c3⟩, d0, d1, d2, d3⟩ := HB.out.cells
  have f0 := HB.out.z.frozen 0; have f1 := HB.out.z.frozen 1; have f2 := HB.out.z.frozen 2; have f3 := HB.out.z.frozen 3
  have hlt := HB.out.z.lt; have hltm := HB.out.m.lt; have hltc := HB.out.c.lt
  obtain ⟨z0, z1, z2, z3⟩ := HB.out.zs
  go_wp2_with fail
  have HF := Lib.hid (Bx3.four (a' := .int .u8 k) (b' := .int .u32 X) (c' := .int .u64 mk) (d' := .int .u64 st) HB.out)
  have hltz := HF.out.z.lt
  obtain ⟨e0, e1, e2, e3⟩ := HF.out.zs
  exact bodyPost_ret (v := .agg #[.int .u8 k, .int .u32 X, .int .u64 mk, .int .u64 st]) (by simp [results, Tryz.results106, go_sem, e0, e1, e2, e3, hltz]) rfl ⟨rfl, HF.out.below⟩
set_option maxHeartbeats 4000000 in
theorem apply_2 (k sz mk st n op b : Nat) (X : Nat) (hn : n ≤ 2048) (w : World) (CK : ∀ w, Calls Tryz.prog 120 #[.agg #[.int .u8 k, .int .u32 sz, .int .u64 mk, .int .u64 st]] w fun e w' => e = .returned (.int .i64 0) ∧ Below w.heap.size w w') (MB : ∀ w, Calls Tryz.prog 121 #[.agg #[.int .u8 2, .int .u64 n, .int .u8 op, .int .u64 b]] w fun e w' => e = .returned (.bool true) ∧ Below w.heap.size w w') (RZ : ∀ w, Calls Tryz.prog 124 #[.agg #[.int .u8 k, .int .u32 sz, .int .u64 mk, .int .u64 st], .int .u32 n] w fun e w' => e = .returned (.agg #[.int .u8 k, .int .u32 X, .int .u64 mk, .int .u64 st]) ∧ Below w.heap.size w w') :
    Calls Tryz.prog 106 #[.agg #[.int .u8 k, .int .u32 sz, .int .u64 mk, .int .u64 st], .agg #[.int .u8 2, .int .u64 n, .int .u8 op, .int .u64 b]] w fun e w' => e = .returned (.agg #[.int .u8 k, .int .u32 X, .int .u64 mk, .int .u64 st]) ∧ Below w.heap.size w w' := by
  have HB := Lib.hid (Bx3.new w 148 #[.int .u8 k, .int .u32 sz, .int .u64 mk, .int .u64 st] #[.int .u8 2, .int .u64 n, .int .u8 op, .int .u64 b] #[.int .u8 0, .int .u32 0, .int .u64 0, .int .u64 0])
  go_enter Tryz.func106, Tryz.ntmps106
  go_wp2_with fail
  refine (CK _).mono ?_; rintro e w1 ⟨rfl, hb⟩
  replace HB := Lib.hid (HB.out.later hb)
  clear hb
  obtain ⟨⟨c0, c1, c2, c3⟩, d0, d1, d2, d3⟩ := HB.out.cells
  have f0 := HB.out.z.frozen 0; have f1 := HB.out.z.frozen 1; have f2 := HB.out.z.frozen 2; have f3 := HB.out.z.frozen 3
  have hlt := HB.out.z.lt; have hltm := HB.out.m.lt; have hltc := HB.out.c.lt
  obtain ⟨z0, z1, z2, z3⟩ := HB.out.zs
  go_wp2_with fail
  clear c0 c1 c2 c3 d0 d1 d2 d3 f0 f1 f2 f3 hlt hltm hltc z0 z1 z2 z3
  refine (MB _).mono ?_; rintro e w2 ⟨rfl, hb⟩
  replace HB := Lib.hid (HB.out.later hb)
  clear hb
  obtain ⟨⟨c0, c1, c2, c3⟩, d0, d1, d2, d3⟩ := HB.out.cells
  have f0 := HB.out.z.frozen 0; have f1 := HB.out.z.frozen 1; have f2 := HB.out.z.frozen 2; have f3 := HB.out.z.frozen 3
  have hlt := HB.out.z.lt; have hltm := HB.out.m.lt; have hltc := HB.out.c.lt
  obtain ⟨z0, z1, z2, z3⟩ := HB.out.zs
  have hcv : (n : Int) % 4294967296 = (n : Int) := by omega
  go_wp2_with fail
  clear c0 c1 c2 c3 d0 d1 d2 d3 f0 f1 f2 f3 hlt hltm hltc z0 z1 z2 z3
  refine (RZ _).mono ?_; rintro e w3 ⟨rfl, hb⟩
  replace HB := Lib.hid (HB.out.later hb)
  clear hb
  obtain ⟨⟨c0, c1, c2, c3⟩, d0, d1, d2, d3⟩ := HB.out.cells
  have f0 := HB.out.z.frozen 0; have f1 := HB.out.z.frozen 1; have f2 := HB.out.z.frozen 2; have f3 := HB.out.z.frozen 3
  have hlt := HB.out.z.lt; have hltm := HB.out.m.lt; have hltc := HB.out.c.lt
  obtain ⟨z0, z1, z2, z3⟩ := HB.out.zs
  go_wp2_with fail
  have HF := Lib.hid (Bx3.four (a' := .int .u8 k) (b' := .int .u32 X) (c' := .int .u64 mk) (d' := .int .u64 st) HB.out)
  have hltz := HF.out.z.lt
  obtain ⟨e0, e1, e2, e3⟩ := HF.out.zs
  exact bodyPost_ret (v := .agg #[.int .u8 k, .int .u32 X, .int .u64 mk, .int .u64 st]) (by simp [results, Tryz.results106, go_sem, e0, e1, e2, e3, hltz]) rfl ⟨rfl, HF.out.below⟩
set_option maxHeartbeats 4000000 in
theorem apply_3 (k sz mk st n op b : Nat) (X : Nat) (E : Int) (w : World) (CK : ∀ w, Calls Tryz.prog 120 #[.agg #[.int .u8 k, .int .u32 sz, .int .u64 mk, .int .u64 st]] w fun e w' => e = .returned (.int .i64 0) ∧ Below w.heap.size w w') (MB : ∀ w, Calls Tryz.prog 121 #[.agg #[.int .u8 3, .int .u64 n, .int .u8 op, .int .u64 b]] w fun e w' => e = .returned (.bool true) ∧ Below w.heap.size w w') (NA : ∀ w, Calls Tryz.prog 125 #[.int .u64 mk, .agg #[.int .u8 op, .int .u64 b]] w fun e w' => e = .returned (.tuple #[.int .u64 X, .int .i64 E]) ∧ Below w.heap.size w w') :
    Calls Tryz.prog 106 #[.agg #[.int .u8 k, .int .u32 sz, .int .u64 mk, .int .u64 st], .agg #[.int .u8 3, .int .u64 n, .int .u8 op, .int .u64 b]] w fun e w' => e = .returned (.agg #[.int .u8 k, .int .u32 sz, .int .u64 X, .int .u64 st]) ∧ Below w.heap.size w w' := by
  have HB := Lib.hid (Bx3.new w 148 #[.int .u8 k, .int .u32 sz, .int .u64 mk, .int .u64 st] #[.int .u8 3, .int .u64 n, .int .u8 op, .int .u64 b] #[.int .u8 0, .int .u32 0, .int .u64 0, .int .u64 0])
  go_enter Tryz.func106, Tryz.ntmps106
  go_wp2_with fail
  refine (CK _).mono ?_; rintro e w1 ⟨rfl, hb⟩
  replace HB := Lib.hid (HB.out.later hb)
  clear hb
  obtain ⟨⟨c0, c1, c2, c3⟩, d0, d1, d2, d3⟩ := HB.out.cells
  have f0 := HB.out.z.frozen 0; have f1 := HB.out.z.frozen 1; have f2 := HB.out.z.frozen 2; have f3 := HB.out.z.frozen 3
  have hlt := HB.out.z.lt; have hltm := HB.out.m.lt; have hltc := HB.out.c.lt
  obtain ⟨z0, z1, z2, z3⟩ := HB.out.zs
  go_wp2_with fail
  clear c0 c1 c2 c3 d0 d1 d2 d3 f0 f1 f2 f3 hlt hltm hltc z0 z1 z2 z3
  refine (MB _).mono ?_; rintro e w2 ⟨rfl, hb⟩
  replace HB := Lib.hid (HB.out.later hb)
  clear hb
  obtain ⟨⟨c0, c1, c2, c3⟩, d0, d1, d2, d3⟩ := HB.out.cells
  have f0 := HB.out.z.frozen 0; have f1 := HB.out.z.frozen 1; have f2 := HB.out.z.frozen 2; have f3 := HB.out.z.frozen 3
  have hlt := HB.out.z.lt; have hltm := HB.out.m.lt; have hltc := HB.out.c.lt
  obtain ⟨z0, z1, z2, z3⟩ := HB.out.zs
  go_wp2_with fail
  clear c0 c1 c2 c3 d0 d1 d2 d3 f0 f1 f2 f3 hlt hltm hltc z0 z1 z2 z3
  refine (NA _).mono ?_; rintro e w3 ⟨rfl, hb⟩
  replace HB := Lib.hid (HB.out.later hb)
  clear hb
  obtain ⟨⟨c0, c1, c2, c3⟩, d0, d1, d2, d3⟩ := HB.out.cells
  have f0 := HB.out.z.frozen 0; have f1 := HB.out.z.frozen 1; have f2 := HB.out.z.frozen 2; have f3 := HB.out.z.frozen 3
  have hlt := HB.out.z.lt; have hltm := HB.out.m.lt; have hltc := HB.out.c.lt
  obtain ⟨z0, z1, z2, z3⟩ := HB.out.zs
  have g2 := HB.out.m.frozen 2
  replace HB := Lib.hid (show Bx3 w 148 #[.int .u8 k, .int .u32 sz, .int .u64 X, .int .u64 st] _ _ _ from HB.out.putm 2 (.int .u64 X))
  have F0 := HB.out.z.frozen 0; have F1 := HB.out.z.frozen 1; have F2 := HB.out.z.frozen 2; have F3 := HB.out.z.frozen 3
  go_wp2_with fail
  have HF := Lib.hid (Bx3.four (a' := .int .u8 k) (b' := .int .u32 sz) (c' := .int .u64 X) (d' := .int .u64 st) HB.out)
  have hltz := HF.out.z.lt
  obtain ⟨e0, e1, e2, e3⟩ := HF.out.zs
  exact bodyPost_ret (v := .agg #[.int .u8 k, .int .u32 sz, .int .u64 X, .int .u64 st]) (by simp [results, Tryz.results106, go_sem, e0, e1, e2, e3, hltz]) rfl ⟨rfl, HF.out.below⟩
set_option maxHeartbeats 4000000 in
theorem apply_4 (k sz mk st n op b : Nat) (w : World) (CK : ∀ w, Calls Tryz.prog 120 #[.agg #[.int .u8 k, .int .u32 sz, .int .u64 mk, .int .u64 st]] w fun e w' => e = .returned (.int .i64 0) ∧ Below w.heap.size w w') (MB : ∀ w, Calls Tryz.prog 121 #[.agg #[.int .u8 4, .int .u64 n, .int .u8 op, .int .u64 b]] w fun e w' => e = .returned (.bool true) ∧ Below w.heap.size w w') :
    Calls Tryz.prog 106 #[.agg #[.int .u8 k, .int .u32 sz, .int .u64 mk, .int .u64 st], .agg #[.int .u8 4, .int .u64 n, .int .u8 op, .int .u64 b]] w fun e w' => e = .returned (.agg #[.int .u8 k, .int .u32 sz, .int .u64 mk, .int .u64 n]) ∧ Below w.heap.size w w' := by
  have HB := Lib.hid (Bx3.new w 148 #[.int .u8 k, .int .u32 sz, .int .u64 mk, .int .u64 st] #[.int .u8 4, .int .u64 n, .int .u8 op, .int .u64 b] #[.int .u8 0, .int .u32 0, .int .u64 0, .int .u64 0])
  go_enter Tryz.func106, Tryz.ntmps106
  go_wp2_with fail
  refine (CK _).mono ?_; rintro e w1 ⟨rfl, hb⟩
  replace HB := Lib.hid (HB.out.later hb)
  clear hb
  obtain ⟨⟨c0, c1, c2, c3⟩, d0, d1, d2, d3⟩ := HB.out.cells
  have f0 := HB.out.z.frozen 0; have f1 := HB.out.z.frozen 1; have f2 := HB.out.z.frozen 2; have f3 := HB.out.z.frozen 3
  have hlt := HB.out.z.lt; have hltm := HB.out.m.lt; have hltc := HB.out.c.lt
  obtain ⟨z0, z1, z2, z3⟩ := HB.out.zs
  go_wp2_with fail
  clear c0 c1 c2 c3 d0 d1 d2 d3 f0 f1 f2 f3 hlt hltm hltc z0 z1 z2 z3
  refine (MB _).mono ?_; rintro e w2 ⟨rfl, hb⟩
  replace HB := Lib.hid (HB.out.later hb)
  clear hb
  obtain ⟨⟨c0, c1, c2, c3⟩, d0, d1, d2, d3⟩ := HB.out.cells
  have f0 := HB.out.z.frozen 0; have f1 := HB.out.z.frozen 1; have f2 := HB.out.z.frozen 2; have f3 := HB.out.z.frozen 3
  have hlt := HB.out.z.lt; have hltm := HB.out.m.lt; have hltc := HB.out.c.lt
  obtain ⟨z0, z1, z2, z3⟩ := HB.out.zs
  have g3 := HB.out.m.frozen 3
  replace HB := Lib.hid (show Bx3 w 148 #[.int .u8 k, .int .u32 sz, .int .u64 mk, .int .u64 n] _ _ _ from HB.out.putm 3 (.int .u64 n))
  have F0 := HB.out.z.frozen 0; have F1 := HB.out.z.frozen 1; have F2 := HB.out.z.frozen 2; have F3 := HB.out.z.frozen 3
  go_wp2_with fail
  have HF := Lib.hid (Bx3.four (a' := .int .u8 k) (b' := .int .u32 sz) (c' := .int .u64 mk) (d' := .int .u64 n) HB.out)
  have hltz := HF.out.z.lt
  obtain ⟨e0, e1, e2, e3⟩ := HF.out.zs
  exact bodyPost_ret (v := .agg #[.int .u8 k, .int .u32 sz, .int .u64 mk, .int .u64 n]) (by simp [results, Tryz.results106, go_sem, e0, e1, e2, e3, hltz]) rfl ⟨rfl, HF.out.below⟩
/-- What a step makes of a mark. -/
def stp (mk op b : Nat) : Nat := (Nm.stepI mk op b).toNat
theorem u64_nat {x : Nat} (h : x < 18446744073709551616) : Nm.U64 (x : Int) := ⟨by omega, by omega⟩
theorem out_lt (o : Option Nat) (h : ∀ r, o = some r → r < 18446744073709551616) : outN o < 18446744073709551616 := by
  cases o with
  | none => show (9221120237041090561 : Nat) < _; omega
  | some r => exact quietN_lt (h r rfl)
theorem stp_nat {mk op b : Nat} (h1 : mk < 18446744073709551616) (h2 : b < 18446744073709551616) : ((stp mk op b : Nat) : Int) = Nm.stepI mk op b ∧ stp mk op b < 18446744073709551616 := by
  have q1 := Nm.quietI_u64 (u64_nat h1); have q2 := Nm.quietI_u64 (u64_nat h2)
  have U : Nm.U64 (Nm.stepI mk op b) := by
    unfold Nm.stepI
    split
    · exact q2
    split
    · have := out_lt (Ieee.double.add mk b) (fun r h => add_lt64 h)
      show Nm.U64 ((sumN ((mk : Int).toNat) ((b : Int).toNat) : Nat) : Int)
      rw [Int.toNat_natCast, Int.toNat_natCast]
      exact u64_nat this
    split
    · unfold Nm.grI; split <;> assumption
    split
    · unfold Nm.leI; split <;> assumption
    split
    · have := out_lt (Ieee.double.mul mk b) (fun r h => mul_lt64 h)
      show Nm.U64 ((proN ((mk : Int).toNat) ((b : Int).toNat) : Nat) : Int)
      rw [Int.toNat_natCast, Int.toNat_natCast]
      exact u64_nat this
    · exact ⟨by omega, by omega⟩
  have := U.1; have := U.2
  unfold stp
  omega
def apSz (k sz wh n : Nat) : Nat := if k = 1 ∧ wh = 1 then max sz n else if k = 1 ∧ wh = 2 then n else sz
def apMk (mk wh op b : Nat) : Nat := if wh = 3 then stp mk op b else mk
def apSt (st wh n : Nat) : Nat := if wh = 4 then n else st
/-- May both be? -/
def both (k sz mk wh n op b : Nat) : Bool := mayM k sz mk && mayC wh n op b
def aSz (k sz mk wh n op b : Nat) : Nat := if both k sz mk wh n op b then apSz k sz wh n else sz
def aMk (k sz mk wh n op b : Nat) : Nat := if both k sz mk wh n op b then apMk mk wh op b else mk
def aSt (k sz mk st wh n op b : Nat) : Nat := if both k sz mk wh n op b then apSt st wh n else st
theorem resized_any (k sz mk st n : Nat) (w : World) :
    Calls Tryz.prog 124 #[.agg #[.int .u8 k, .int .u32 sz, .int .u64 mk, .int .u64 st], .int .u32 n] w fun e w' => e = .returned (.agg #[.int .u8 k, .int .u32 ((if k = 1 then n else sz : Nat) : Int), .int .u64 mk, .int .u64 st]) ∧ Below w.heap.size w w' := by
  by_cases h : k = 1
  · subst h
    rw [if_pos rfl]
    exact resized_file sz mk st n w
  · rw [if_neg h]
    exact resized_dir k sz mk st n (by simp; omega) w
theorem apply_any (k sz mk st wh n op b : Nat) (hm : mk < 18446744073709551616) (hb : b < 18446744073709551616) (w : World) :
    Calls Tryz.prog 106 #[.agg #[.int .u8 k, .int .u32 sz, .int .u64 mk, .int .u64 st], .agg #[.int .u8 wh, .int .u64 n, .int .u8 op, .int .u64 b]] w fun e w' => e = .returned (.agg #[.int .u8 k, .int .u32 (aSz k sz mk wh n op b : Nat), .int .u64 (aMk k sz mk wh n op b : Nat), .int .u64 (aSt k sz mk st wh n op b : Nat)]) ∧ Below w.heap.size w w' := by
  have CK := check_any k sz mk st hm
  have MB := mayBe_any wh n op b
  unfold aSz aMk aSt both
  cases h1 : mayM k sz mk with
  | false =>
    have e : ckM k sz mk = 4 := by simp [ckM, h1]
    rw [e] at CK
    simp only [Bool.false_and, Bool.false_eq_true, if_false]
    exact apply_no1 k sz mk st wh n op b w CK
  | true =>
    have e : ckM k sz mk = 0 := by simp [ckM, h1]
    rw [e] at CK
    cases h2 : mayC wh n op b with
    | false =>
      rw [h2] at MB
      simp only [Bool.and_false, Bool.false_eq_true, if_false]
      exact apply_no2 k sz mk st wh n op b w CK MB
    | true =>
      rw [h2] at MB
      simp only [Bool.and_self, if_true]
      by_cases c1 : wh = 1
      · subst c1
        have hn : n ≤ 2048 := by simp [mayC] at h2; omega
        by_cases hlt : (sz : Int) < (n : Int)
        · have R := resized_any k sz mk st n
          have e1 : apSz k sz 1 n = if k = 1 then n else sz := by unfold apSz; by_cases hk : k = 1 <;> simp [hk]; omega
          rw [e1]
          exact apply_1a k sz mk st n op b _ hn hlt w CK MB R
        · have R := resized_any k sz mk st sz
          have e1 : apSz k sz 1 n = if k = 1 then sz else sz := by unfold apSz; by_cases hk : k = 1 <;> simp [hk]; omega
          rw [e1]
          exact apply_1b k sz mk st n op b _ hn hlt w CK MB R
      by_cases c2 : wh = 2
      · subst c2
        have hn : n ≤ 2048 := by simp [mayC] at h2; omega
        have R := resized_any k sz mk st n
        have e1 : apSz k sz 2 n = if k = 1 then n else sz := by unfold apSz; by_cases hk : k = 1 <;> simp [hk]
        rw [e1]
        exact apply_2 k sz mk st n op b _ hn w CK MB R
      have e1 : apSz k sz wh n = sz := by simp [apSz, c1, c2]
      rw [e1]
      by_cases c3 : wh = 3
      · subst c3
        have S := (stp_nat (op := op) hm hb).1
        refine apply_3 k sz mk st n op b _ (Nm.errI op) w CK MB (fun w => ?_)
        have e3 : ((apMk mk 3 op b : Nat) : Int) = Nm.stepI mk op b := S
        rw [e3]
        exact Nm.apply_any mk op b (u64_nat hm) (u64_nat hb) w
      by_cases c4 : wh = 4
      · subst c4
        exact apply_4 k sz mk st n op b w CK MB
      simp [mayC, c1, c2, c3, c4] at h2
end Go.Proofs.YthledgkjfjdjoaaGreat.Mt
