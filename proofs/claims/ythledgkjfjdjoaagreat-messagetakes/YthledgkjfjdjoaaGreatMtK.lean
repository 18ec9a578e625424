/- What a change makes of a meta, by the document. Conditions: numbers of their kinds. -/
import Derived.Test.YthledgkjfjdjoaaGreatMtJ
namespace Go.Proofs.YthledgkjfjdjoaaGreat.Mt
open Go.ChangeShapes Go.WideShapes Go.RowKit Go.Codec Go.Num Go.Mt
set_option maxRecDepth 100000
set_option linter.unusedSimpArgs false
set_option linter.unusedVariables false
set_option maxHeartbeats 4000000 in
theorem rapply_no1 (k sz mk st wh n op b : Nat) (w : World) (CK : ∀ w, Calls Tryz.prog 88 #[.agg #[.int .u8 k, .int .u32 sz, .int .u64 mk, .int .u64 st]] w fun e w' => e = .returned (.bool false) ∧ Below w.heap.size w w') :
    Calls Tryz.prog 55 #[.agg #[.int .u8 k, .int .u32 sz, .int .u64 mk, .int .u64 st], .agg #[.int .u8 wh, .int .u64 n, .int .u8 op, .int .u64 b]] w fun e w' => e = .returned (.agg #[.int .u8 k, .int .u32 sz, .int .u64 mk, .int .u64 st]) ∧ Below w.heap.size w w' := by
  have HB := Lib.hid (Bx3.new w 93 #[.int .u8 k, .int .u32 sz, .int .u64 mk, .int .u64 st] #[.int .u8 wh, .int .u64 n, .int .u8 op, .int .u64 b] #[.int .u8 0, .int .u32 0, .int .u64 0, .int .u64 0])
  go_enter Tryz.func55, Tryz.ntmps55
  go_wp2_with fail
  refine (CK _).mono ?_; rintro e w1 ⟨rfl, hb⟩
  replace HB := Lib.hid (HB.out.later hb)
  clear hb
  obtain ⟨⟨c0, c1, c2, c3⟩, d0, d1, d2, d3⟩ := HB.out.cells
  have f0 := HB.out.z.frozen 0; have f1 := HB.out.z.frozen 1; have f2 := HB.out.z.frozen 2; have f3 := HB.out.z.frozen 3
  have hlt := HB.out.z.lt; have hltm := HB.out.m.lt; have hltc := HB.out.c.lt
  obtain ⟨z0, z1, z2, z3⟩ := HB.out.zs
  go_wp2_with fail
  have HF := Lib.hid (Bx3.four (a' := .int .u8 k) (b' := .int .u32 sz) (c' := .int .u64 mk) (d' := .int .u64 st) HB.out)
  have hltz := HF.out.z.lt
  obtain ⟨e0, e1, e2, e3⟩ := HF.out.zs
  exact bodyPost_ret (v := .agg #[.int .u8 k, .int .u32 sz, .int .u64 mk, .int .u64 st]) (by simp [results, Tryz.results55, go_sem, e0, e1, e2, e3, hltz]) rfl ⟨rfl, HF.out.below⟩
set_option maxHeartbeats 4000000 in
theorem rapply_no2 (k sz mk st wh n op b : Nat) (w : World) (CK : ∀ w, Calls Tryz.prog 88 #[.agg #[.int .u8 k, .int .u32 sz, .int .u64 mk, .int .u64 st]] w fun e w' => e = .returned (.bool true) ∧ Below w.heap.size w w') (MB : ∀ w, Calls Tryz.prog 89 #[.agg #[.int .u8 wh, .int .u64 n, .int .u8 op, .int .u64 b]] w fun e w' => e = .returned (.bool false) ∧ Below w.heap.size w w') :
    Calls Tryz.prog 55 #[.agg #[.int .u8 k, .int .u32 sz, .int .u64 mk, .int .u64 st], .agg #[.int .u8 wh, .int .u64 n, .int .u8 op, .int .u64 b]] w fun e w' => e = .returned (.agg #[.int .u8 k, .int .u32 sz, .int .u64 mk, .int .u64 st]) ∧ Below w.heap.size w w' := by
  have HB := Lib.hid (Bx3.new w 93 #[.int .u8 k, .int .u32 sz, .int .u64 mk, .int .u64 st] #[.int .u8 wh, .int .u64 n, .int .u8 op, .int .u64 b] #[.int .u8 0, .int .u32 0, .int .u64 0, .int .u64 0])
  go_enter Tryz.func55, Tryz.ntmps55
  go_wp2_with fail
  refine (CK _).mono ?_; rintro e w1 ⟨rfl, hb⟩
  replace HB := Lib.hid (HB.out.later hb)
  clear hb
  obtain ⟨⟨c0, c1, c2, c3⟩, d0, d1, d2, d3⟩ := HB.out.cells
  have f0 := HB.out.z.frozen 0; have f1 := HB.out.z.frozen 1; have f2 := HB.out.z.frozen 2; have f3 := HB.out.z.frozen 3
  have hlt := HB.out.z.lt; have hltm := HB.out.m.lt; have hltc := HB.out.c.lt
  obtain ⟨z0, z1, z2, z3⟩ := HB.out.zs
  go_wp2_with fail
  clear c0 c1 c2 c3 d0 d1 d2 d3 f0 f1 f2 f3 hlt hltm hltc z0 z1 z2 z3
  refine (MB _).mono ?_; rintro e w2 ⟨rfl, hb⟩
  replace HB := Lib.hid (HB.out.later hb)
  clear hb
  obtain ⟨⟨c0, c1, c2, c3⟩, d0, d1, d2, d3⟩ := HB.out.cells
  have f0 := HB.out.z.frozen 0; have f1 := HB.out.z.frozen 1; have f2 := HB.out.z.frozen 2; have f3 := HB.out.z.frozen 3
  have hlt := HB.out.z.lt; have hltm := HB.out.m.lt; have hltc := HB.out.c.lt
  obtain ⟨z0, z1, z2, z3⟩ := HB.out.zs
  go_wp2_with fail
  have HF := Lib.hid (Bx3.four (a' := .int .u8 k) (b' := .int .u32 sz) (c' := .int .u64 mk) (d' := .int .u64 st) HB.out)
  have hltz := HF.out.z.lt
  obtain ⟨e0, e1, e2, e3⟩ := HF.out.zs
  exact bodyPost_ret (v := .agg #[.int .u8 k, .int .u32 sz, .int .u64 mk, .int .u64 st]) (by simp [results, Tryz.results55, go_sem, e0, e1, e2, e3, hltz]) rfl ⟨rfl, HF.out.below⟩
set_option maxHeartbeats 4000000 in
theorem rapply_1a (sz mk st n op b : Nat) (hn : n ≤ 2048) (hM : (sz : Int) < (n : Int)) (w : World) (CK : ∀ w, Calls Tryz.prog 88 #[.agg #[.int .u8 1, .int .u32 sz, .int .u64 mk, .int .u64 st]] w fun e w' => e = .returned (.bool true) ∧ Below w.heap.size w w') (MB : ∀ w, Calls Tryz.prog 89 #[.agg #[.int .u8 1, .int .u64 n, .int .u8 op, .int .u64 b]] w fun e w' => e = .returned (.bool true) ∧ Below w.heap.size w w') :
    Calls Tryz.prog 55 #[.agg #[.int .u8 1, .int .u32 sz, .int .u64 mk, .int .u64 st], .agg #[.int .u8 1, .int .u64 n, .int .u8 op, .int .u64 b]] w fun e w' => e = .returned (.agg #[.int .u8 1, .int .u32 n, .int .u64 mk, .int .u64 st]) ∧ Below w.heap.size w w' := by
  have HB := Lib.hid (Bx3.new w 93 #[.int .u8 1, .int .u32 sz, .int .u64 mk, .int .u64 st] #[.int .u8 1, .int .u64 n, .int .u8 op, .int .u64 b] #[.int .u8 0, .int .u32 0, .int .u64 0, .int .u64 0])
  go_enter Tryz.func55, Tryz.ntmps55
  go_wp2_with fail
  refine (CK _).mono ?_; rintro e w1 ⟨rfl, hb⟩
  replace HB := Lib.hid (HB.out.later hb)
  clear hb
  obtain ⟨⟨c0, c1, c2, c3⟩, d0, d1, d2, d3⟩ := HB.out.cells
  have f0 := HB.out.z.frozen 0; have f1 := HB.out.z.frozen 1; have f2 := HB.out.z.frozen 2; have f3 := HB.out.z.frozen 3
  have hlt := HB.out.z.lt; have hltm := HB.out.m.lt; have hltc := HB.out.c.lt
  obtain ⟨z0, z1, z2, z3⟩ := HB.out.zs
  go_wp2_with fail
  clear c0 c1 c2 c3 d0 d1 d2 d3 f0 f1 f2 f3 hlt hltm hltc z0 z1 z2 z3
  refine (MB _).mono ?_; rintro e w2 ⟨rfl, hb⟩
  replace HB := Lib.hid (HB.out.later hb)
  clear hb
  obtain ⟨⟨c0, c1, c2, c3⟩, d0, d1, d2, d3⟩ := HB.out.cells
  have f0 := HB.out.z.frozen 0; have f1 := HB.out.z.frozen 1; have f2 := HB.out.z.frozen 2; have f3 := HB.out.z.frozen 3
  have hlt := HB.out.z.lt; have hltm := HB.out.m.lt; have hltc := HB.out.c.lt
  obtain ⟨z0, z1, z2, z3⟩ := HB.out.zs
  have hcv1 : IntKind.u32.wrap (n : Int) = (n : Int) := by rw [IntKind.wrap_u32]; omega
  have hcv2 : (n : Int) % 4294967296 = (n : Int) := by omega
  have g1 := HB.out.m.frozen 1
  replace HB := Lib.hid (show Bx3 w 93 #[.int .u8 1, .int .u32 n, .int .u64 mk, .int .u64 st] _ _ _ from HB.out.putm 1 (.int .u32 n))
  have F0 := HB.out.z.frozen 0; have F1 := HB.out.z.frozen 1; have F2 := HB.out.z.frozen 2; have F3 := HB.out.z.frozen 3
  go_wp2_with fail
  have HF := Lib.hid (Bx3.four (a' := .int .u8 1) (b' := .int .u32 n) (c' := .int .u64 mk) (d' := .int .u64 st) HB.out)
  have hltz := HF.out.z.lt
  obtain ⟨e0, e1, e2, e3⟩ := HF.out.zs
  exact bodyPost_ret (v := .agg #[.int .u8 1, .int .u32 n, .int .u64 mk, .int .u64 st]) (by simp [results, Tryz.results55, go_sem, e0, e1, e2, e3, hltz]) rfl ⟨rfl, HF.out.below⟩
set_option maxHeartbeats 4000000 in
theorem rapply_1b (sz mk st n op b : Nat) (hn : n ≤ 2048) (hM : ¬ (sz : Int) < (n : Int)) (w : World) (CK : ∀ w, Calls Tryz.prog 88 #[.agg #[.int .u8 1, .int .u32 sz, .int .u64 mk, .int .u64 st]] w fun e w' => e = .returned (.bool true) ∧ Below w.heap.size w w') (MB : ∀ w, Calls Tryz.prog 89 #[.agg #[.int .u8 1, .int .u64 n, .int .u8 op, .int .u64 b]] w fun e w' => e = .returned (.bool true) ∧ Below w.heap.size w w') :
    Calls Tryz.prog 55 #[.agg #[.int .u8 1, .int .u32 sz, .int .u64 mk, .int .u64 st], .agg #[.int .u8 1, .int .u64 n, .int .u8 op, .int .u64 b]] w fun e w' => e = .returned (.agg #[.int .u8 1, .int .u32 sz, .int .u64 mk, .int .u64 st]) ∧ Below w.heap.size w w' := by
  have HB := Lib.hid (Bx3.new w 93 #[.int .u8 1, .int .u32 sz, .int .u64 mk, .int .u64 st] #[.int .u8 1, .int .u64 n, .int .u8 op, .int .u64 b] #[.int .u8 0, .int .u32 0, .int .u64 0, .int .u64 0])
  go_enter Tryz.func55, Tryz.ntmps55
  go_wp2_with fail
  refine (CK _).mono ?_; rintro e w1 ⟨rfl, hb⟩
  replace HB := Lib.hid (HB.out.later hb)
  clear hb
  obtain ⟨⟨c0, c1, c2, c3⟩, d0, d1, d2, d3⟩ := HB.out.cells
  have f0 := HB.out.z.frozen 0; have f1 := HB.out.z.frozen 1; have f2 := HB.out.z.frozen 2; have f3 := HB.out.z.frozen 3
  have hlt := HB.out.z.lt; have hltm := HB.out.m.lt; have hltc := HB.out.c.lt
  obtain ⟨z0, z1, z2, z3⟩ := HB.out.zs
  go_wp2_with fail
  clear c0 c1 c2 c3 d0 d1 d2 d3 f0 f1 f2 f3 hlt hltm hltc z0 z1 z2 z3
  refine (MB _).mono ?_; rintro e w2 ⟨rfl, hb⟩
  replace HB := Lib.hid (HB.out.later hb)
  clear hb
  obtain ⟨⟨c0, c1, c2, c3⟩, d0, d1, d2, d3⟩ := HB.out.cells
  have f0 := HB.out.z.frozen 0; have f1 := HB.out.z.frozen 1; have f2 := HB.out.z.frozen 2; have f3 := HB.out.z.frozen 3
  have hlt := HB.out.z.lt; have hltm := HB.out.m.lt; have hltc := HB.out.c.lt
  obtain ⟨z0, z1, z2, z3⟩ := HB.out.zs
  have hcv1 : IntKind.u32.wrap (n : Int) = (n : Int) := by rw [IntKind.wrap_u32]; omega
  have hcv2 : (n : Int) % 4294967296 = (n : Int) := by omega
  go_wp2_with fail
  have HF := Lib.hid (Bx3.four (a' := .int .u8 1) (b' := .int .u32 sz) (c' := .int .u64 mk) (d' := .int .u64 st) HB.out)
  have hltz := HF.out.z.lt
  obtain ⟨e0, e1, e2, e3⟩ := HF.out.zs
  exact bodyPost_ret (v := .agg #[.int .u8 1, .int .u32 sz, .int .u64 mk, .int .u64 st]) (by simp [results, Tryz.results55, go_sem, e0, e1, e2, e3, hltz]) rfl ⟨rfl, HF.out.below⟩
set_option maxHeartbeats 4000000 in
theorem rapply_1c (k sz mk st n op b : Nat) (hn : n ≤ 2048) (hk : ((k : Int) == 1) = false) (w : World) (CK : ∀ w, Calls Tryz.prog 88 #[.agg #[.int .u8 k, .int .u32 sz, .int .u64 mk, .int .u64 st]] w fun e w' => e = .returned (.bool true) ∧ Below w.heap.size w w') (MB : ∀ w, Calls Tryz.prog 89 #[.agg #[.int .u8 1, .int .u64 n, .int .u8 op, .int .u64 b]] w fun e w' => e = .returned (.bool true) ∧ Below w.heap.size w w') :
    Calls Tryz.prog 55 #[.agg #[.int .u8 k, .int .u32 sz, .int .u64 mk, .int .u64 st], .agg #[.int .u8 1, .int .u64 n, .int .u8 op, .int .u64 b]] w fun e w' => e = .returned (.agg #[.int .u8 k, .int .u32 sz, .int .u64 mk, .int .u64 st]) ∧ Below w.heap.size w w' := by
  have HB := Lib.hid (Bx3.new w 93 #[.int .u8 k, .int .u32 sz, .int .u64 mk, .int .u64 st] #[.int .u8 1, .int .u64 n, .int .u8 op, .int .u64 b] #[.int .u8 0, .int .u32 0, .int .u64 0, .int .u64 0])
  go_enter Tryz.func55, Tryz.ntmps55
  go_wp2_with fail
  refine (CK _).mono ?_; rintro e w1 ⟨rfl, hb⟩
  replace HB := Lib.hid (HB.out.later hb)
  clear hb
  obtain ⟨⟨c0, c1, c2, c3⟩, d0, d1, d2, d3⟩ := HB.out.cells
  have f0 := HB.out.z.frozen 0; have f1 := HB.out.z.frozen 1; have f2 := HB.out.z.frozen 2; have f3 := HB.out.z.frozen 3
  have hlt := HB.out.z.lt; have hltm := HB.out.m.lt; have hltc := HB.out.c.lt
  obtain ⟨z0, z1, z2, z3⟩ := HB.out.zs
  go_wp2_with fail
  clear c0 c1 c2 c3 d0 d1 d2 d3 f0 f1 f2 f3 hlt hltm hltc z0 z1 z2 z3
  refine (MB _).mono ?_; rintro e w2 ⟨rfl, hb⟩
  replace HB := Lib.hid (HB.out.later hb)
  clear hb
  obtain ⟨⟨c0, c1, c2, c3⟩, d0, d1, d2, d3⟩ := HB.out.cells
  have f0 := HB.out.z.frozen 0; have f1 := HB.out.z.frozen 1; have f2 := HB.out.z.frozen 2; have f3 := HB.out.z.frozen 3
  have hlt := HB.out.z.lt; have hltm := HB.out.m.lt; have hltc := HB.out.c.lt
  obtain ⟨z0, z1, z2, z3⟩ := HB.out.zs
  have hcv1 : IntKind.u32.wrap (n : Int) = (n : Int) := by rw [IntKind.wrap_u32]; omega
  have hcv2 : (n : Int) % 4294967296 = (n : Int) := by omega
  go_wp2_with fail
  have HF := Lib.hid (Bx3.four (a' := .int .u8 k) (b' := .int .u32 sz) (c' := .int .u64 mk) (d' := .int .u64 st) HB.out)
  have hltz := HF.out.z.lt
  obtain ⟨e0, e1, e2, e3⟩ := HF.out.zs
  exact bodyPost_ret (v := .agg #[.int .u8 k, .int .u32 sz, .int .u64 mk, .int .u64 st]) (by simp [results, Tryz.results55, go_sem, e0, e1, e2, e3, hltz]) rfl ⟨rfl, HF.out.below⟩
set_option maxHeartbeats 4000000 in
theorem rapply_2a (sz mk st n op b : Nat) (hn : n ≤ 2048) (w : World) (CK : ∀ w, Calls Tryz.prog 88 #[.agg #[.int .u8 1, .int .u32 sz, .int .u64 mk, .int .u64 st]] w fun e w' => e = .returned (.bool true) ∧ Below w.heap.size w w') (MB : ∀ w, Calls Tryz.prog 89 #[.agg #[.int .u8 2, .int .u64 n, .int .u8 op, .int .u64 b]] w fun e w' => e = .returned (.bool true) ∧ Below w.heap.size w w') :
    Calls Tryz.prog 55 #[.agg #[.int .u8 1, .int .u32 sz, .int .u64 mk, .int .u64 st], .agg #[.int .u8 2, .int .u64 n, .int .u8 op, .int .u64 b]] w fun e w' => e = .returned (.agg #[.int .u8 1, .int .u32 n, .int .u64 mk, .int .u64 st]) ∧ Below w.heap.size w w' := by
  have HB := Lib.hid (Bx3.new w 93 #[.int .u8 1, .int .u32 sz, .int .u64 mk, .int .u64 st] #[.int .u8 2, .int .u64 n, .int .u8 op, .int .u64 b] #[.int .u8 0, .int .u32 0, .int .u64 0, .int .u64 0])
  go_enter Tryz.func55, Tryz.ntmps55
  go_wp2_with fail
  refine (CK _).mono ?_; rintro e w1 ⟨rfl, hb⟩
  replace HB := Lib.hid (HB.out.later hb)
  clear hb
  obtain ⟨⟨c0, c1, c2, c3⟩, d0, d1, d2, d3⟩ := HB.out.cells
  have f0 := HB.out.z.frozen 0; have f1 := HB.out.z.frozen 1; have f2 := HB.out.z.frozen 2; have f3 := HB.out.z.frozen 3
  have hlt := HB.out.z.lt; have hltm := HB.out.m.lt; have hltc := HB.out.c.lt
  obtain ⟨z0, z1, z2, z3⟩ := HB.out.zs
  go_wp2_with fail
  clear c0 c1 c2 c3 d0 d1 d2 d3 f0 f1 f2 f3 hlt hltm hltc z0 z1 z2 z3
  refine (MB _).mono ?_; rintro e w2 ⟨rfl, hb⟩
  replace HB := Lib.hid (HB.out.later hb)
  clear hb
  obtain ⟨⟨c0, c1, c2, c3⟩, d0, d1, d2, d3⟩ := HB.out.cells
  have f0 := HB.out.z.frozen 0; have f1 := HB.out.z.frozen 1; have f2 := HB.out.z.frozen 2; have f3 := HB.out.z.frozen 3
  have hlt := HB.out.z.lt; have hltm := HB.out.m.lt; have hltc := HB.out.c.lt
  obtain ⟨z0, z1, z2, z3⟩ := HB.out.zs
  have hcv1 : IntKind.u32.wrap (n : Int) = (n : Int) := by rw [IntKind.wrap_u32]; omega
  have hcv2 : (n : Int) % 4294967296 = (n : Int) := by omega
  have g1 := HB.out.m.frozen 1
  replace HB := Lib.hid (show Bx3 w 93 #[.int .u8 1, .int .u32 n, .int .u64 mk, .int .u64 st] _ _ _ from HB.out.putm 1 (.int .u32 n))
  have F0 := HB.out.z.frozen 0; have F1 := HB.out.z.frozen 1; have F2 := HB.out.z.frozen 2; have F3 := HB.out.z.frozen 3
  go_wp2_with fail
  have HF := Lib.hid (Bx3.four (a' := .int .u8 1) (b' := .int .u32 n) (c' := .int .u64 mk) (d' := .int .u64 st) HB.out)
  have hltz := HF.out.z.lt
  obtain ⟨e0, e1, e2, e3⟩ := HF.out.zs
  exact bodyPost_ret (v := .agg #[.int .u8 1, .int .u32 n, .int .u64 mk, .int .u64 st]) (by simp [results, Tryz.results55, go_sem, e0, e1, e2, e3, hltz]) rfl ⟨rfl, HF.out.below⟩
set_option maxHeartbeats 4000000 in
theorem rapply_2c (k sz mk st n op b : Nat) (hn : n ≤ 2048) (hk : ((k : Int) == 1) = false) (w : World) (CK : ∀ w, Calls Tryz.prog 88 #[.agg #[.int .u8 k, .int .u32 sz, .int .u64 mk, .int .u64 st]] w fun e w' => e = .returned (.bool true) ∧ Below w.heap.size w w') (MB : ∀ w, Calls Tryz.prog 89 #[.agg #[.int .u8 2, .int .u64 n, .int .u8 op, .int .u64 b]] w fun e w' => e = .returned (.bool true) ∧ Below w.heap.size w w') :
    Calls Tryz.prog 55 #[.agg #[.int .u8 k, .int .u32 sz, .int .u64 mk, .int .u64 st], .agg #[.int .u8 2, .int .u64 n, .int .u8 op, .int .u64 b]] w fun e w' => e = .returned (.agg #[.int .u8 k, .int .u32 sz, .int .u64 mk, .int .u64 st]) ∧ Below w.heap.size w w' := by
  have HB := Lib.hid (Bx3.new w 93 #[.int .u8 k, .int .u32 sz, .int .u64 mk, .int .u64 st] #[.int .u8 2, .int .u64 n, .int .u8 op, .int .u64 b] #[.int .u8 0, .int .u32 0, .int .u64 0, .int .u64 0])
  go_enter Tryz.func55, Tryz.ntmps55
  go_wp2_with fail
  refine (CK _).mono ?_; rintro e w1 ⟨rfl, hb⟩
  replace HB := Lib.hid (HB.out.later hb)
  clear hb
  obtain ⟨⟨c0, c1, c2, c3⟩, d0, d1, d2, d3⟩ := HB.out.cells
  have f0 := HB.out.z.frozen 0; have f1 := HB.out.z.frozen 1; have f2 := HB.out.z.frozen 2; have f3 := HB.out.z.frozen 3
  have hlt := HB.out.z.lt; have hltm := HB.out.m.lt; have hltc := HB.out.c.lt
  obtain ⟨z0, z1, z2, z3⟩ := HB.out.zs
  go_wp2_with fail
  clear c0 c1 c2 c3 d0 d1 d2 d3 f0 f1 f2 f3 hlt hltm hltc z0 z1 z2 z3
  refine (MB _).mono ?_; rintro e w2 ⟨rfl, hb⟩
  replace HB := Lib.hid (HB.out.later hb)
  clear hb
  obtain ⟨⟨c0, c1, c2, c3⟩, d0, d1, d2, d3⟩ := HB.out.cells
  have f0 := HB.out.z.frozen 0; have f1 := HB.out.z.frozen 1; have f2 := HB.out.z.frozen 2; have f3 := HB.out.z.frozen 3
  have hlt := HB.out.z.lt; have hltm := HB.out.m.lt; have hltc := HB.out.c.lt
  obtain ⟨z0, z1, z2, z3⟩ := HB.out.zs
  have hcv1 : IntKind.u32.wrap (n : Int) = (n : Int) := by rw [IntKind.wrap_u32]; omega
  have hcv2 : (n : Int) % 4294967296 = (n : Int) := by omega
  go_wp2_with fail
  have HF := Lib.hid (Bx3.four (a' := .int .u8 k) (b' := .int .u32 sz) (c' := .int .u64 mk) (d' := .int .u64 st) HB.out)
  have hltz := HF.out.z.lt
  obtain ⟨e0, e1, e2, e3⟩ := HF.out.zs
  exact bodyPost_ret (v := .agg #[.int .u8 k, .int .u32 sz, .int .u64 mk, .int .u64 st]) (by simp [results, Tryz.results55, go_sem, e0, e1, e2, e3, hltz]) rfl ⟨rfl, HF.out.below⟩
set_option maxHeartbeats 4000000 in
theorem rapply_3 (k sz mk st n op b : Nat) (X : Nat) (E : Int) (w : World) (CK : ∀ w, Calls Tryz.prog 88 #[.agg #[.int .u8 k, .int .u32 sz, .int .u64 mk, .int .u64 st]] w fun e w' => e = .returned (.bool true) ∧ Below w.heap.size w w') (MB : ∀ w, Calls Tryz.prog 89 #[.agg #[.int .u8 3, .int .u64 n, .int .u8 op, .int .u64 b]] w fun e w' => e = .returned (.bool true) ∧ Below w.heap.size w w') (NA : ∀ w, Calls Tryz.prog 90 #[.int .u64 mk, .int .u8 op, .int .u64 b] w fun e w' => e = .returned (.tuple #[.int .u64 X, .int .i64 E]) ∧ Below w.heap.size w w') :
    Calls Tryz.prog 55 #[.agg #[.int .u8 k, .int .u32 sz, .int .u64 mk, .int .u64 st], .agg #[.int .u8 3, .int .u64 n, .int .u8 op, .int .u64 b]] w fun e w' => e = .returned (.agg #[.int .u8 k, .int .u32 sz, .int .u64 X, .int .u64 st]) ∧ Below w.heap.size w w' := by
  have HB := Lib.hid (Bx3.new w 93 #[.int .u8 k, .int .u32 sz, .int .u64 mk, .int .u64 st] #[.int .u8 3, .int .u64 n, .int .u8 op, .int .u64 b] #[.int .u8 0, .int .u32 0, .int .u64 0, .int .u64 0])
  go_enter Tryz.func55, Tryz.ntmps55
  go_wp2_with fail
  refine (CK _).mono ?_; rintro e w1 ⟨rfl, hb⟩
  replace HB := Lib.hid (HB.out.later hb)
  clear hb
  obtain ⟨⟨c0, c1, c2, c3⟩, d0, d1, d2, d3⟩ := HB.out.cells
  have f0 := HB.out.z.frozen 0; have f1 := HB.out.z.frozen 1; have f2 := HB.out.z.frozen 2; have f3 := HB.out.z.frozen 3
  have hlt := HB.out.z.lt; have hltm := HB.out.m.lt; have hltc := HB.out.c.lt
  obtain ⟨z0, z1, z2, z3⟩ := HB.out.zs
  go_wp2_with fail
  clear c0 c1 c2 c3 d0 d1 d2 d3 f0 f1 f2 f3 hlt hltm hltc z0 z1 z2 z3
  refine (MB _).mono ?_; rintro e w2 ⟨rfl, hb⟩
  replace HB := Lib.hid (HB.out.later hb)
  clear hb
  obtain ⟨⟨c0, c1, c2, c3⟩, d0, d1, d2, d3⟩ := HB.out.cells
  have f0 := HB.out.z.frozen 0; have f1 := HB.out.z.frozen 1; have f2 := HB.out.z.frozen 2; have f3 := HB.out.z.frozen 3
  have hlt := HB.out.z.lt; have hltm := HB.out.m.lt; have hltc := HB.out.c.lt
  obtain ⟨z0, z1, z2, z3⟩ := HB.out.zs
  go_wp2_with fail
  clear c0 c1 c2 c3 d0 d1 d2 d3 f0 f1 f2 f3 hlt hltm hltc z0 z1 z2 z3
  refine (NA _).mono ?_; rintro e w3 ⟨rfl, hb⟩
  replace HB := Lib.hid (HB.out.later hb)
  clear hb
  obtain ⟨⟨c0, c1, c2, c3⟩, d0, d1, d2, d3⟩ := HB.out.cells
  have f0 := HB.out.z.frozen 0; have f1 := HB.out.z.frozen 1; have f2 := HB.out.z.frozen 2; have f3 := HB.out.z.frozen 3
  have hlt := HB.out.z.lt; have hltm := HB.out.m.lt; have hltc := HB.out.c.lt
  obtain ⟨z0, z1, z2, z3⟩ := HB.out.zs
  have g2 := HB.out.m.frozen 2
  replace HB := Lib.hid (show Bx3 w 93 #[.int .u8 k, .int .u32 sz, .int .u64 X, .int .u64 st] _ _ _ from HB.out.putm 2 (.int .u64 X))
  have F0 := HB.out.z.frozen 0; have F1 := HB.out.z.frozen 1; have F2 := HB.out.z.frozen 2; have F3 := HB.out.z.frozen 3
  go_wp2_with fail
  have HF := Lib.hid (Bx3.four (a' := .int .u8 k) (b' := .int .u32 sz) (c' := .int .u64 X) (d' := .int .u64 st) HB.out)
  have hltz := HF.out.z.lt
  obtain ⟨e0, e1, e2, e3⟩ := HF.out.zs
  exact bodyPost_ret (v := .agg #[.int .u8 k, .int .u32 sz, .int .u64 X, .int .u64 st]) (by simp [results, Tryz.results55, go_sem, e0, e1, e2, e3, hltz]) rfl ⟨rfl, HF.out.below⟩
set_option maxHeartbeats 4000000 in
theorem rapply_4 (k sz mk st n op b : Nat) (w : World) (CK : ∀ w, Calls Tryz.prog 88 #[.agg #[.int .u8 k, .int .u32 sz, .int .u64 mk, .int .u64 st]] w fun e w' => e = .returned (.bool true) ∧ Below w.heap.size w w') (MB : ∀ w, Calls Tryz.prog 89 #[.agg #[.int .u8 4, .int .u64 n, .int .u8 op, .int .u64 b]] w fun e w' => e = .returned (.bool true) ∧ Below w.heap.size w w') :
    Calls Tryz.prog 55 #[.agg #[.int .u8 k, .int .u32 sz, .int .u64 mk, .int .u64 st], .agg #[.int .u8 4, .int .u64 n, .int .u8 op, .int .u64 b]] w fun e w' => e = .returned (.agg #[.int .u8 k, .int .u32 sz, .int .u64 mk, .int .u64 n]) ∧ Below w.heap.size w w' := by
  have HB := Lib.hid (Bx3.new w 93 #[.int .u8 k, .int .u32 sz, .int .u64 mk, .int .u64 st] #[.int .u8 4, .int .u64 n, .int .u8 op, .int .u64 b] #[.int .u8 0, .int .u32 0, .int .u64 0, .int .u64 0])
  go_enter Tryz.func55, Tryz.ntmps55
  go_wp2_with fail
  refine (CK _).mono ?_; rintro e w1 ⟨rfl, hb⟩
  replace HB := Lib.hid (HB.out.later hb)
  clear hb
  obtain ⟨⟨c0, c1, c2, c3⟩, d0, d1, d2, d3⟩ := HB.out.cells
  have f0 := HB.out.z.frozen 0; have f1 := HB.out.z.frozen 1; have f2 := HB.out.z.frozen 2; have f3 := HB.out.z.frozen 3
  have hlt := HB.out.z.lt; have hltm := HB.out.m.lt; have hltc := HB.out.c.lt
  obtain ⟨z0, z1, z2, z3⟩ := HB.out.zs
  go_wp2_with fail
  clear c0 c1 c2 c3 d0 d1 d2 d3 f0 f1 f2 f3 hlt hltm hltc z0 z1 z2 z3
  refine (MB _).mono ?_; rintro e w2 ⟨rfl, hb⟩
  replace HB := Lib.hid (HB.out.later hb)
  clear hb
  obtain ⟨⟨c0, c1, c2, c3⟩, d0, d1, d2, d3⟩ := HB.out.cells
  have f0 := HB.out.z.frozen 0; have f1 := HB.out.z.frozen 1; have f2 := HB.out.z.frozen 2; have f3 := HB.out.z.frozen 3
  have hlt := HB.out.z.lt; have hltm := HB.out.m.lt; have hltc := HB.out.c.lt
  obtain ⟨z0, z1, z2, z3⟩ := HB.out.zs
  have g3 := HB.out.m.frozen 3
  replace HB := Lib.hid (show Bx3 w 93 #[.int .u8 k, .int .u32 sz, .int .u64 mk, .int .u64 n] _ _ _ from HB.out.putm 3 (.int .u64 n))
  have F0 := HB.out.z.frozen 0; have F1 := HB.out.z.frozen 1; have F2 := HB.out.z.frozen 2; have F3 := HB.out.z.frozen 3
  go_wp2_with fail
  have HF := Lib.hid (Bx3.four (a' := .int .u8 k) (b' := .int .u32 sz) (c' := .int .u64 mk) (d' := .int .u64 n) HB.out)
  have hltz := HF.out.z.lt
  obtain ⟨e0, e1, e2, e3⟩ := HF.out.zs
  exact bodyPost_ret (v := .agg #[.int .u8 k, .int .u32 sz, .int .u64 mk, .int .u64 n]) (by simp [results, Tryz.results55, go_sem, e0, e1, e2, e3, hltz]) rfl ⟨rfl, HF.out.below⟩
theorem rapply_any (k sz mk st wh n op b : Nat) (hm : mk < 18446744073709551616) (hb : b < 18446744073709551616) (w : World) :
    Calls Tryz.prog 55 #[.agg #[.int .u8 k, .int .u32 sz, .int .u64 mk, .int .u64 st], .agg #[.int .u8 wh, .int .u64 n, .int .u8 op, .int .u64 b]] w fun e w' => e = .returned (.agg #[.int .u8 k, .int .u32 (aSz k sz mk wh n op b : Nat), .int .u64 (aMk k sz mk wh n op b : Nat), .int .u64 (aSt k sz mk st wh n op b : Nat)]) ∧ Below w.heap.size w w' := by
  have CK := may_any k sz mk st hm
  have MB := mayChange_any wh n op b
  unfold aSz aMk aSt both
  cases h1 : mayM k sz mk with
  | false =>
    rw [h1] at CK
    simp only [Bool.false_and, Bool.false_eq_true, if_false]
    exact rapply_no1 k sz mk st wh n op b w CK
  | true =>
    rw [h1] at CK
    cases h2 : mayC wh n op b with
    | false =>
      rw [h2] at MB
      simp only [Bool.and_false, Bool.false_eq_true, if_false]
      exact rapply_no2 k sz mk st wh n op b w CK MB
    | true =>
      rw [h2] at MB
      simp only [Bool.and_self, if_true]
      by_cases c1 : wh = 1
      · subst c1
        have hn : n ≤ 2048 := by simp [mayC] at h2; omega
        by_cases hk : k = 1
        · subst hk
          by_cases hlt : (sz : Int) < (n : Int)
          · have e1 : apSz 1 sz 1 n = n := by unfold apSz; simp; omega
            rw [e1]
            exact rapply_1a sz mk st n op b hn hlt w CK MB
          · have e1 : apSz 1 sz 1 n = sz := by unfold apSz; simp; omega
            rw [e1]
            exact rapply_1b sz mk st n op b hn hlt w CK MB
        · have e1 : apSz k sz 1 n = sz := by unfold apSz; simp [hk]
          rw [e1]
          exact rapply_1c k sz mk st n op b hn (by simp; omega) w CK MB
      by_cases c2 : wh = 2
      · subst c2
        have hn : n ≤ 2048 := by simp [mayC] at h2; omega
        by_cases hk : k = 1
        · subst hk
          have e1 : apSz 1 sz 2 n = n := by unfold apSz; simp
          rw [e1]
          exact rapply_2a sz mk st n op b hn w CK MB
        · have e1 : apSz k sz 2 n = sz := by unfold apSz; simp [hk]
          rw [e1]
          exact rapply_2c k sz mk st n op b hn (by simp; omega) w CK MB
      have e1 : apSz k sz wh n = sz := by simp [apSz, c1, c2]
      rw [e1]
      by_cases c3 : wh = 3
      · subst c3
        have S := (stp_nat (op := op) hm hb).1
        refine rapply_3 k sz mk st n op b _ (Nm.errI op) w CK MB (fun w => ?_)
        have e3 : ((apMk mk 3 op b : Nat) : Int) = Nm.stepI mk op b := S
        rw [e3]
        exact Nm.rapply_any mk op b (u64_nat hm) (u64_nat hb) w
      by_cases c4 : wh = 4
      · subst c4
        exact rapply_4 k sz mk st n op b w CK MB
      simp [mayC, c1, c2, c3, c4] at h2
end Go.Proofs.YthledgkjfjdjoaaGreat.Mt
