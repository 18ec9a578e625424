/- The patch of a text, by the document. Conditions: lengths below 2^40. -/
import Derived.Test.YthledgkjfjdjoaaGreatBkI
namespace Go.Proofs.YthledgkjfjdjoaaGreat.Bk
open Go.ChangeShapes Go.WideShapes Go.RowKit Go.Codec Go.Blk
set_option maxRecDepth 100000
set_option linter.unusedSimpArgs false
set_option linter.unusedVariables false
/-- The answer's cell, and a patch's cell behind it. -/
structure T2 (w : World) (res box : Array Value) (wx : World) : Prop where
  below : Below w.heap.size w wx
  res : Is wx w.heap.size 82 res
  box : Is wx (w.heap.size + 1) 82 box
theorem slice_run (s : ByteArray) (a b : Nat) (hab : a ≤ b) (hb : b ≤ s.size) (W : World) : (Instr.slice 9 (.string s) (some (.int .i64 a)) (some (.int .i64 b)) none).run Tryz.prog W = .ok (.string (s.extract a b)) W :=
  run_slice_string (P := Tryz.prog) W 9 s .i64 .i64 a b Tryz.underlying9 (by omega) (by omega) (by omega)
section
variable {w wx wy : World} {res box : Array Value}
theorem T2.new (w : World) (res box : Array Value) : T2 w res box ((w.alloc (.cells res 82)).alloc (.cells box 82)) := by
  have e : (w.alloc (.cells res 82)).heap.size = w.heap.size + 1 := by simp
  refine ⟨below_alloc (below_alloc (Below.refl _ _) _) _, (Is.new _ _ _).alloc _, ?_⟩
  have := Is.new (w.alloc (.cells res 82)) 82 box
  rwa [e] at this
theorem T2.later (h : T2 w res box wx) (hb : Below wx.heap.size wx wy) : T2 w res box wy :=
  ⟨h.below.trans (hb.mono h.below.size), h.res.kept (grow_below hb none) (by simp), h.box.kept (grow_below hb none) (by simp)⟩
theorem T2.drew (h : T2 w res box wx) : T2 w res box wx.drew := ⟨h.below.drew, h.res, h.box⟩
theorem T2.put {a b c d b' d' : Value} (h : T2 w res #[a, b, c, d] wx) : T2 w res #[a, b', c, d'] ((wx.setCell ⟨w.heap.size + 1, 1, none⟩ b').setCell ⟨w.heap.size + 1, 3, none⟩ d') := by
  refine ⟨(h.below.setCell (by simp) _).setCell (by simp) _, (h.res.other (by simp) _).other (by simp) _, ?_⟩
  have h1 := (h.box.put 1 b').put 3 d'
  simp at h1
  exact h1
theorem T2.free (h : T2 w res box wx) : (wx.frozen? ⟨w.heap.size + 1, 0, none⟩ = false ∧ wx.frozen? ⟨w.heap.size + 1, 1, none⟩ = false ∧ wx.frozen? ⟨w.heap.size + 1, 2, none⟩ = false ∧ wx.frozen? ⟨w.heap.size + 1, 3, none⟩ = false) ∧ w.heap.size + 1 < wx.heap.size :=
  ⟨⟨h.box.frozen 0, h.box.frozen 1, h.box.frozen 2, h.box.frozen 3⟩, h.box.lt⟩
theorem T2.end {a b c d a' b' c' d' : Value} (h : T2 w #[a, b, c, d] box wx) : Box w 82 #[a', b', c', d'] ((((wx.setCell ⟨w.heap.size, 0, none⟩ a').setCell ⟨w.heap.size, 1, none⟩ b').setCell ⟨w.heap.size, 2, none⟩ c').setCell ⟨w.heap.size, 3, none⟩ d') := by
  refine ⟨(((h.below.setCell (Nat.le_refl _) _).setCell (Nat.le_refl _) _).setCell (Nat.le_refl _) _).setCell (Nat.le_refl _) _, ?_⟩
  have h1 := (((h.res.put 0 a').put 1 b').put 2 c').put 3 d'
  simp at h1
  exact h1
theorem T2.rcells {a b c d : Value} (h : T2 w #[a, b, c, d] box wx) : wx.cell? ⟨w.heap.size, 0, none⟩ = some a ∧ wx.cell? ⟨w.heap.size, 1, none⟩ = some b ∧ wx.cell? ⟨w.heap.size, 2, none⟩ = some c ∧ wx.cell? ⟨w.heap.size, 3, none⟩ = some d :=
  ⟨h.res.cell 0, h.res.cell 1, h.res.cell 2, h.res.cell 3⟩
theorem T2.cells {a b c d : Value} (h : T2 w res #[a, b, c, d] wx) : wx.cell? ⟨w.heap.size + 1, 0, none⟩ = some a ∧ wx.cell? ⟨w.heap.size + 1, 1, none⟩ = some b ∧ wx.cell? ⟨w.heap.size + 1, 2, none⟩ = some c ∧ wx.cell? ⟨w.heap.size + 1, 3, none⟩ = some d :=
  ⟨h.box.cell 0, h.box.cell 1, h.box.cell 2, h.box.cell 3⟩
theorem T2.rfree (h : T2 w res box wx) : (wx.frozen? ⟨w.heap.size, 0, none⟩ = false ∧ wx.frozen? ⟨w.heap.size, 1, none⟩ = false ∧ wx.frozen? ⟨w.heap.size, 2, none⟩ = false ∧ wx.frozen? ⟨w.heap.size, 3, none⟩ = false) ∧ w.heap.size < wx.heap.size ∧ w.heap.size + 1 < wx.heap.size :=
  ⟨⟨h.res.frozen 0, h.res.frozen 1, h.res.frozen 2, h.res.frozen 3⟩, h.res.lt, h.box.lt⟩
end

set_option maxHeartbeats 4000000 in
theorem rtake_0 (s : ByteArray) (hs : s.size = 0) (w : World) :
    Calls Tryz.prog 50 #[.string s] w fun e w' => e = .returned (.tuple #[.agg #[.bool false, .int .i64 0, .int .i64 0, .string ⟨#[]⟩], .int .i64 10]) ∧ Below w.heap.size w w' := by
  have HF := Lib.hid (Box.new w 82 #[.bool false, .int .i64 0, .int .i64 0, .string ⟨#[]⟩])
  obtain ⟨q0, q1, q2, q3⟩ := HF.out.cells
  have hlt := HF.out.one.lt
  clear q0 q1 q2 q3 hlt
  go_enter Tryz.func50, Tryz.ntmps50
  go_wp2_with fail
  obtain ⟨q0, q1, q2, q3⟩ := HF.out.cells
  have hlt := HF.out.one.lt
  exact bodyPost_ret (v := .tuple #[.agg #[.bool false, .int .i64 0, .int .i64 0, .string ⟨#[]⟩], .int .i64 10]) (by simp [results, Tryz.results50, go_sem, q0, q1, q2, q3, hlt]) rfl ⟨rfl, HF.out.below⟩
set_option maxHeartbeats 4000000 in
theorem rtake_no (s : ByteArray) (h0 : 0 < s.size) (hv1 : ((s[0].toNat : Int) != 1) = true) (hv2 : ((s[0].toNat : Int) != 2) = true) (w : World) :
    Calls Tryz.prog 50 #[.string s] w fun e w' => e = .returned (.tuple #[.agg #[.bool false, .int .i64 0, .int .i64 0, .string ⟨#[]⟩], .int .i64 4]) ∧ Below w.heap.size w w' := by
  have hz : ((s.size : Int) == 0) = false := beq_eq_false_iff_ne.2 (by omega)
  have HF := Lib.hid (Box.new w 82 #[.bool false, .int .i64 0, .int .i64 0, .string ⟨#[]⟩])
  obtain ⟨q0, q1, q2, q3⟩ := HF.out.cells
  have hlt := HF.out.one.lt
  clear q0 q1 q2 q3 hlt
  go_enter Tryz.func50, Tryz.ntmps50
  go_wp2_with fail
  obtain ⟨q0, q1, q2, q3⟩ := HF.out.cells
  have hlt := HF.out.one.lt
  exact bodyPost_ret (v := .tuple #[.agg #[.bool false, .int .i64 0, .int .i64 0, .string ⟨#[]⟩], .int .i64 4]) (by simp [results, Tryz.results50, go_sem, q0, q1, q2, q3, hlt]) rfl ⟨rfl, HF.out.below⟩
set_option maxHeartbeats 4000000 in
theorem rtake_2t (s : ByteArray) (hs : s.size = 1) (hv : (s[0].toNat : Int) = 2) (w : World) :
    Calls Tryz.prog 50 #[.string s] w fun e w' => e = .returned (.tuple #[.agg #[.bool false, .int .i64 0, .int .i64 0, .string ⟨#[]⟩], .int .i64 10]) ∧ Below w.heap.size w w' := by
  have h0 : 0 < s.size := by omega
  have HT := Lib.hid (T2.new w #[.bool false, .int .i64 0, .int .i64 0, .string ⟨#[]⟩] #[.bool false, .int .i64 0, .int .i64 0, .string ⟨#[]⟩])
  go_enter Tryz.func50, Tryz.ntmps50
  go_wp2_with fail
  obtain ⟨q0, q1, q2, q3⟩ := HT.out.rcells
  have hlt := HT.out.res.lt
  exact bodyPost_ret (v := .tuple #[.agg #[.bool false, .int .i64 0, .int .i64 0, .string ⟨#[]⟩], .int .i64 10]) (by simp [results, Tryz.results50, go_sem, q0, q1, q2, q3, hlt]) rfl ⟨rfl, HT.out.below⟩
set_option maxHeartbeats 4000000 in
theorem rtake_2l (s : ByteArray) (n : Nat) (hn2 : n < 256) (hs : 2 < s.size) (hv : (s[0].toNat : Int) = 2) (hn : (s[1].toNat : Int) = n) (w : World) :
    Calls Tryz.prog 50 #[.string s] w fun e w' => e = .returned (.tuple #[.agg #[.bool false, .int .i64 0, .int .i64 0, .string ⟨#[]⟩], .int .i64 4]) ∧ Below w.heap.size w w' := by
  have h0 : 0 < s.size := by omega
  have h1 : 1 < s.size := by omega
  have hz : ((s.size : Int) == 0) = false := beq_eq_false_iff_ne.2 (by omega)
  have HT := Lib.hid (T2.new w #[.bool false, .int .i64 0, .int .i64 0, .string ⟨#[]⟩] #[.bool true, .int .i64 0, .int .i64 n, .string ⟨#[]⟩])
  go_enter Tryz.func50, Tryz.ntmps50
  go_wp2_with fail
  obtain ⟨q0, q1, q2, q3⟩ := HT.out.rcells
  have hlt := HT.out.res.lt
  exact bodyPost_ret (v := .tuple #[.agg #[.bool false, .int .i64 0, .int .i64 0, .string ⟨#[]⟩], .int .i64 4]) (by simp [results, Tryz.results50, go_sem, q0, q1, q2, q3, hlt]) rfl ⟨rfl, HT.out.below⟩
set_option maxHeartbeats 4000000 in
theorem rtake_2n (s : ByteArray) (n : Nat) (hn2 : n < 256) (hs : s.size = 2) (hv : (s[0].toNat : Int) = 2) (hn : (s[1].toNat : Int) = n) (H : ∀ w, Calls Tryz.prog 84 #[.agg #[.bool true, .int .i64 0, .int .i64 n, .string ⟨#[]⟩]] w fun e w' => e = .returned (.bool false) ∧ Below w.heap.size w w') (w : World) :
    Calls Tryz.prog 50 #[.string s] w fun e w' => e = .returned (.tuple #[.agg #[.bool false, .int .i64 0, .int .i64 0, .string ⟨#[]⟩], .int .i64 4]) ∧ Below w.heap.size w w' := by
  have h0 : 0 < s.size := by omega
  have h1 : 1 < s.size := by omega
  have hwr : wrap64 (n : Int) = (n : Int) := by unfold wrap64; omega
  have HT := Lib.hid (T2.new w #[.bool false, .int .i64 0, .int .i64 0, .string ⟨#[]⟩] #[.bool true, .int .i64 0, .int .i64 n, .string ⟨#[]⟩])
  go_enter Tryz.func50, Tryz.ntmps50
  go_wp2_with fail
  refine (H _).mono ?_; rintro e w1 ⟨rfl, hb⟩
  have HU := Lib.hid (HT.out.later hb)
  clear hb HT
  obtain ⟨c0, c1, c2, c3⟩ := HU.out.rcells
  obtain ⟨d0, d1, d2, d3⟩ := HU.out.cells
  obtain ⟨⟨f0, f1, f2, f3⟩, hlt, hlt2⟩ := HU.out.rfree
  go_wp2_with fail
  have HF := Lib.hid (T2.end (a' := .bool false) (b' := .int .i64 0) (c' := .int .i64 0) (d' := .string ⟨#[]⟩) HU.out)
  obtain ⟨q0, q1, q2, q3⟩ := HF.out.cells
  exact bodyPost_ret (v := .tuple #[.agg #[.bool false, .int .i64 0, .int .i64 0, .string ⟨#[]⟩], .int .i64 4]) (by simp [results, Tryz.results50, go_sem, q0, q1, q2, q3, hlt]) rfl ⟨rfl, HF.out.below⟩
set_option maxHeartbeats 4000000 in
theorem rtake_2y (s : ByteArray) (n : Nat) (hn2 : n < 256) (hs : s.size = 2) (hv : (s[0].toNat : Int) = 2) (hn : (s[1].toNat : Int) = n) (H : ∀ w, Calls Tryz.prog 84 #[.agg #[.bool true, .int .i64 0, .int .i64 n, .string ⟨#[]⟩]] w fun e w' => e = .returned (.bool true) ∧ Below w.heap.size w w') (w : World) :
    Calls Tryz.prog 50 #[.string s] w fun e w' => e = .returned (.tuple #[.agg #[.bool true, .int .i64 0, .int .i64 n, .string ⟨#[]⟩], .int .i64 0]) ∧ Below w.heap.size w w' := by
  have h0 : 0 < s.size := by omega
  have h1 : 1 < s.size := by omega
  have hwr : wrap64 (n : Int) = (n : Int) := by unfold wrap64; omega
  have HT := Lib.hid (T2.new w #[.bool false, .int .i64 0, .int .i64 0, .string ⟨#[]⟩] #[.bool true, .int .i64 0, .int .i64 n, .string ⟨#[]⟩])
  go_enter Tryz.func50, Tryz.ntmps50
  go_wp2_with fail
  refine (H _).mono ?_; rintro e w1 ⟨rfl, hb⟩
  have HU := Lib.hid (HT.out.later hb)
  clear hb HT
  obtain ⟨c0, c1, c2, c3⟩ := HU.out.rcells
  obtain ⟨d0, d1, d2, d3⟩ := HU.out.cells
  obtain ⟨⟨f0, f1, f2, f3⟩, hlt, hlt2⟩ := HU.out.rfree
  go_wp2_with fail
  have HF := Lib.hid (T2.end (a' := .bool true) (b' := .int .i64 0) (c' := .int .i64 n) (d' := .string ⟨#[]⟩) HU.out)
  obtain ⟨q0, q1, q2, q3⟩ := HF.out.cells
  exact bodyPost_ret (v := .tuple #[.agg #[.bool true, .int .i64 0, .int .i64 n, .string ⟨#[]⟩], .int .i64 0]) (by simp [results, Tryz.results50, go_sem, q0, q1, q2, q3, hlt]) rfl ⟨rfl, HF.out.below⟩
set_option maxHeartbeats 4000000 in
theorem rtake_1t (s : ByteArray) (h0 : 0 < s.size) (hs : s.size < 4) (hv : (s[0].toNat : Int) = 1) (w : World) :
    Calls Tryz.prog 50 #[.string s] w fun e w' => e = .returned (.tuple #[.agg #[.bool false, .int .i64 0, .int .i64 0, .string ⟨#[]⟩], .int .i64 10]) ∧ Below w.heap.size w w' := by
  have hz : ((s.size : Int) == 0) = false := beq_eq_false_iff_ne.2 (by omega)
  have HT := Lib.hid (T2.new w #[.bool false, .int .i64 0, .int .i64 0, .string ⟨#[]⟩] #[.bool false, .int .i64 0, .int .i64 0, .string ⟨#[]⟩])
  go_enter Tryz.func50, Tryz.ntmps50
  go_wp2_with fail
  obtain ⟨q0, q1, q2, q3⟩ := HT.out.rcells
  have hlt := HT.out.res.lt
  exact bodyPost_ret (v := .tuple #[.agg #[.bool false, .int .i64 0, .int .i64 0, .string ⟨#[]⟩], .int .i64 10]) (by simp [results, Tryz.results50, go_sem, q0, q1, q2, q3, hlt]) rfl ⟨rfl, HT.out.below⟩
set_option maxHeartbeats 4000000 in
theorem rtake_1e (s : ByteArray) (n a b m : Nat) (hn2 : n < 256) (hs : 4 ≤ s.size) (hv : (s[0].toNat : Int) = 1) (hn : (s[1].toNat : Int) = n) (ha : (s[2].toNat : Int) = a) (hb : (s[3].toNat : Int) = b) (hm : 4 + 256 * (a : Int) + (b : Int) = (m : Int)) (ha2 : a < 256) (hb2 : b < 256) (hlm : s.size < m) (w : World) :
    Calls Tryz.prog 50 #[.string s] w fun e w' => e = .returned (.tuple #[.agg #[.bool false, .int .i64 0, .int .i64 0, .string ⟨#[]⟩], .int .i64 10]) ∧ Below w.heap.size w w' := by
  have h0 : 0 < s.size := by omega
  have h1 : 1 < s.size := by omega
  have h2 : 2 < s.size := by omega
  have h3 : 3 < s.size := by omega
  have hz : ((s.size : Int) == 0) = false := beq_eq_false_iff_ne.2 (by omega)
  have HT := Lib.hid (T2.new w #[.bool false, .int .i64 0, .int .i64 0, .string ⟨#[]⟩] #[.bool false, .int .i64 0, .int .i64 0, .string ⟨#[]⟩]).drew
  go_enter Tryz.func50, Tryz.ntmps50
  go_wp2_with fail
  go_region
  generalize World.drew _ = W at *
  clear ha hb hm ha2 hb2
  obtain ⟨c0, c1, c2, c3⟩ := HT.out.rcells
  obtain ⟨⟨f0, f1, f2, f3⟩, hlt, hlt2⟩ := HT.out.rfree
  go_wp2_with fail
  have HF := Lib.hid (T2.end (a' := .bool false) (b' := .int .i64 0) (c' := .int .i64 0) (d' := .string ⟨#[]⟩) HT.out)
  obtain ⟨q0, q1, q2, q3⟩ := HF.out.cells
  exact bodyPost_ret (v := .tuple #[.agg #[.bool false, .int .i64 0, .int .i64 0, .string ⟨#[]⟩], .int .i64 10]) (by simp [results, Tryz.results50, go_sem, q0, q1, q2, q3, hlt]) rfl ⟨rfl, HF.out.below⟩
set_option maxHeartbeats 4000000 in
theorem rtake_1l (s : ByteArray) (n a b m : Nat) (hn2 : n < 256) (hs : 4 ≤ s.size) (hv : (s[0].toNat : Int) = 1) (hn : (s[1].toNat : Int) = n) (ha : (s[2].toNat : Int) = a) (hb : (s[3].toNat : Int) = b) (hm : 4 + 256 * (a : Int) + (b : Int) = (m : Int)) (ha2 : a < 256) (hb2 : b < 256) (hm4 : 4 ≤ m) (hlm : m < s.size) (T : ByteArray) (hT : s.extract 4 m = T) (w : World) :
    Calls Tryz.prog 50 #[.string s] w fun e w' => e = .returned (.tuple #[.agg #[.bool false, .int .i64 0, .int .i64 0, .string ⟨#[]⟩], .int .i64 4]) ∧ Below w.heap.size w w' := by
  have h0 : 0 < s.size := by omega
  have h1 : 1 < s.size := by omega
  have h2 : 2 < s.size := by omega
  have h3 : 3 < s.size := by omega
  have hz : ((s.size : Int) == 0) = false := beq_eq_false_iff_ne.2 (by omega)
  have HT := Lib.hid (T2.new w #[.bool false, .int .i64 0, .int .i64 0, .string ⟨#[]⟩] #[.bool false, .int .i64 0, .int .i64 0, .string ⟨#[]⟩]).drew
  go_enter Tryz.func50, Tryz.ntmps50
  go_wp2_with fail
  go_region
  generalize World.drew _ = W at *
  clear ha hb hm ha2 hb2
  have hms : m ≤ s.size := by omega
  have hsl : ∀ W, (Instr.slice 9 (.string s) (some (.int .i64 4)) (some (.int .i64 (m : Nat))) none).run Tryz.prog W = .ok (.string T) W := fun W => by
    rw [← hT]
    exact slice_run s 4 m hm4 hms W
  obtain ⟨c0, c1, c2, c3⟩ := HT.out.rcells
  obtain ⟨⟨f0, f1, f2, f3⟩, hlt, _⟩ := HT.out.rfree
  obtain ⟨d0, d1, d2, d3⟩ := HT.out.cells
  obtain ⟨⟨g0, g1, g2, g3⟩, hlt2⟩ := HT.out.free
  go_wp2_with fail
  have HF := Lib.hid (T2.end (a' := .bool false) (b' := .int .i64 0) (c' := .int .i64 0) (d' := .string ⟨#[]⟩) (HT.out.put (b' := .int .i64 n) (d' := .string T)))
  obtain ⟨q0, q1, q2, q3⟩ := HF.out.cells
  exact bodyPost_ret (v := .tuple #[.agg #[.bool false, .int .i64 0, .int .i64 0, .string ⟨#[]⟩], .int .i64 4]) (by simp [results, Tryz.results50, go_sem, q0, q1, q2, q3, hlt]) rfl ⟨rfl, HF.out.below⟩
set_option maxHeartbeats 4000000 in
theorem rtake_1n (s : ByteArray) (n a b m : Nat) (hn2 : n < 256) (hs : 4 ≤ s.size) (hv : (s[0].toNat : Int) = 1) (hn : (s[1].toNat : Int) = n) (ha : (s[2].toNat : Int) = a) (hb : (s[3].toNat : Int) = b) (hm : 4 + 256 * (a : Int) + (b : Int) = (m : Int)) (ha2 : a < 256) (hb2 : b < 256) (hm4 : 4 ≤ m) (hlm : s.size = m) (T : ByteArray) (hT : s.extract 4 m = T) (H : ∀ w, Calls Tryz.prog 84 #[.agg #[.bool false, .int .i64 n, .int .i64 0, .string T]] w fun e w' => e = .returned (.bool false) ∧ Below w.heap.size w w') (w : World) :
    Calls Tryz.prog 50 #[.string s] w fun e w' => e = .returned (.tuple #[.agg #[.bool false, .int .i64 0, .int .i64 0, .string ⟨#[]⟩], .int .i64 4]) ∧ Below w.heap.size w w' := by
  have h0 : 0 < s.size := by omega
  have h1 : 1 < s.size := by omega
  have h2 : 2 < s.size := by omega
  have h3 : 3 < s.size := by omega
  have hz : ((s.size : Int) == 0) = false := beq_eq_false_iff_ne.2 (by omega)
  have HT := Lib.hid (T2.new w #[.bool false, .int .i64 0, .int .i64 0, .string ⟨#[]⟩] #[.bool false, .int .i64 0, .int .i64 0, .string ⟨#[]⟩]).drew
  go_enter Tryz.func50, Tryz.ntmps50
  go_wp2_with fail
  go_region
  generalize World.drew _ = W at *
  clear ha hb hm ha2 hb2
  obtain ⟨d0, d1, d2, d3⟩ := HT.out.cells
  obtain ⟨⟨g0, g1, g2, g3⟩, hlt2⟩ := HT.out.free
  go_wp2_with fail
  refine (H _).mono ?_; rintro e w1 ⟨rfl, hb⟩
  have HU := Lib.hid (HT.out.put.later hb)
  clear hb HT d0 d1 d2 d3
  obtain ⟨c0, c1, c2, c3⟩ := HU.out.rcells
  obtain ⟨d0, d1, d2, d3⟩ := HU.out.cells
  obtain ⟨⟨f0, f1, f2, f3⟩, hlt, hlt2⟩ := HU.out.rfree
  go_wp2_with fail
  have HF := Lib.hid (T2.end (a' := .bool false) (b' := .int .i64 0) (c' := .int .i64 0) (d' := .string ⟨#[]⟩) HU.out)
  obtain ⟨q0, q1, q2, q3⟩ := HF.out.cells
  exact bodyPost_ret (v := .tuple #[.agg #[.bool false, .int .i64 0, .int .i64 0, .string ⟨#[]⟩], .int .i64 4]) (by simp [results, Tryz.results50, go_sem, q0, q1, q2, q3, hlt]) rfl ⟨rfl, HF.out.below⟩
set_option maxHeartbeats 4000000 in
theorem rtake_1y (s : ByteArray) (n a b m : Nat) (hn2 : n < 256) (hs : 4 ≤ s.size) (hv : (s[0].toNat : Int) = 1) (hn : (s[1].toNat : Int) = n) (ha : (s[2].toNat : Int) = a) (hb : (s[3].toNat : Int) = b) (hm : 4 + 256 * (a : Int) + (b : Int) = (m : Int)) (ha2 : a < 256) (hb2 : b < 256) (hm4 : 4 ≤ m) (hlm : s.size = m) (T : ByteArray) (hT : s.extract 4 m = T) (H : ∀ w, Calls Tryz.prog 84 #[.agg #[.bool false, .int .i64 n, .int .i64 0, .string T]] w fun e w' => e = .returned (.bool true) ∧ Below w.heap.size w w') (w : World) :
    Calls Tryz.prog 50 #[.string s] w fun e w' => e = .returned (.tuple #[.agg #[.bool false, .int .i64 n, .int .i64 0, .string T], .int .i64 0]) ∧ Below w.heap.size w w' := by
  have h0 : 0 < s.size := by omega
  have h1 : 1 < s.size := by omega
  have h2 : 2 < s.size := by omega
  have h3 : 3 < s.size := by omega
  have hz : ((s.size : Int) == 0) = false := beq_eq_false_iff_ne.2 (by omega)
  have HT := Lib.hid (T2.new w #[.bool false, .int .i64 0, .int .i64 0, .string ⟨#[]⟩] #[.bool false, .int .i64 0, .int .i64 0, .string ⟨#[]⟩]).drew
  go_enter Tryz.func50, Tryz.ntmps50
  go_wp2_with fail
  go_region
  generalize World.drew _ = W at *
  clear ha hb hm ha2 hb2
  obtain ⟨d0, d1, d2, d3⟩ := HT.out.cells
  obtain ⟨⟨g0, g1, g2, g3⟩, hlt2⟩ := HT.out.free
  go_wp2_with fail
  refine (H _).mono ?_; rintro e w1 ⟨rfl, hb⟩
  have HU := Lib.hid (HT.out.put.later hb)
  clear hb HT d0 d1 d2 d3
  obtain ⟨c0, c1, c2, c3⟩ := HU.out.rcells
  obtain ⟨d0, d1, d2, d3⟩ := HU.out.cells
  obtain ⟨⟨f0, f1, f2, f3⟩, hlt, hlt2⟩ := HU.out.rfree
  go_wp2_with fail
  have HF := Lib.hid (T2.end (a' := .bool false) (b' := .int .i64 n) (c' := .int .i64 0) (d' := .string T) HU.out)
  obtain ⟨q0, q1, q2, q3⟩ := HF.out.cells
  exact bodyPost_ret (v := .tuple #[.agg #[.bool false, .int .i64 n, .int .i64 0, .string T], .int .i64 0]) (by simp [results, Tryz.results50, go_sem, q0, q1, q2, q3, hlt]) rfl ⟨rfl, HF.out.below⟩
theorem ret_pt {c : Bool} {a n e : Nat} {s : List UInt8} : Ending.returned (.tuple #[.agg #[.bool c, .int .i64 (a : Nat), .int .i64 (n : Nat), .string (bs s)], .int .i64 (e : Nat)]) = .returned (pvT ⟨c, a, n, s, e⟩) := rfl
theorem get_of {s : ByteArray} {l : List UInt8} (hl : s.data.toList = l) (i : Nat) (hi : i < s.size) (b : UInt8) (hb : l[i]? = some b) : (s[i].toNat : Int) = b.toNat := by
  have h := byte_eq hi
  rw [hl, hb] at h
  injection h with h
  rw [h]
theorem rtake_any (s : ByteArray) (hs : s.size ≤ 1099511627776) (w : World) : Calls Tryz.prog 50 #[.string s] w fun e w' => e = .returned (pvT (tk s.data.toList)) ∧ Below w.heap.size w w' := by
  obtain ⟨l, hl⟩ : ∃ l, s.data.toList = l := ⟨_, rfl⟩
  have hsz : s.size = l.length := by rw [← hl, ← Lib.size_eq]
  rw [hl]
  rcases l with _ | ⟨b, l⟩
  · exact rtake_0 s (by simpa using hsz) w
  · have h0 : 0 < s.size := by rw [hsz]; simp
    have g0 := get_of hl 0 h0 b rfl
    by_cases h1 : b.toNat = 1
    · rw [h1] at g0
      by_cases h4 : s.size < 4
      · rw [tk_one_torn h1 (by rw [hsz] at h4; simp only [List.length_cons] at h4; omega)]
        exact rtake_1t s h0 h4 g0 w
      · rcases l with _ | ⟨b1, _ | ⟨b2, _ | ⟨b3, l⟩⟩⟩
        · simp at hsz; omega
        · simp at hsz; omega
        · simp at hsz; omega
        · simp only [List.length_cons] at hsz
          have g1 := get_of hl 1 (by omega) b1 rfl
          have g2 := get_of hl 2 (by omega) b2 rfl
          have g3 := get_of hl 3 (by omega) b3 rfl
          have l2 := b2.toNat_lt; have l3 := b3.toNat_lt
          have ex : s.extract 4 (4 + 256 * b2.toNat + b3.toNat) = bs (l.take (b2.toNat * 256 + b3.toNat)) := by
            rw [Lib.extract_eq, hl]
            show bs ((List.drop 4 (b :: b1 :: b2 :: b3 :: l)).take _) = _
            rw [show 4 + 256 * b2.toNat + b3.toNat - 4 = b2.toNat * 256 + b3.toNat by omega]
            rfl
          have hm : 4 + 256 * (b2.toNat : Int) + (b3.toNat : Int) = ((4 + 256 * b2.toNat + b3.toNat : Nat) : Int) := by omega
          rcases Nat.lt_trichotomy l.length (b2.toNat * 256 + b3.toNat) with hc | hc | hc
          · rw [tk_one_torn h1 (.inr (by have : size2 (b :: b1 :: b2 :: b3 :: l) = b2.toNat * 256 + b3.toNat := rfl; rw [this]; simp only [List.length_cons]; omega))]
            exact rtake_1e s _ _ _ _ b1.toNat_lt (by omega) g0 g1 g2 g3 hm l2 l3 (by omega) w
          · rw [tk_one h1 hc]
            rw [← hc, List.take_length] at ex
            have M := rmay_any false b1.toNat 0 (bs l) (by rw [bs_size]; omega)
            rw [bs_list] at M
            cases hmm : may false b1.toNat 0 l with
            | false =>
              rw [hmm] at M
              exact rtake_1n s _ _ _ _ b1.toNat_lt (by omega) g0 g1 g2 g3 hm l2 l3 (by omega) (by omega) _ ex M w
            | true =>
              rw [hmm] at M
              exact rtake_1y s _ _ _ _ b1.toNat_lt (by omega) g0 g1 g2 g3 hm l2 l3 (by omega) (by omega) _ ex M w
          · rw [tk_one_long h1 hc]
            exact rtake_1l s _ _ _ _ b1.toNat_lt (by omega) g0 g1 g2 g3 hm l2 l3 (by omega) (by omega) _ ex w
    by_cases h2 : b.toNat = 2
    · rw [h2] at g0
      rcases l with _ | ⟨b1, l⟩
      · rw [tk_two_torn h2]
        exact rtake_2t s (by simpa using hsz) g0 w
      · simp only [List.length_cons] at hsz
        have g1 := get_of hl 1 (by omega) b1 rfl
        rcases l with _ | ⟨b2, l⟩
        · rw [tk_two h2]
          simp only [List.length_nil] at hsz
          have M := rmay_any true 0 b1.toNat ⟨#[]⟩ (by decide)
          have e0 : (⟨#[]⟩ : ByteArray).data.toList = [] := rfl
          rw [e0] at M
          cases hm : may true 0 b1.toNat [] with
          | false =>
            rw [hm] at M
            exact rtake_2n s _ b1.toNat_lt (by omega) g0 g1 M w
          | true =>
            rw [hm] at M
            exact rtake_2y s _ b1.toNat_lt (by omega) g0 g1 M w
        · rw [tk_two_long h2]
          simp only [List.length_cons] at hsz
          exact rtake_2l s _ b1.toNat_lt (by omega) g0 g1 w
    · rw [tk_other h1 h2]
      exact rtake_no s h0 (by rw [g0]; simp; omega) (by rw [g0]; simp; omega) w
end Go.Proofs.YthledgkjfjdjoaaGreat.Bk
