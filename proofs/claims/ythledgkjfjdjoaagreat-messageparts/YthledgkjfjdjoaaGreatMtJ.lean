/- The document's changes of texts. Conditions: lengths below 2^40. -/
import Derived.Test.YthledgkjfjdjoaaGreatMtI
namespace Go.Proofs.YthledgkjfjdjoaaGreat.Mt
open Go.ChangeShapes Go.WideShapes Go.RowKit Go.Codec Go.Num Go.Mt
set_option maxRecDepth 100000
set_option linter.unusedSimpArgs false
set_option linter.unusedVariables false
theorem Bx2.at {w wx : World} {t t2 : TypeId} {arr ns : Array Value} {g g' : Nat} (h : Bx2 w t arr g t2 ns wx) (e : g = g') : Bx2 w t arr g' t2 ns wx := e ▸ h
set_option maxHeartbeats 4000000 in
theorem rtakec_none (w : World) :
    Calls Tryz.prog 53 #[.string ⟨#[]⟩] w fun e w' => e = .returned (.tuple #[.agg #[.int .u8 0, .int .u64 0, .int .u8 0, .int .u64 0], .int .i64 10]) ∧ Below w.heap.size w w' := by
  have HX := Lib.hid (Box.new w 93 #[.int .u8 0, .int .u64 0, .int .u8 0, .int .u64 0])
  go_enter Tryz.func53, Tryz.ntmps53
  go_wp2_with fail
  exact bodyPost_ret (v := .tuple #[.agg #[.int .u8 0, .int .u64 0, .int .u8 0, .int .u64 0], .int .i64 10]) (by simp [results, Tryz.results53, go_sem]) rfl ⟨rfl, HX.out.below⟩
set_option maxHeartbeats 4000000 in
theorem rtakec_bad (s : ByteArray) (hne : s.toList.isEmpty = false) (c : Nat) (h0 : 0 < s.size) (hk : ((s[0].toNat : Nat) : Int) = (c : Int)) (b : Bool) (h1 : decide ((c : Int) < 1) = b) (h4 : b = false → (4 : Int) < (c : Int)) (w : World) :
    Calls Tryz.prog 53 #[.string s] w fun e w' => e = .returned (.tuple #[.agg #[.int .u8 0, .int .u64 0, .int .u8 0, .int .u64 0], .int .i64 4]) ∧ Below w.heap.size w w' := by
  have h0' : (0 : Int) < (s.size : Int) := by omega
  have HX := Lib.hid (Box.new w 93 #[.int .u8 0, .int .u64 0, .int .u8 0, .int .u64 0])
  cases b
  · replace h4 := h4 rfl
    go_enter Tryz.func53, Tryz.ntmps53
    go_wp2_with fail
    exact bodyPost_ret (v := .tuple #[.agg #[.int .u8 0, .int .u64 0, .int .u8 0, .int .u64 0], .int .i64 4]) (by simp [results, Tryz.results53, go_sem]) rfl ⟨rfl, HX.out.below⟩
  · clear h4
    go_enter Tryz.func53, Tryz.ntmps53
    go_wp2_with fail
    exact bodyPost_ret (v := .tuple #[.agg #[.int .u8 0, .int .u64 0, .int .u8 0, .int .u64 0], .int .i64 4]) (by simp [results, Tryz.results53, go_sem]) rfl ⟨rfl, HX.out.below⟩
set_option maxHeartbeats 8000000 in
theorem rtakec1_torn (s : ByteArray) (hne : s.toList.isEmpty = false) (h0 : 0 < s.size) (hk : ((s[0].toNat : Nat) : Int) = 1) (hl : (s.size : Int) < 5) (w : World) :
    Calls Tryz.prog 53 #[.string s] w fun e w' => e = .returned (.tuple #[.agg #[.int .u8 0, .int .u64 0, .int .u8 0, .int .u64 0], .int .i64 10]) ∧ Below w.heap.size w w' := by
  have h0' : (0 : Int) < (s.size : Int) := by omega
  have HX := Lib.hid (Box.new w 93 #[.int .u8 0, .int .u64 0, .int .u8 0, .int .u64 0])
  have HY := Lib.hid (HX.out.and 3 #[.int .i64 0, .int .i64 5, .int .i64 5, .int .i64 10, .int .i64 9])
  go_enter Tryz.func53, Tryz.ntmps53
  go_wp2_with fail
  exact bodyPost_ret (v := .tuple #[.agg #[.int .u8 0, .int .u64 0, .int .u8 0, .int .u64 0], .int .i64 10]) (by simp [results, Tryz.results53, go_sem]) rfl ⟨rfl, HY.out.box.below⟩
set_option maxHeartbeats 8000000 in
theorem rtakec1_long (s : ByteArray) (hne : s.toList.isEmpty = false) (h0 : 0 < s.size) (hk : ((s[0].toNat : Nat) : Int) = 1) (hl : (5 : Int) < (s.size : Int)) (w : World) :
    Calls Tryz.prog 53 #[.string s] w fun e w' => e = .returned (.tuple #[.agg #[.int .u8 0, .int .u64 0, .int .u8 0, .int .u64 0], .int .i64 4]) ∧ Below w.heap.size w w' := by
  have h0' : (0 : Int) < (s.size : Int) := by omega
  have HX := Lib.hid (Box.new w 93 #[.int .u8 0, .int .u64 0, .int .u8 0, .int .u64 0])
  have HY := Lib.hid (HX.out.and 3 #[.int .i64 0, .int .i64 5, .int .i64 5, .int .i64 10, .int .i64 9])
  go_enter Tryz.func53, Tryz.ntmps53
  go_wp2_with fail
  exact bodyPost_ret (v := .tuple #[.agg #[.int .u8 0, .int .u64 0, .int .u8 0, .int .u64 0], .int .i64 4]) (by simp [results, Tryz.results53, go_sem]) rfl ⟨rfl, HY.out.box.below⟩
set_option maxHeartbeats 8000000 in
theorem rtakec1_form (s : ByteArray) (hne : s.toList.isEmpty = false) (h0 : 0 < s.size) (hk : ((s[0].toNat : Nat) : Int) = 1) (hl : (s.size : Int) = 5) (N : Nat) (N1 : Hid (∀ w, Calls Tryz.prog 87 #[.string s, .int .i64 1, .int .i64 5] w fun e w' => e = .returned (.int .u64 N) ∧ w = w')) (MB : ∀ w, Calls Tryz.prog 89 #[.agg #[.int .u8 1, .int .u64 N, .int .u8 0, .int .u64 0]] w fun e w' => e = .returned (.bool false) ∧ Below w.heap.size w w') (w : World) :
    Calls Tryz.prog 53 #[.string s] w fun e w' => e = .returned (.tuple #[.agg #[.int .u8 0, .int .u64 0, .int .u8 0, .int .u64 0], .int .i64 4]) ∧ Below w.heap.size w w' := by
  have h0' : (0 : Int) < (s.size : Int) := by omega
  have HX := Lib.hid (Box.new w 93 #[.int .u8 0, .int .u64 0, .int .u8 0, .int .u64 0])
  have HY := Lib.hid (HX.out.and 3 #[.int .i64 0, .int .i64 5, .int .i64 5, .int .i64 10, .int .i64 9])
  have HZ := Lib.hid ((HY.out.box.and 93 #[.int .u8 1, .int .u64 N, .int .u8 0, .int .u64 0]).at (g' := w.heap.size + 1 + 1) (by simp))
  go_enter Tryz.func53, Tryz.ntmps53
  go_wp2_with fail
  refine (N1.out _).mono ?_; rintro e wz ⟨rfl, rfl⟩
  go_wp2_with fail
  refine (MB _).mono ?_; rintro e w3 ⟨rfl, hb⟩
  have hp := HZ.out.later hb
  clear hb HZ HY HX
  obtain ⟨m0, m1, m2, m3⟩ := hp.ms
  have hltm := hp.two.lt
  obtain ⟨c0, c1, c2, c3⟩ := hp.cells
  have f0 := hp.box.one.frozen 0; have f1 := hp.box.one.frozen 1; have f2 := hp.box.one.frozen 2; have f3 := hp.box.one.frozen 3
  have hlt := hp.box.one.lt
  go_wp2_with fail
  have HF := Lib.hid (Box.four (a' := .int .u8 0) (b' := .int .u64 0) (c' := .int .u8 0) (d' := .int .u64 0) hp.box)
  obtain ⟨d0, d1, d2, d3⟩ := HF.out.cells
  exact bodyPost_ret (v := .tuple #[.agg #[.int .u8 0, .int .u64 0, .int .u8 0, .int .u64 0], .int .i64 4]) (by simp [results, Tryz.results53, go_sem, d0, d1, d2, d3, hlt]) rfl ⟨rfl, HF.out.below⟩
set_option maxHeartbeats 8000000 in
theorem rtakec1_ok (s : ByteArray) (hne : s.toList.isEmpty = false) (h0 : 0 < s.size) (hk : ((s[0].toNat : Nat) : Int) = 1) (hl : (s.size : Int) = 5) (N : Nat) (N1 : Hid (∀ w, Calls Tryz.prog 87 #[.string s, .int .i64 1, .int .i64 5] w fun e w' => e = .returned (.int .u64 N) ∧ w = w')) (MB : ∀ w, Calls Tryz.prog 89 #[.agg #[.int .u8 1, .int .u64 N, .int .u8 0, .int .u64 0]] w fun e w' => e = .returned (.bool true) ∧ Below w.heap.size w w') (w : World) :
    Calls Tryz.prog 53 #[.string s] w fun e w' => e = .returned (.tuple #[.agg #[.int .u8 1, .int .u64 N, .int .u8 0, .int .u64 0], .int .i64 0]) ∧ Below w.heap.size w w' := by
  have h0' : (0 : Int) < (s.size : Int) := by omega
  have HX := Lib.hid (Box.new w 93 #[.int .u8 0, .int .u64 0, .int .u8 0, .int .u64 0])
  have HY := Lib.hid (HX.out.and 3 #[.int .i64 0, .int .i64 5, .int .i64 5, .int .i64 10, .int .i64 9])
  have HZ := Lib.hid ((HY.out.box.and 93 #[.int .u8 1, .int .u64 N, .int .u8 0, .int .u64 0]).at (g' := w.heap.size + 1 + 1) (by simp))
  go_enter Tryz.func53, Tryz.ntmps53
  go_wp2_with fail
  refine (N1.out _).mono ?_; rintro e wz ⟨rfl, rfl⟩
  go_wp2_with fail
  refine (MB _).mono ?_; rintro e w3 ⟨rfl, hb⟩
  have hp := HZ.out.later hb
  clear hb HZ HY HX
  obtain ⟨m0, m1, m2, m3⟩ := hp.ms
  have hltm := hp.two.lt
  obtain ⟨c0, c1, c2, c3⟩ := hp.cells
  have f0 := hp.box.one.frozen 0; have f1 := hp.box.one.frozen 1; have f2 := hp.box.one.frozen 2; have f3 := hp.box.one.frozen 3
  have hlt := hp.box.one.lt
  go_wp2_with fail
  have HF := Lib.hid (Box.four (a' := .int .u8 1) (b' := .int .u64 N) (c' := .int .u8 0) (d' := .int .u64 0) hp.box)
  obtain ⟨d0, d1, d2, d3⟩ := HF.out.cells
  exact bodyPost_ret (v := .tuple #[.agg #[.int .u8 1, .int .u64 N, .int .u8 0, .int .u64 0], .int .i64 0]) (by simp [results, Tryz.results53, go_sem, d0, d1, d2, d3, hlt]) rfl ⟨rfl, HF.out.below⟩
set_option maxHeartbeats 8000000 in
theorem rtakec2_torn (s : ByteArray) (hne : s.toList.isEmpty = false) (h0 : 0 < s.size) (hk : ((s[0].toNat : Nat) : Int) = 2) (hl : (s.size : Int) < 5) (w : World) :
    Calls Tryz.prog 53 #[.string s] w fun e w' => e = .returned (.tuple #[.agg #[.int .u8 0, .int .u64 0, .int .u8 0, .int .u64 0], .int .i64 10]) ∧ Below w.heap.size w w' := by
  have h0' : (0 : Int) < (s.size : Int) := by omega
  have HX := Lib.hid (Box.new w 93 #[.int .u8 0, .int .u64 0, .int .u8 0, .int .u64 0])
  have HY := Lib.hid (HX.out.and 3 #[.int .i64 0, .int .i64 5, .int .i64 5, .int .i64 10, .int .i64 9])
  go_enter Tryz.func53, Tryz.ntmps53
  go_wp2_with fail
  exact bodyPost_ret (v := .tuple #[.agg #[.int .u8 0, .int .u64 0, .int .u8 0, .int .u64 0], .int .i64 10]) (by simp [results, Tryz.results53, go_sem]) rfl ⟨rfl, HY.out.box.below⟩
set_option maxHeartbeats 8000000 in
theorem rtakec2_long (s : ByteArray) (hne : s.toList.isEmpty = false) (h0 : 0 < s.size) (hk : ((s[0].toNat : Nat) : Int) = 2) (hl : (5 : Int) < (s.size : Int)) (w : World) :
    Calls Tryz.prog 53 #[.string s] w fun e w' => e = .returned (.tuple #[.agg #[.int .u8 0, .int .u64 0, .int .u8 0, .int .u64 0], .int .i64 4]) ∧ Below w.heap.size w w' := by
  have h0' : (0 : Int) < (s.size : Int) := by omega
  have HX := Lib.hid (Box.new w 93 #[.int .u8 0, .int .u64 0, .int .u8 0, .int .u64 0])
  have HY := Lib.hid (HX.out.and 3 #[.int .i64 0, .int .i64 5, .int .i64 5, .int .i64 10, .int .i64 9])
  go_enter Tryz.func53, Tryz.ntmps53
  go_wp2_with fail
  exact bodyPost_ret (v := .tuple #[.agg #[.int .u8 0, .int .u64 0, .int .u8 0, .int .u64 0], .int .i64 4]) (by simp [results, Tryz.results53, go_sem]) rfl ⟨rfl, HY.out.box.below⟩
set_option maxHeartbeats 8000000 in
theorem rtakec2_form (s : ByteArray) (hne : s.toList.isEmpty = false) (h0 : 0 < s.size) (hk : ((s[0].toNat : Nat) : Int) = 2) (hl : (s.size : Int) = 5) (N : Nat) (N1 : Hid (∀ w, Calls Tryz.prog 87 #[.string s, .int .i64 1, .int .i64 5] w fun e w' => e = .returned (.int .u64 N) ∧ w = w')) (MB : ∀ w, Calls Tryz.prog 89 #[.agg #[.int .u8 2, .int .u64 N, .int .u8 0, .int .u64 0]] w fun e w' => e = .returned (.bool false) ∧ Below w.heap.size w w') (w : World) :
    Calls Tryz.prog 53 #[.string s] w fun e w' => e = .returned (.tuple #[.agg #[.int .u8 0, .int .u64 0, .int .u8 0, .int .u64 0], .int .i64 4]) ∧ Below w.heap.size w w' := by
  have h0' : (0 : Int) < (s.size : Int) := by omega
  have HX := Lib.hid (Box.new w 93 #[.int .u8 0, .int .u64 0, .int .u8 0, .int .u64 0])
  have HY := Lib.hid (HX.out.and 3 #[.int .i64 0, .int .i64 5, .int .i64 5, .int .i64 10, .int .i64 9])
  have HZ := Lib.hid ((HY.out.box.and 93 #[.int .u8 2, .int .u64 N, .int .u8 0, .int .u64 0]).at (g' := w.heap.size + 1 + 1) (by simp))
  go_enter Tryz.func53, Tryz.ntmps53
  go_wp2_with fail
  refine (N1.out _).mono ?_; rintro e wz ⟨rfl, rfl⟩
  go_wp2_with fail
  refine (MB _).mono ?_; rintro e w3 ⟨rfl, hb⟩
  have hp := HZ.out.later hb
  clear hb HZ HY HX
  obtain ⟨m0, m1, m2, m3⟩ := hp.ms
  have hltm := hp.two.lt
  obtain ⟨c0, c1, c2, c3⟩ := hp.cells
  have f0 := hp.box.one.frozen 0; have f1 := hp.box.one.frozen 1; have f2 := hp.box.one.frozen 2; have f3 := hp.box.one.frozen 3
  have hlt := hp.box.one.lt
  go_wp2_with fail
  have HF := Lib.hid (Box.four (a' := .int .u8 0) (b' := .int .u64 0) (c' := .int .u8 0) (d' := .int .u64 0) hp.box)
  obtain ⟨d0, d1, d2, d3⟩ := HF.out.cells
  exact bodyPost_ret (v := .tuple #[.agg #[.int .u8 0, .int .u64 0, .int .u8 0, .int .u64 0], .int .i64 4]) (by simp [results, Tryz.results53, go_sem, d0, d1, d2, d3, hlt]) rfl ⟨rfl, HF.out.below⟩
set_option maxHeartbeats 8000000 in
theorem rtakec2_ok (s : ByteArray) (hne : s.toList.isEmpty = false) (h0 : 0 < s.size) (hk : ((s[0].toNat : Nat) : Int) = 2) (hl : (s.size : Int) = 5) (N : Nat) (N1 : Hid (∀ w, Calls Tryz.prog 87 #[.string s, .int .i64 1, .int .i64 5] w fun e w' => e = .returned (.int .u64 N) ∧ w = w')) (MB : ∀ w, Calls Tryz.prog 89 #[.agg #[.int .u8 2, .int .u64 N, .int .u8 0, .int .u64 0]] w fun e w' => e = .returned (.bool true) ∧ Below w.heap.size w w') (w : World) :
    Calls Tryz.prog 53 #[.string s] w fun e w' => e = .returned (.tuple #[.agg #[.int .u8 2, .int .u64 N, .int .u8 0, .int .u64 0], .int .i64 0]) ∧ Below w.heap.size w w' := by
  have h0' : (0 : Int) < (s.size : Int) := by omega
  have HX := Lib.hid (Box.new w 93 #[.int .u8 0, .int .u64 0, .int .u8 0, .int .u64 0])
  have HY := Lib.hid (HX.out.and 3 #[.int .i64 0, .int .i64 5, .int .i64 5, .int .i64 10, .int .i64 9])
  have HZ := Lib.hid ((HY.out.box.and 93 #[.int .u8 2, .int .u64 N, .int .u8 0, .int .u64 0]).at (g' := w.heap.size + 1 + 1) (by simp))
  go_enter Tryz.func53, Tryz.ntmps53
  go_wp2_with fail
  refine (N1.out _).mono ?_; rintro e wz ⟨rfl, rfl⟩
  go_wp2_with fail
  refine (MB _).mono ?_; rintro e w3 ⟨rfl, hb⟩
  have hp := HZ.out.later hb
  clear hb HZ HY HX
  obtain ⟨m0, m1, m2, m3⟩ := hp.ms
  have hltm := hp.two.lt
  obtain ⟨c0, c1, c2, c3⟩ := hp.cells
  have f0 := hp.box.one.frozen 0; have f1 := hp.box.one.frozen 1; have f2 := hp.box.one.frozen 2; have f3 := hp.box.one.frozen 3
  have hlt := hp.box.one.lt
  go_wp2_with fail
  have HF := Lib.hid (Box.four (a' := .int .u8 2) (b' := .int .u64 N) (c' := .int .u8 0) (d' := .int .u64 0) hp.box)
  obtain ⟨d0, d1, d2, d3⟩ := HF.out.cells
  exact bodyPost_ret (v := .tuple #[.agg #[.int .u8 2, .int .u64 N, .int .u8 0, .int .u64 0], .int .i64 0]) (by simp [results, Tryz.results53, go_sem, d0, d1, d2, d3, hlt]) rfl ⟨rfl, HF.out.below⟩
set_option maxHeartbeats 8000000 in
theorem rtakec3_torn (s : ByteArray) (hne : s.toList.isEmpty = false) (h0 : 0 < s.size) (hk : ((s[0].toNat : Nat) : Int) = 3) (hl : (s.size : Int) < 10) (w : World) :
    Calls Tryz.prog 53 #[.string s] w fun e w' => e = .returned (.tuple #[.agg #[.int .u8 0, .int .u64 0, .int .u8 0, .int .u64 0], .int .i64 10]) ∧ Below w.heap.size w w' := by
  have h0' : (0 : Int) < (s.size : Int) := by omega
  have HX := Lib.hid (Box.new w 93 #[.int .u8 0, .int .u64 0, .int .u8 0, .int .u64 0])
  have HY := Lib.hid (HX.out.and 3 #[.int .i64 0, .int .i64 5, .int .i64 5, .int .i64 10, .int .i64 9])
  go_enter Tryz.func53, Tryz.ntmps53
  go_wp2_with fail
  exact bodyPost_ret (v := .tuple #[.agg #[.int .u8 0, .int .u64 0, .int .u8 0, .int .u64 0], .int .i64 10]) (by simp [results, Tryz.results53, go_sem]) rfl ⟨rfl, HY.out.box.below⟩
set_option maxHeartbeats 8000000 in
theorem rtakec3_long (s : ByteArray) (hne : s.toList.isEmpty = false) (h0 : 0 < s.size) (hk : ((s[0].toNat : Nat) : Int) = 3) (hl : (10 : Int) < (s.size : Int)) (w : World) :
    Calls Tryz.prog 53 #[.string s] w fun e w' => e = .returned (.tuple #[.agg #[.int .u8 0, .int .u64 0, .int .u8 0, .int .u64 0], .int .i64 4]) ∧ Below w.heap.size w w' := by
  have h0' : (0 : Int) < (s.size : Int) := by omega
  have HX := Lib.hid (Box.new w 93 #[.int .u8 0, .int .u64 0, .int .u8 0, .int .u64 0])
  have HY := Lib.hid (HX.out.and 3 #[.int .i64 0, .int .i64 5, .int .i64 5, .int .i64 10, .int .i64 9])
  go_enter Tryz.func53, Tryz.ntmps53
  go_wp2_with fail
  exact bodyPost_ret (v := .tuple #[.agg #[.int .u8 0, .int .u64 0, .int .u8 0, .int .u64 0], .int .i64 4]) (by simp [results, Tryz.results53, go_sem]) rfl ⟨rfl, HY.out.box.below⟩
set_option maxHeartbeats 8000000 in
theorem rtakec3_form (s : ByteArray) (hne : s.toList.isEmpty = false) (h0 : 0 < s.size) (hk : ((s[0].toNat : Nat) : Int) = 3) (hl : (s.size : Int) = 10) (O B : Nat) (h1s : 1 < s.size) (hO : ((s[1].toNat : Nat) : Int) = (O : Int)) (N1 : Hid (∀ w, Calls Tryz.prog 87 #[.string s, .int .i64 2, .int .i64 10] w fun e w' => e = .returned (.int .u64 B) ∧ w = w')) (MB : ∀ w, Calls Tryz.prog 89 #[.agg #[.int .u8 3, .int .u64 0, .int .u8 O, .int .u64 B]] w fun e w' => e = .returned (.bool false) ∧ Below w.heap.size w w') (w : World) :
    Calls Tryz.prog 53 #[.string s] w fun e w' => e = .returned (.tuple #[.agg #[.int .u8 0, .int .u64 0, .int .u8 0, .int .u64 0], .int .i64 4]) ∧ Below w.heap.size w w' := by
  have h0' : (0 : Int) < (s.size : Int) := by omega
  have HX := Lib.hid (Box.new w 93 #[.int .u8 0, .int .u64 0, .int .u8 0, .int .u64 0])
  have HY := Lib.hid (HX.out.and 3 #[.int .i64 0, .int .i64 5, .int .i64 5, .int .i64 10, .int .i64 9])
  have h1s' : (1 : Int) < (s.size : Int) := by omega
  have HZ := Lib.hid ((HY.out.box.and 93 #[.int .u8 3, .int .u64 0, .int .u8 O, .int .u64 B]).at (g' := w.heap.size + 1 + 1) (by simp))
  go_enter Tryz.func53, Tryz.ntmps53
  go_wp2_with fail
  refine (N1.out _).mono ?_; rintro e wz ⟨rfl, rfl⟩
  go_wp2_with fail
  refine (MB _).mono ?_; rintro e w3 ⟨rfl, hb⟩
  have hp := HZ.out.later hb
  clear hb HZ HY HX
  obtain ⟨m0, m1, m2, m3⟩ := hp.ms
  have hltm := hp.two.lt
  obtain ⟨c0, c1, c2, c3⟩ := hp.cells
  have f0 := hp.box.one.frozen 0; have f1 := hp.box.one.frozen 1; have f2 := hp.box.one.frozen 2; have f3 := hp.box.one.frozen 3
  have hlt := hp.box.one.lt
  go_wp2_with fail
  have HF := Lib.hid (Box.four (a' := .int .u8 0) (b' := .int .u64 0) (c' := .int .u8 0) (d' := .int .u64 0) hp.box)
  obtain ⟨d0, d1, d2, d3⟩ := HF.out.cells
  exact bodyPost_ret (v := .tuple #[.agg #[.int .u8 0, .int .u64 0, .int .u8 0, .int .u64 0], .int .i64 4]) (by simp [results, Tryz.results53, go_sem, d0, d1, d2, d3, hlt]) rfl ⟨rfl, HF.out.below⟩
set_option maxHeartbeats 8000000 in
theorem rtakec3_ok (s : ByteArray) (hne : s.toList.isEmpty = false) (h0 : 0 < s.size) (hk : ((s[0].toNat : Nat) : Int) = 3) (hl : (s.size : Int) = 10) (O B : Nat) (h1s : 1 < s.size) (hO : ((s[1].toNat : Nat) : Int) = (O : Int)) (N1 : Hid (∀ w, Calls Tryz.prog 87 #[.string s, .int .i64 2, .int .i64 10] w fun e w' => e = .returned (.int .u64 B) ∧ w = w')) (MB : ∀ w, Calls Tryz.prog 89 #[.agg #[.int .u8 3, .int .u64 0, .int .u8 O, .int .u64 B]] w fun e w' => e = .returned (.bool true) ∧ Below w.heap.size w w') (w : World) :
    Calls Tryz.prog 53 #[.string s] w fun e w' => e = .returned (.tuple #[.agg #[.int .u8 3, .int .u64 0, .int .u8 O, .int .u64 B], .int .i64 0]) ∧ Below w.heap.size w w' := by
  have h0' : (0 : Int) < (s.size : Int) := by omega
  have HX := Lib.hid (Box.new w 93 #[.int .u8 0, .int .u64 0, .int .u8 0, .int .u64 0])
  have HY := Lib.hid (HX.out.and 3 #[.int .i64 0, .int .i64 5, .int .i64 5, .int .i64 10, .int .i64 9])
  have h1s' : (1 : Int) < (s.size : Int) := by omega
  have HZ := Lib.hid ((HY.out.box.and 93 #[.int .u8 3, .int .u64 0, .int .u8 O, .int .u64 B]).at (g' := w.heap.size + 1 + 1) (by simp))
  go_enter Tryz.func53, Tryz.ntmps53
  go_wp2_with fail
  refine (N1.out _).mono ?_; rintro e wz ⟨rfl, rfl⟩
  go_wp2_with fail
  refine (MB _).mono ?_; rintro e w3 ⟨rfl, hb⟩
  have hp := HZ.out.later hb
  clear hb HZ HY HX
  obtain ⟨m0, m1, m2, m3⟩ := hp.ms
  have hltm := hp.two.lt
  obtain ⟨c0, c1, c2, c3⟩ := hp.cells
  have f0 := hp.box.one.frozen 0; have f1 := hp.box.one.frozen 1; have f2 := hp.box.one.frozen 2; have f3 := hp.box.one.frozen 3
  have hlt := hp.box.one.lt
  go_wp2_with fail
  have HF := Lib.hid (Box.four (a' := .int .u8 3) (b' := .int .u64 0) (c' := .int .u8 O) (d' := .int .u64 B) hp.box)
  obtain ⟨d0, d1, d2, d3⟩ := HF.out.cells
  exact bodyPost_ret (v := .tuple #[.agg #[.int .u8 3, .int .u64 0, .int .u8 O, .int .u64 B], .int .i64 0]) (by simp [results, Tryz.results53, go_sem, d0, d1, d2, d3, hlt]) rfl ⟨rfl, HF.out.below⟩
set_option maxHeartbeats 8000000 in
theorem rtakec4_torn (s : ByteArray) (hne : s.toList.isEmpty = false) (h0 : 0 < s.size) (hk : ((s[0].toNat : Nat) : Int) = 4) (hl : (s.size : Int) < 9) (w : World) :
    Calls Tryz.prog 53 #[.string s] w fun e w' => e = .returned (.tuple #[.agg #[.int .u8 0, .int .u64 0, .int .u8 0, .int .u64 0], .int .i64 10]) ∧ Below w.heap.size w w' := by
  have h0' : (0 : Int) < (s.size : Int) := by omega
  have HX := Lib.hid (Box.new w 93 #[.int .u8 0, .int .u64 0, .int .u8 0, .int .u64 0])
  have HY := Lib.hid (HX.out.and 3 #[.int .i64 0, .int .i64 5, .int .i64 5, .int .i64 10, .int .i64 9])
  go_enter Tryz.func53, Tryz.ntmps53
  go_wp2_with fail
  exact bodyPost_ret (v := .tuple #[.agg #[.int .u8 0, .int .u64 0, .int .u8 0, .int .u64 0], .int .i64 10]) (by simp [results, Tryz.results53, go_sem]) rfl ⟨rfl, HY.out.box.below⟩
set_option maxHeartbeats 8000000 in
theorem rtakec4_long (s : ByteArray) (hne : s.toList.isEmpty = false) (h0 : 0 < s.size) (hk : ((s[0].toNat : Nat) : Int) = 4) (hl : (9 : Int) < (s.size : Int)) (w : World) :
    Calls Tryz.prog 53 #[.string s] w fun e w' => e = .returned (.tuple #[.agg #[.int .u8 0, .int .u64 0, .int .u8 0, .int .u64 0], .int .i64 4]) ∧ Below w.heap.size w w' := by
  have h0' : (0 : Int) < (s.size : Int) := by omega
  have HX := Lib.hid (Box.new w 93 #[.int .u8 0, .int .u64 0, .int .u8 0, .int .u64 0])
  have HY := Lib.hid (HX.out.and 3 #[.int .i64 0, .int .i64 5, .int .i64 5, .int .i64 10, .int .i64 9])
  go_enter Tryz.func53, Tryz.ntmps53
  go_wp2_with fail
  exact bodyPost_ret (v := .tuple #[.agg #[.int .u8 0, .int .u64 0, .int .u8 0, .int .u64 0], .int .i64 4]) (by simp [results, Tryz.results53, go_sem]) rfl ⟨rfl, HY.out.box.below⟩
set_option maxHeartbeats 8000000 in
theorem rtakec4_form (s : ByteArray) (hne : s.toList.isEmpty = false) (h0 : 0 < s.size) (hk : ((s[0].toNat : Nat) : Int) = 4) (hl : (s.size : Int) = 9) (N : Nat) (N1 : Hid (∀ w, Calls Tryz.prog 87 #[.string s, .int .i64 1, .int .i64 9] w fun e w' => e = .returned (.int .u64 N) ∧ w = w')) (MB : ∀ w, Calls Tryz.prog 89 #[.agg #[.int .u8 4, .int .u64 N, .int .u8 0, .int .u64 0]] w fun e w' => e = .returned (.bool false) ∧ Below w.heap.size w w') (w : World) :
    Calls Tryz.prog 53 #[.string s] w fun e w' => e = .returned (.tuple #[.agg #[.int .u8 0, .int .u64 0, .int .u8 0, .int .u64 0], .int .i64 4]) ∧ Below w.heap.size w w' := by
  have h0' : (0 : Int) < (s.size : Int) := by omega
  have HX := Lib.hid (Box.new w 93 #[.int .u8 0, .int .u64 0, .int .u8 0, .int .u64 0])
  have HY := Lib.hid (HX.out.and 3 #[.int .i64 0, .int .i64 5, .int .i64 5, .int .i64 10, .int .i64 9])
  have HZ := Lib.hid ((HY.out.box.and 93 #[.int .u8 4, .int .u64 N, .int .u8 0, .int .u64 0]).at (g' := w.heap.size + 1 + 1) (by simp))
  go_enter Tryz.func53, Tryz.ntmps53
  go_wp2_with fail
  refine (N1.out _).mono ?_; rintro e wz ⟨rfl, rfl⟩
  go_wp2_with fail
  refine (MB _).mono ?_; rintro e w3 ⟨rfl, hb⟩
  have hp := HZ.out.later hb
  clear hb HZ HY HX
  obtain ⟨m0, m1, m2, m3⟩ := hp.ms
  have hltm := hp.two.lt
  obtain ⟨c0, c1, c2, c3⟩ := hp.cells
  have f0 := hp.box.one.frozen 0; have f1 := hp.box.one.frozen 1; have f2 := hp.box.one.frozen 2; have f3 := hp.box.one.frozen 3
  have hlt := hp.box.one.lt
  go_wp2_with fail
  have HF := Lib.hid (Box.four (a' := .int .u8 0) (b' := .int .u64 0) (c' := .int .u8 0) (d' := .int .u64 0) hp.box)
  obtain ⟨d0, d1, d2, d3⟩ := HF.out.cells
  exact bodyPost_ret (v := .tuple #[.agg #[.int .u8 0, .int .u64 0, .int .u8 0, .int .u64 0], .int .i64 4]) (by simp [results, Tryz.results53, go_sem, d0, d1, d2, d3, hlt]) rfl ⟨rfl, HF.out.below⟩
set_option maxHeartbeats 8000000 in
theorem rtakec4_ok (s : ByteArray) (hne : s.toList.isEmpty = false) (h0 : 0 < s.size) (hk : ((s[0].toNat : Nat) : Int) = 4) (hl : (s.size : Int) = 9) (N : Nat) (N1 : Hid (∀ w, Calls Tryz.prog 87 #[.string s, .int .i64 1, .int .i64 9] w fun e w' => e = .returned (.int .u64 N) ∧ w = w')) (MB : ∀ w, Calls Tryz.prog 89 #[.agg #[.int .u8 4, .int .u64 N, .int .u8 0, .int .u64 0]] w fun e w' => e = .returned (.bool true) ∧ Below w.heap.size w w') (w : World) :
    Calls Tryz.prog 53 #[.string s] w fun e w' => e = .returned (.tuple #[.agg #[.int .u8 4, .int .u64 N, .int .u8 0, .int .u64 0], .int .i64 0]) ∧ Below w.heap.size w w' := by
  have h0' : (0 : Int) < (s.size : Int) := by omega
  have HX := Lib.hid (Box.new w 93 #[.int .u8 0, .int .u64 0, .int .u8 0, .int .u64 0])
  have HY := Lib.hid (HX.out.and 3 #[.int .i64 0, .int .i64 5, .int .i64 5, .int .i64 10, .int .i64 9])
  have HZ := Lib.hid ((HY.out.box.and 93 #[.int .u8 4, .int .u64 N, .int .u8 0, .int .u64 0]).at (g' := w.heap.size + 1 + 1) (by simp))
  go_enter Tryz.func53, Tryz.ntmps53
  go_wp2_with fail
  refine (N1.out _).mono ?_; rintro e wz ⟨rfl, rfl⟩
  go_wp2_with fail
  refine (MB _).mono ?_; rintro e w3 ⟨rfl, hb⟩
  have hp := HZ.out.later hb
  clear hb HZ HY HX
  obtain ⟨m0, m1, m2, m3⟩ := hp.ms
  have hltm := hp.two.lt
  obtain ⟨c0, c1, c2, c3⟩ := hp.cells
  have f0 := hp.box.one.frozen 0; have f1 := hp.box.one.frozen 1; have f2 := hp.box.one.frozen 2; have f3 := hp.box.one.frozen 3
  have hlt := hp.box.one.lt
  go_wp2_with fail
  have HF := Lib.hid (Box.four (a' := .int .u8 4) (b' := .int .u64 N) (c' := .int .u8 0) (d' := .int .u64 0) hp.box)
  obtain ⟨d0, d1, d2, d3⟩ := HF.out.cells
  exact bodyPost_ret (v := .tuple #[.agg #[.int .u8 4, .int .u64 N, .int .u8 0, .int .u64 0], .int .i64 0]) (by simp [results, Tryz.results53, go_sem, d0, d1, d2, d3, hlt]) rfl ⟨rfl, HF.out.below⟩
set_option maxHeartbeats 1000000 in
theorem rtakeChange_any (s : ByteArray) (hs : s.size ≤ 1099511627776) (w : World) :
    Calls Tryz.prog 53 #[.string s] w fun e w' => e = .returned (.tuple #[.agg #[.int .u8 (okI (takeCE s.data.toList) (num s.data.toList 0 1) : Nat), .int .u64 (okI (takeCE s.data.toList) (cN s.data.toList (num s.data.toList 0 1)) : Nat), .int .u8 (okI (takeCE s.data.toList) (cOp s.data.toList (num s.data.toList 0 1)) : Nat), .int .u64 (okI (takeCE s.data.toList) (cBy s.data.toList (num s.data.toList 0 1)) : Nat)], .int .i64 (takeCE s.data.toList : Nat)]) ∧ Below w.heap.size w w' := by
  have hz := Lib.size_eq s
  by_cases hn : s.data.toList = []
  · have e : takeCE s.data.toList = 10 := by unfold takeCE; rw [if_pos hn]
    rw [e]
    have h0 : s = ⟨#[]⟩ := empty_of_size (by rw [hz, hn]; rfl)
    rw [h0]
    exact rtakec_none w
  have hp : 0 < s.data.toList.length := List.length_pos_iff.2 hn
  have h0 : 0 < s.size := by omega
  have hne : s.toList.isEmpty = false := by
    rw [Lib.toList_data]
    rcases h : s.data.toList with _ | ⟨x, l⟩
    · exact absurd h hn
    · rfl
  by_cases h14 : num s.data.toList 0 1 < 1 ∨ 4 < num s.data.toList 0 1
  · have e : takeCE s.data.toList = 4 := by unfold takeCE; rw [if_neg hn, if_pos h14]
    rw [e]
    exact rtakec_bad s hne (num s.data.toList 0 1) h0 (by rw [num_first s h0]) _ rfl (fun h => by simp at h; omega) w
  have hw : num s.data.toList 0 1 = 1 ∨ num s.data.toList 0 1 = 2 ∨ num s.data.toList 0 1 = 3 ∨ num s.data.toList 0 1 = 4 := by omega
  rcases hw with hw | hw | hw | hw
  · have hk' : ((s[0].toNat : Nat) : Int) = 1 := by rw [← num_first s h0, hw]; rfl
    have hcN : cN s.data.toList 1 = (num s.data.toList 1 5) := rfl
    have hcO : cOp s.data.toList 1 = 0 := rfl
    have hcB : cBy s.data.toList 1 = 0 := rfl
    have hLo : long 1 = 5 := rfl
    rw [hw, hcN, hcO, hcB]
    by_cases a1 : s.data.toList.length < 5
    · have e : takeCE s.data.toList = 10 := by unfold takeCE; rw [if_neg hn, hw, if_neg (by omega), hLo, if_pos a1]
      rw [e]
      exact rtakec1_torn s hne h0 hk' (by omega) w
    by_cases a2 : 5 < s.data.toList.length
    · have e : takeCE s.data.toList = 4 := by unfold takeCE; rw [if_neg hn, hw, if_neg (by omega), hLo, if_neg a1, if_pos a2]
      rw [e]
      exact rtakec1_long s hne h0 hk' (by omega) w
    have e : takeCE s.data.toList = ckC 1 (num s.data.toList 1 5) 0 0 := by unfold takeCE; rw [if_neg hn, hw, if_neg (by omega), hLo, if_neg a1, if_neg a2, hcN, hcO, hcB]
    have H := mayChange_any 1 (num s.data.toList 1 5) 0 0
    cases hm : mayC 1 (num s.data.toList 1 5) 0 0 with
    | true =>
      have e2 : ckC 1 (num s.data.toList 1 5) 0 0 = 0 := by simp [ckC, hm]
      rw [e, e2]
      rw [hm] at H
      exact rtakec1_ok s hne h0 hk' (by omega) (num s.data.toList 1 5) (Lib.hid fun w => rnum_any s 1 5 (by omega) (by omega) (by omega) hs w) H w
    | false =>
      have e2 : ckC 1 (num s.data.toList 1 5) 0 0 = 4 := by simp [ckC, hm]
      rw [e, e2]
      rw [hm] at H
      exact rtakec1_form s hne h0 hk' (by omega) (num s.data.toList 1 5) (Lib.hid fun w => rnum_any s 1 5 (by omega) (by omega) (by omega) hs w) H w
  · have hk' : ((s[0].toNat : Nat) : Int) = 2 := by rw [← num_first s h0, hw]; rfl
    have hcN : cN s.data.toList 2 = (num s.data.toList 1 5) := rfl
    have hcO : cOp s.data.toList 2 = 0 := rfl
    have hcB : cBy s.data.toList 2 = 0 := rfl
    have hLo : long 2 = 5 := rfl
    rw [hw, hcN, hcO, hcB]
    by_cases a1 : s.data.toList.length < 5
    · have e : takeCE s.data.toList = 10 := by unfold takeCE; rw [if_neg hn, hw, if_neg (by omega), hLo, if_pos a1]
      rw [e]
      exact rtakec2_torn s hne h0 hk' (by omega) w
    by_cases a2 : 5 < s.data.toList.length
    · have e : takeCE s.data.toList = 4 := by unfold takeCE; rw [if_neg hn, hw, if_neg (by omega), hLo, if_neg a1, if_pos a2]
      rw [e]
      exact rtakec2_long s hne h0 hk' (by omega) w
    have e : takeCE s.data.toList = ckC 2 (num s.data.toList 1 5) 0 0 := by unfold takeCE; rw [if_neg hn, hw, if_neg (by omega), hLo, if_neg a1, if_neg a2, hcN, hcO, hcB]
    have H := mayChange_any 2 (num s.data.toList 1 5) 0 0
    cases hm : mayC 2 (num s.data.toList 1 5) 0 0 with
    | true =>
      have e2 : ckC 2 (num s.data.toList 1 5) 0 0 = 0 := by simp [ckC, hm]
      rw [e, e2]
      rw [hm] at H
      exact rtakec2_ok s hne h0 hk' (by omega) (num s.data.toList 1 5) (Lib.hid fun w => rnum_any s 1 5 (by omega) (by omega) (by omega) hs w) H w
    | false =>
      have e2 : ckC 2 (num s.data.toList 1 5) 0 0 = 4 := by simp [ckC, hm]
      rw [e, e2]
      rw [hm] at H
      exact rtakec2_form s hne h0 hk' (by omega) (num s.data.toList 1 5) (Lib.hid fun w => rnum_any s 1 5 (by omega) (by omega) (by omega) hs w) H w
  · have hk' : ((s[0].toNat : Nat) : Int) = 3 := by rw [← num_first s h0, hw]; rfl
    have hcN : cN s.data.toList 3 = 0 := rfl
    have hcO : cOp s.data.toList 3 = (num s.data.toList 1 2) := rfl
    have hcB : cBy s.data.toList 3 = (num s.data.toList 2 10) := rfl
    have hLo : long 3 = 10 := rfl
    rw [hw, hcN, hcO, hcB]
    by_cases a1 : s.data.toList.length < 10
    · have e : takeCE s.data.toList = 10 := by unfold takeCE; rw [if_neg hn, hw, if_neg (by omega), hLo, if_pos a1]
      rw [e]
      exact rtakec3_torn s hne h0 hk' (by omega) w
    by_cases a2 : 10 < s.data.toList.length
    · have e : takeCE s.data.toList = 4 := by unfold takeCE; rw [if_neg hn, hw, if_neg (by omega), hLo, if_neg a1, if_pos a2]
      rw [e]
      exact rtakec3_long s hne h0 hk' (by omega) w
    have e : takeCE s.data.toList = ckC 3 0 (num s.data.toList 1 2) (num s.data.toList 2 10) := by unfold takeCE; rw [if_neg hn, hw, if_neg (by omega), hLo, if_neg a1, if_neg a2, hcN, hcO, hcB]
    have H := mayChange_any 3 0 (num s.data.toList 1 2) (num s.data.toList 2 10)
    have h1 : 1 < s.size := by omega
    have hO : ((s[1].toNat : Nat) : Int) = ((num s.data.toList 1 2 : Nat) : Int) := by
      have := num_step s 1 1 (Nat.le_refl _) h1
      rw [num_none] at this
      rw [this]; simp
    cases hm : mayC 3 0 (num s.data.toList 1 2) (num s.data.toList 2 10) with
    | true =>
      have e2 : ckC 3 0 (num s.data.toList 1 2) (num s.data.toList 2 10) = 0 := by simp [ckC, hm]
      rw [e, e2]
      rw [hm] at H
      exact rtakec3_ok s hne h0 hk' (by omega) (num s.data.toList 1 2) (num s.data.toList 2 10) (by omega) hO (Lib.hid fun w => rnum_any s 2 10 (by omega) (by omega) (by omega) hs w) H w
    | false =>
      have e2 : ckC 3 0 (num s.data.toList 1 2) (num s.data.toList 2 10) = 4 := by simp [ckC, hm]
      rw [e, e2]
      rw [hm] at H
      exact rtakec3_form s hne h0 hk' (by omega) (num s.data.toList 1 2) (num s.data.toList 2 10) (by omega) hO (Lib.hid fun w => rnum_any s 2 10 (by omega) (by omega) (by omega) hs w) H w
  · have hk' : ((s[0].toNat : Nat) : Int) = 4 := by rw [← num_first s h0, hw]; rfl
    have hcN : cN s.data.toList 4 = (num s.data.toList 1 9) := rfl
    have hcO : cOp s.data.toList 4 = 0 := rfl
    have hcB : cBy s.data.toList 4 = 0 := rfl
    have hLo : long 4 = 9 := rfl
    rw [hw, hcN, hcO, hcB]
    by_cases a1 : s.data.toList.length < 9
    · have e : takeCE s.data.toList = 10 := by unfold takeCE; rw [if_neg hn, hw, if_neg (by omega), hLo, if_pos a1]
      rw [e]
      exact rtakec4_torn s hne h0 hk' (by omega) w
    by_cases a2 : 9 < s.data.toList.length
    · have e : takeCE s.data.toList = 4 := by unfold takeCE; rw [if_neg hn, hw, if_neg (by omega), hLo, if_neg a1, if_pos a2]
      rw [e]
      exact rtakec4_long s hne h0 hk' (by omega) w
    have e : takeCE s.data.toList = ckC 4 (num s.data.toList 1 9) 0 0 := by unfold takeCE; rw [if_neg hn, hw, if_neg (by omega), hLo, if_neg a1, if_neg a2, hcN, hcO, hcB]
    have H := mayChange_any 4 (num s.data.toList 1 9) 0 0
    cases hm : mayC 4 (num s.data.toList 1 9) 0 0 with
    | true =>
      have e2 : ckC 4 (num s.data.toList 1 9) 0 0 = 0 := by simp [ckC, hm]
      rw [e, e2]
      rw [hm] at H
      exact rtakec4_ok s hne h0 hk' (by omega) (num s.data.toList 1 9) (Lib.hid fun w => rnum_any s 1 9 (by omega) (by omega) (by omega) hs w) H w
    | false =>
      have e2 : ckC 4 (num s.data.toList 1 9) 0 0 = 4 := by simp [ckC, hm]
      rw [e, e2]
      rw [hm] at H
      exact rtakec4_form s hne h0 hk' (by omega) (num s.data.toList 1 9) (Lib.hid fun w => rnum_any s 1 9 (by omega) (by omega) (by omega) hs w) H w
end Go.Proofs.YthledgkjfjdjoaaGreat.Mt
