/- The superblock that a text is, as the document has it. Conditions: lengths below 2^30. -/
import Derived.Test.YtlidieffaaicaaaGreatSuE
import Derived.Test.YtlidieffaaicaaaGreatSuD
namespace Go.Proofs.YtlidieffaaicaaaGreat
open Go.ChangeShapes Go.WideShapes Go.RowKit Go.Codec Go.Super
set_option maxRecDepth 100000
set_option linter.unusedSimpArgs false
set_option maxHeartbeats 4000000 in
theorem rtake_err (s : ByteArray) (g i : Nat) (t : ByteArray) (x : Int) (hx : ¬ x = 0) (HU : Hid (∀ w, Calls Tryz.prog 95 #[.string s] w fun e w' => e = .returned (.tuple #[.int .u64 g, .int .u32 i, .string t, .int .i64 x]) ∧ Below w.heap.size w w')) (w : World) :
    Calls Tryz.prog 62 #[.string s] w fun e w' => e = .returned (.tuple #[.agg #[.int .u64 0, .int .u64 0, .int .i64 0, .int .i64 0, .int .i64 0], .int .i64 x]) ∧ Below w.heap.size w w' := by
  have HX := Lib.hid (Box.new w 45 #[.int .u64 0, .int .u64 0, .int .i64 0, .int .i64 0, .int .i64 0])
  go_enter Tryz.func62, Tryz.ntmps62
  go_wp2_with fail
  refine (HU.out _).mono ?_; rintro e w1 ⟨rfl, hb⟩
  have HA := Lib.hid (HX.out.later hb)
  clear hb HX
  obtain ⟨c0, c1, c2, c3, c4⟩ := HA.out.c5
  have f0 := HA.out.one.frozen 0; have f1 := HA.out.one.frozen 1; have f2 := HA.out.one.frozen 2; have f3 := HA.out.one.frozen 3; have f4 := HA.out.one.frozen 4
  have hlt := HA.out.one.lt
  go_wp2_with fail
  have HF := Lib.hid (Box.five (a' := .int .u64 0) (b' := .int .u64 0) (c' := .int .i64 0) (d' := .int .i64 0) (e' := .int .i64 0) HA.out)
  obtain ⟨d0, d1, d2, d3, d4⟩ := HF.out.c5
  exact bodyPost_ret (v := .tuple #[.agg #[.int .u64 0, .int .u64 0, .int .i64 0, .int .i64 0, .int .i64 0], .int .i64 x]) (by simp [results, Tryz.results62, go_sem, d0, d1, d2, d3, d4, hlt]) rfl ⟨rfl, HF.out.below⟩
set_option maxHeartbeats 4000000 in
theorem rtake_form (s : ByteArray) (g i : Nat) (t : ByteArray) (hx : ¬ s.size = 128 ∨ ¬ i = 0 ∨ ¬ t.size = 14) (HU : Hid (∀ w, Calls Tryz.prog 95 #[.string s] w fun e w' => e = .returned (.tuple #[.int .u64 g, .int .u32 i, .string t, .int .i64 0]) ∧ Below w.heap.size w w')) (w : World) :
    Calls Tryz.prog 62 #[.string s] w fun e w' => e = .returned (.tuple #[.agg #[.int .u64 0, .int .u64 0, .int .i64 0, .int .i64 0, .int .i64 0], .int .i64 4]) ∧ Below w.heap.size w w' := by
  have HX := Lib.hid (Box.new w 45 #[.int .u64 0, .int .u64 0, .int .i64 0, .int .i64 0, .int .i64 0])
  have hfin : ∀ w1, Below (w.alloc (.cells #[.int .u64 0, .int .u64 0, .int .i64 0, .int .i64 0, .int .i64 0] 45)).heap.size (w.alloc (.cells #[.int .u64 0, .int .u64 0, .int .i64 0, .int .i64 0, .int .i64 0] 45)) w1 → Box w 45 #[.int .u64 0, .int .u64 0, .int .i64 0, .int .i64 0, .int .i64 0] w1 := fun w1 hb => HX.out.later hb
  have HFI := Lib.hid hfin
  clear hfin HX
  by_cases h1 : s.size = 128
  · have g1 : (s.size : Int) = 128 := by omega
    by_cases h2 : i = 0
    · have g2 : (i : Int) = 0 := by omega
      have g3 : ¬ (t.size : Int) = 14 := by omega
      clear hx h1 h2
      go_enter Tryz.func62, Tryz.ntmps62
      go_wp2_with fail
      refine (HU.out _).mono ?_; rintro e w1 ⟨rfl, hb⟩
      have HA := Lib.hid (HFI.out _ hb)
      clear hb HFI
      obtain ⟨c0, c1, c2, c3, c4⟩ := HA.out.c5
      have f0 := HA.out.one.frozen 0; have f1 := HA.out.one.frozen 1; have f2 := HA.out.one.frozen 2; have f3 := HA.out.one.frozen 3; have f4 := HA.out.one.frozen 4
      have hlt := HA.out.one.lt
      go_wp2_with fail
      have HF := Lib.hid (Box.five (a' := .int .u64 0) (b' := .int .u64 0) (c' := .int .i64 0) (d' := .int .i64 0) (e' := .int .i64 0) HA.out)
      obtain ⟨d0, d1, d2, d3, d4⟩ := HF.out.c5
      exact bodyPost_ret (v := .tuple #[.agg #[.int .u64 0, .int .u64 0, .int .i64 0, .int .i64 0, .int .i64 0], .int .i64 4]) (by simp [results, Tryz.results62, go_sem, d0, d1, d2, d3, d4, hlt]) rfl ⟨rfl, HF.out.below⟩
    · have g2 : ¬ (i : Int) = 0 := by omega
      clear hx h1 h2
      go_enter Tryz.func62, Tryz.ntmps62
      go_wp2_with fail
      refine (HU.out _).mono ?_; rintro e w1 ⟨rfl, hb⟩
      have HA := Lib.hid (HFI.out _ hb)
      clear hb HFI
      obtain ⟨c0, c1, c2, c3, c4⟩ := HA.out.c5
      have f0 := HA.out.one.frozen 0; have f1 := HA.out.one.frozen 1; have f2 := HA.out.one.frozen 2; have f3 := HA.out.one.frozen 3; have f4 := HA.out.one.frozen 4
      have hlt := HA.out.one.lt
      go_wp2_with fail
      have HF := Lib.hid (Box.five (a' := .int .u64 0) (b' := .int .u64 0) (c' := .int .i64 0) (d' := .int .i64 0) (e' := .int .i64 0) HA.out)
      obtain ⟨d0, d1, d2, d3, d4⟩ := HF.out.c5
      exact bodyPost_ret (v := .tuple #[.agg #[.int .u64 0, .int .u64 0, .int .i64 0, .int .i64 0, .int .i64 0], .int .i64 4]) (by simp [results, Tryz.results62, go_sem, d0, d1, d2, d3, d4, hlt]) rfl ⟨rfl, HF.out.below⟩
  · have g1 : ¬ (s.size : Int) = 128 := by omega
    clear hx h1
    go_enter Tryz.func62, Tryz.ntmps62
    go_wp2_with fail
    refine (HU.out _).mono ?_; rintro e w1 ⟨rfl, hb⟩
    have HA := Lib.hid (HFI.out _ hb)
    clear hb HFI
    obtain ⟨c0, c1, c2, c3, c4⟩ := HA.out.c5
    have f0 := HA.out.one.frozen 0; have f1 := HA.out.one.frozen 1; have f2 := HA.out.one.frozen 2; have f3 := HA.out.one.frozen 3; have f4 := HA.out.one.frozen 4
    have hlt := HA.out.one.lt
    go_wp2_with fail
    have HF := Lib.hid (Box.five (a' := .int .u64 0) (b' := .int .u64 0) (c' := .int .i64 0) (d' := .int .i64 0) (e' := .int .i64 0) HA.out)
    obtain ⟨d0, d1, d2, d3, d4⟩ := HF.out.c5
    exact bodyPost_ret (v := .tuple #[.agg #[.int .u64 0, .int .u64 0, .int .i64 0, .int .i64 0, .int .i64 0], .int .i64 4]) (by simp [results, Tryz.results62, go_sem, d0, d1, d2, d3, d4, hlt]) rfl ⟨rfl, HF.out.below⟩
set_option maxHeartbeats 4000000 in
theorem rtake_not (s : ByteArray) (g : Nat) (t : List UInt8) (h1 : s.size = 128) (ht : t.length = 14) (hok : ¬ (Super.told g t).Ok) (HU : Hid (∀ w, Calls Tryz.prog 95 #[.string s] w fun e w' => e = .returned (.tuple #[.int .u64 g, .int .u32 0, .string (bs t), .int .i64 0]) ∧ Below w.heap.size w w')) (w : World) :
    Calls Tryz.prog 62 #[.string s] w fun e w' => e = .returned (.tuple #[.agg #[.int .u64 0, .int .u64 0, .int .i64 0, .int .i64 0, .int .i64 0], .int .i64 4]) ∧ Below w.heap.size w w' := by
  obtain ⟨v1, e1⟩ : ∃ v, v = val (t.take 8) := ⟨_, rfl⟩
  obtain ⟨v2, e2⟩ : ∃ v, v = val ((t.drop 8).take 2) := ⟨_, rfl⟩
  obtain ⟨v3, e3⟩ : ∃ v, v = val ((t.drop 10).take 2) := ⟨_, rfl⟩
  obtain ⟨v4, e4⟩ : ∃ v, v = val ((t.drop 12).take 2) := ⟨_, rfl⟩
  have l2 : v2 < 65536 := by rw [e2]; exact val2 (by rw [List.length_take, List.length_drop]; omega)
  have l3 : v3 < 65536 := by rw [e3]; exact val2 (by rw [List.length_take, List.length_drop]; omega)
  have l4 : v4 < 65536 := by rw [e4]; exact val2 (by rw [List.length_take, List.length_drop]; omega)
  have g1 : (s.size : Int) = 128 := by omega
  have g3 : ((bs t).size : Int) = 14 := by rw [bs_size]; omega
  have g4 : (bs t).size = 14 := by omega
  have hmay := fun w' => rmay_c g v1 (v2 : Nat) (v3 : Nat) (v4 : Nat) w'
  rw [e1, e2, e3, e4] at hmay
  change ∀ w' : World, Calls Tryz.prog 69 _ w' (fun e w'' => e = .returned (.bool (decide (Super.told g t).Ok)) ∧ _) at hmay
  simp only [hok, decide_false] at hmay
  rw [← e1, ← e2, ← e3, ← e4] at hmay
  have HM := Lib.hid hmay
  have T1 := Lib.hid (fun w' => told_ext (bs t) 0 8 (by omega) w')
  have T2 := Lib.hid (fun w' => told_ext (bs t) 8 10 (by omega) w')
  have T3 := Lib.hid (fun w' => told_ext (bs t) 10 12 (by omega) w')
  have T4 := Lib.hid (fun w' => told_ext (bs t) 12 14 (by omega) w')
  rw [ext_list, bs_list, List.drop_zero] at T1
  rw [ext_list, bs_list] at T2 T3 T4
  rw [← e1] at T1
  rw [← e2] at T2
  rw [← e3] at T3
  rw [← e4] at T4
  clear hmay hok e1 e2 e3 e4 h1 ht
  generalize bs t = tt at *
  have HX := Lib.hid (Box.new w 45 #[.int .u64 0, .int .u64 0, .int .i64 0, .int .i64 0, .int .i64 0])
  go_enter Tryz.func62, Tryz.ntmps62
  go_wp2_with fail
  refine (HU.out _).mono ?_; rintro e w1 ⟨rfl, hb⟩
  have HA := Lib.hid (HX.out.later hb)
  clear hb HX HU
  go_wp2_with fail
  refine (T1.out _).mono ?_; rintro e w2 ⟨rfl, rfl⟩
  go_wp2_with fail
  have hk := B2.new HA.out #[.int .u64 g, .int .u64 v1, .int .i64 0, .int .i64 0, .int .i64 0]
  obtain ⟨X, hX⟩ : ∃ X, X = w1.heap.size := ⟨_, rfl⟩
  obtain ⟨W, hW⟩ : ∃ W, W = w1.alloc (.cells #[.int .u64 g, .int .u64 v1, .int .i64 0, .int .i64 0, .int .i64 0] 45) := ⟨_, rfl⟩
  rw [← hX, ← hW] at hk
  rw [← hW, ← hX]
  clear hX hW HA
  refine (T2.out _).mono ?_; rintro e w3 ⟨rfl, rfl⟩
  have k2 := hk.two.cell 2
  have f2 := hk.two.frozen 2
  have HK := Lib.hid (hk.put 2 (.int .i64 (v2 : Nat)))
  clear hk
  go_wp2_with fail
  clear k2 f2
  have hk := HK.out
  generalize W.setCell ⟨X, 2, none⟩ (.int .i64 (v2 : Nat)) = W2 at *
  refine (T3.out _).mono ?_; rintro e w3 ⟨rfl, rfl⟩
  have k2 := hk.two.cell 3
  have f2 := hk.two.frozen 3
  have HK3 := Lib.hid (hk.put 3 (.int .i64 (v3 : Nat)))
  clear hk HK
  go_wp2_with fail
  clear k2 f2
  have hk := HK3.out
  generalize W2.setCell ⟨X, 3, none⟩ (.int .i64 (v3 : Nat)) = W3 at *
  refine (T4.out _).mono ?_; rintro e w3 ⟨rfl, rfl⟩
  have k2 := hk.two.cell 4
  have f2 := hk.two.frozen 4
  have HK4 := Lib.hid (hk.put 4 (.int .i64 (v4 : Nat)))
  have hk4 := HK4.out
  obtain ⟨W4, hW4⟩ : ∃ W4, W4 = W3.setCell ⟨X, 4, none⟩ (.int .i64 (v4 : Nat)) := ⟨_, rfl⟩
  clear hk HK3 HK4
  rw [← hW4] at hk4
  have hkk : B2 w 45 #[.int .u64 0, .int .u64 0, .int .i64 0, .int .i64 0, .int .i64 0] X #[.int .u64 g, .int .u64 v1, .int .i64 (v2 : Nat), .int .i64 (v3 : Nat), .int .i64 (v4 : Nat)] W4 := hk4
  have HK5 := Lib.hid hkk
  clear hk4 hkk
  obtain ⟨m0, m1, m2, m3, m4⟩ := is5 HK5.out.two
  rw [hW4] at m0 m1 m2 m3 m4
  go_wp2_with fail
  clear m0 m1 m2 m3 m4 k2 f2
  rw [← hW4]
  clear hW4
  refine (HM.out _).mono ?_; rintro e w7 ⟨rfl, hb⟩
  have HA := Lib.hid (HK5.out.box.later hb)
  clear hb HK5
  obtain ⟨c0, c1, c2, c3, c4⟩ := HA.out.c5
  have f0 := HA.out.one.frozen 0; have f1 := HA.out.one.frozen 1; have f2 := HA.out.one.frozen 2; have f3 := HA.out.one.frozen 3; have f4 := HA.out.one.frozen 4
  have hlt := HA.out.one.lt
  go_wp2_with fail
  have HF := Lib.hid (Box.five (a' := .int .u64 0) (b' := .int .u64 0) (c' := .int .i64 0) (d' := .int .i64 0) (e' := .int .i64 0) HA.out)
  obtain ⟨d0, d1, d2, d3, d4⟩ := HF.out.c5
  exact bodyPost_ret (v := .tuple #[.agg #[.int .u64 0, .int .u64 0, .int .i64 0, .int .i64 0, .int .i64 0], .int .i64 4]) (by simp [results, Tryz.results62, go_sem, d0, d1, d2, d3, d4, hlt]) rfl ⟨rfl, HF.out.below⟩
set_option maxHeartbeats 4000000 in
theorem rtake_good (s : ByteArray) (g : Nat) (t : List UInt8) (h1 : s.size = 128) (ht : t.length = 14) (hok : (Super.told g t).Ok) (HU : Hid (∀ w, Calls Tryz.prog 95 #[.string s] w fun e w' => e = .returned (.tuple #[.int .u64 g, .int .u32 0, .string (bs t), .int .i64 0]) ∧ Below w.heap.size w w')) (w : World) :
    Calls Tryz.prog 62 #[.string s] w fun e w' => e = .returned (.tuple #[.agg #[.int .u64 (Super.told g t).gen, .int .u64 (Super.told g t).calls, .int .i64 (Super.told g t).root, .int .i64 (Super.told g t).table, .int .i64 (Super.told g t).secs], .int .i64 0]) ∧ Below w.heap.size w w' := by
  obtain ⟨v1, e1⟩ : ∃ v, v = val (t.take 8) := ⟨_, rfl⟩
  obtain ⟨v2, e2⟩ : ∃ v, v = val ((t.drop 8).take 2) := ⟨_, rfl⟩
  obtain ⟨v3, e3⟩ : ∃ v, v = val ((t.drop 10).take 2) := ⟨_, rfl⟩
  obtain ⟨v4, e4⟩ : ∃ v, v = val ((t.drop 12).take 2) := ⟨_, rfl⟩
  have l2 : v2 < 65536 := by rw [e2]; exact val2 (by rw [List.length_take, List.length_drop]; omega)
  have l3 : v3 < 65536 := by rw [e3]; exact val2 (by rw [List.length_take, List.length_drop]; omega)
  have l4 : v4 < 65536 := by rw [e4]; exact val2 (by rw [List.length_take, List.length_drop]; omega)
  have g1 : (s.size : Int) = 128 := by omega
  have g3 : ((bs t).size : Int) = 14 := by rw [bs_size]; omega
  have g4 : (bs t).size = 14 := by omega
  have hmay := fun w' => rmay_c g v1 (v2 : Nat) (v3 : Nat) (v4 : Nat) w'
  rw [e1, e2, e3, e4] at hmay
  change ∀ w' : World, Calls Tryz.prog 69 _ w' (fun e w'' => e = .returned (.bool (decide (Super.told g t).Ok)) ∧ _) at hmay
  simp only [hok, decide_true] at hmay
  rw [← e1, ← e2, ← e3, ← e4] at hmay
  have HM := Lib.hid hmay
  have T1 := Lib.hid (fun w' => told_ext (bs t) 0 8 (by omega) w')
  have T2 := Lib.hid (fun w' => told_ext (bs t) 8 10 (by omega) w')
  have T3 := Lib.hid (fun w' => told_ext (bs t) 10 12 (by omega) w')
  have T4 := Lib.hid (fun w' => told_ext (bs t) 12 14 (by omega) w')
  rw [ext_list, bs_list, List.drop_zero] at T1
  rw [ext_list, bs_list] at T2 T3 T4
  rw [← e1] at T1
  rw [← e2] at T2
  rw [← e3] at T3
  rw [← e4] at T4
  have E1 := Lib.hid e1; have E2 := Lib.hid e2; have E3 := Lib.hid e3; have E4 := Lib.hid e4
  clear hmay hok e1 e2 e3 e4 h1 ht
  generalize bs t = tt at *
  have HX := Lib.hid (Box.new w 45 #[.int .u64 0, .int .u64 0, .int .i64 0, .int .i64 0, .int .i64 0])
  go_enter Tryz.func62, Tryz.ntmps62
  go_wp2_with fail
  refine (HU.out _).mono ?_; rintro e w1 ⟨rfl, hb⟩
  have HA := Lib.hid (HX.out.later hb)
  clear hb HX HU
  go_wp2_with fail
  refine (T1.out _).mono ?_; rintro e w2 ⟨rfl, rfl⟩
  go_wp2_with fail
  have hk := B2.new HA.out #[.int .u64 g, .int .u64 v1, .int .i64 0, .int .i64 0, .int .i64 0]
  obtain ⟨X, hX⟩ : ∃ X, X = w1.heap.size := ⟨_, rfl⟩
  obtain ⟨W, hW⟩ : ∃ W, W = w1.alloc (.cells #[.int .u64 g, .int .u64 v1, .int .i64 0, .int .i64 0, .int .i64 0] 45) := ⟨_, rfl⟩
  rw [← hX, ← hW] at hk
  rw [← hW, ← hX]
  clear hX hW HA
  refine (T2.out _).mono ?_; rintro e w3 ⟨rfl, rfl⟩
  have k2 := hk.two.cell 2
  have f2 := hk.two.frozen 2
  have HK := Lib.hid (hk.put 2 (.int .i64 (v2 : Nat)))
  clear hk
  go_wp2_with fail
  clear k2 f2
  have hk := HK.out
  generalize W.setCell ⟨X, 2, none⟩ (.int .i64 (v2 : Nat)) = W2 at *
  refine (T3.out _).mono ?_; rintro e w3 ⟨rfl, rfl⟩
  have k2 := hk.two.cell 3
  have f2 := hk.two.frozen 3
  have HK3 := Lib.hid (hk.put 3 (.int .i64 (v3 : Nat)))
  clear hk HK
  go_wp2_with fail
  clear k2 f2
  have hk := HK3.out
  generalize W2.setCell ⟨X, 3, none⟩ (.int .i64 (v3 : Nat)) = W3 at *
  refine (T4.out _).mono ?_; rintro e w3 ⟨rfl, rfl⟩
  have k2 := hk.two.cell 4
  have f2 := hk.two.frozen 4
  have HK4 := Lib.hid (hk.put 4 (.int .i64 (v4 : Nat)))
  have hk4 := HK4.out
  obtain ⟨W4, hW4⟩ : ∃ W4, W4 = W3.setCell ⟨X, 4, none⟩ (.int .i64 (v4 : Nat)) := ⟨_, rfl⟩
  clear hk HK3 HK4
  rw [← hW4] at hk4
  have hkk : B2 w 45 #[.int .u64 0, .int .u64 0, .int .i64 0, .int .i64 0, .int .i64 0] X #[.int .u64 g, .int .u64 v1, .int .i64 (v2 : Nat), .int .i64 (v3 : Nat), .int .i64 (v4 : Nat)] W4 := hk4
  have HK5 := Lib.hid hkk
  clear hk4 hkk
  obtain ⟨m0, m1, m2, m3, m4⟩ := is5 HK5.out.two
  rw [hW4] at m0 m1 m2 m3 m4
  go_wp2_with fail
  clear m0 m1 m2 m3 m4 k2 f2
  rw [← hW4]
  clear hW4
  refine (HM.out _).mono ?_; rintro e w7 ⟨rfl, hb⟩
  have HH := Lib.hid (HK5.out.later hb)
  have HA := Lib.hid HH.out.box
  clear hb HK5
  obtain ⟨k0, k1, k2, k3, k4⟩ := is5 HH.out.two
  obtain ⟨c0, c1, c2, c3, c4⟩ := HA.out.c5
  have f0 := HA.out.one.frozen 0; have f1 := HA.out.one.frozen 1; have f2 := HA.out.one.frozen 2; have f3 := HA.out.one.frozen 3; have f4 := HA.out.one.frozen 4
  have hlt := HA.out.one.lt
  clear HH
  go_wp2_with fail
  have HF := Lib.hid (Box.five (a' := .int .u64 g) (b' := .int .u64 v1) (c' := .int .i64 (v2 : Nat)) (d' := .int .i64 (v3 : Nat)) (e' := .int .i64 (v4 : Nat)) HA.out)
  obtain ⟨d0, d1, d2, d3, d4⟩ := HF.out.c5
  exact bodyPost_ret (v := .tuple #[.agg #[.int .u64 g, .int .u64 v1, .int .i64 (v2 : Nat), .int .i64 (v3 : Nat), .int .i64 (v4 : Nat)], .int .i64 0]) (by simp [results, Tryz.results62, go_sem, d0, d1, d2, d3, d4, hlt]) rfl ⟨by rw [E1.out, E2.out, E3.out, E4.out]; rfl, HF.out.below⟩
theorem rtake_c (s : ByteArray) (hs : s.size ≤ 1073741824) (w : World) : Calls Tryz.prog 62 #[.string s] w fun e w' => e = .returned (.tuple #[.agg #[.int .u64 (tk s.data.toList).1.gen, .int .u64 (tk s.data.toList).1.calls, .int .i64 (tk s.data.toList).1.root, .int .i64 (tk s.data.toList).1.table, .int .i64 (tk s.data.toList).1.secs], .int .i64 (tk s.data.toList).2]) ∧ Below w.heap.size w w' := by
  have HU := Lib.hid (fun w => run_any s hs w)
  have hl := Lib.size_eq s
  unfold tk
  rw [← hl]
  obtain ⟨u, hu⟩ : ∃ u, Seal.unstamp s.data.toList = u := ⟨_, rfl⟩
  rw [hu] at HU ⊢
  clear hu hl
  obtain ⟨g, i, t, x⟩ := u
  simp only at HU ⊢
  by_cases hx : x = 0
  · subst hx
    rw [if_neg (by simp)]
    by_cases h1 : ¬ s.size = 128 ∨ ¬ i = 0 ∨ ¬ t.length = 14
    · rw [if_pos h1]
      exact rtake_form s g i (bs t) (by rw [bs_size]; exact h1) HU w
    · rw [if_neg h1]
      have h2 : s.size = 128 := by omega
      have h3 : t.length = 14 := by omega
      obtain rfl : i = 0 := by omega
      by_cases hok : (Super.told g t).Ok
      · rw [if_pos hok]
        exact rtake_good s g t h2 h3 hok HU w
      · rw [if_neg hok]
        exact rtake_not s g t h2 h3 hok HU w
  · rw [if_pos hx]
    exact rtake_err s g i (bs t) x hx HU w
end Go.Proofs.YtlidieffaaicaaaGreat
