/- What stands behind a patch: walked. Conditions: none. -/
import Derived.Test.YtadfccgoooafoaaBkO
namespace Go.Proofs.Ytadfccgoooafoaa
open Go.ChangeShapes Go.WideShapes Go.RowKit Go.Codec Go.Blk
set_option maxRecDepth 100000
set_option linter.unusedSimpArgs false
set_option linter.unusedVariables false
theorem Box.s2 {w wx : World} {t : TypeId} {a b c d : Value} (h : Box w t #[a, b, c, d] wx) : wx.cell? ⟨w.heap.size, 2, none⟩ = some c := h.one.cell 2
set_option maxHeartbeats 8000000 in
theorem splices_Ne (v v' t T A : ByteArray) (hv : v.size ≤ 3000) (ht : t.size ≤ 64) (hv' : v.extract 0 (min (v.size : Int) 64).toNat = v') (hA : A.size ≤ 64) (w : World)
    (c : Bool) (a n : Int)
    (hA0 : A.toList.isEmpty = true)
    (H1 : ∀ wx, Box w 30 #[.bool c, .int .i64 a, .int .i64 n, .string t] wx → Calls Try.prog 16 #[.agg #[.bool c, .int .i64 a, .int .i64 n, .string t]] wx fun e w' => e = .returned (.tuple #[.string T, .int .i64 4]) ∧ Box w 30 #[.bool c, .int .i64 a, .int .i64 n, .string t] w')
    (H2 : ∀ wx, Box w 30 #[.bool c, .int .i64 a, .int .i64 n, .string t] wx → Calls Try.prog 20 #[.string v, .agg #[.bool c, .int .i64 a, .int .i64 n, .string t]] wx fun e w' => e = .returned (.string A) ∧ Box w 30 #[.bool c, .int .i64 a, .int .i64 n, .string t] w')
    (H3 : ∀ wx, Box w 30 #[.bool c, .int .i64 a, .int .i64 n, .string t] wx → Calls Try.prog 12 #[.string A] wx fun e w' => e = .returned (.string A) ∧ Box w 30 #[.bool c, .int .i64 a, .int .i64 n, .string t] w')
    (H4 : ∀ wx, Box w 30 #[.bool c, .int .i64 a, .int .i64 n, .string t] wx → Calls Try.prog 20 #[.string A, .agg #[.bool c, .int .i64 a, .int .i64 n, .string t]] wx fun e w' => e = .returned (.string A) ∧ Box w 30 #[.bool c, .int .i64 a, .int .i64 n, .string t] w')
    (H6 : ∀ wx, Box w 30 #[.bool c, .int .i64 a, .int .i64 n, .string t] wx → Calls Try.prog 12 #[.string v'] wx fun e w' => e = .returned (.string A) ∧ Box w 30 #[.bool c, .int .i64 a, .int .i64 n, .string t] w')
    (HW : ∀ wx, Box w 30 #[.bool c, .int .i64 a, .int .i64 n, .string t] wx → Calls Try.prog 9 #[] wx fun e w' => e = .returned (.bool true) ∧ Box w 30 #[.bool c, .int .i64 a, .int .i64 n, .string t] w') :
    Calls Try.prog 7 #[.string v, .agg #[.bool c, .int .i64 a, .int .i64 n, .string t]] w fun e w' => e = .returned (.bool true) ∧ Below w.heap.size w w' := by
  have HX := Lib.hid (Box.new w 30 #[.bool c, .int .i64 a, .int .i64 n, .string t])
  have CH1 := Lib.hid H1; clear H1
  have CH2 := Lib.hid H2; clear H2
  have CH3 := Lib.hid H3; clear H3
  have CH4 := Lib.hid H4; clear H4
  have CH6 := Lib.hid H6; clear H6
  have CHW := Lib.hid HW; clear HW
  go_enter Try.func7, Try.ntmps7
  go_wp2_with fail
  refine (CH1.out _ HX.out).mono ?_; rintro e w1 ⟨rfl, hb⟩
  replace HX := Lib.hid hb; clear hb
  obtain ⟨c0, c1, c2, c3⟩ := HX.out.cells
  go_wp2_with fail
  clear c0 c1 c2 c3
  refine (CH2.out _ HX.out).mono ?_; rintro e w2 ⟨rfl, hb⟩
  replace HX := Lib.hid hb; clear hb
  go_wp2_with fail
  refine (CH3.out _ HX.out).mono ?_; rintro e w3 ⟨rfl, hb⟩
  replace HX := Lib.hid hb; clear hb
  obtain ⟨c0, c1, c2, c3⟩ := HX.out.cells
  go_wp2_with fail
  clear c0 c1 c2 c3
  refine (CH4.out _ HX.out).mono ?_; rintro e w4 ⟨rfl, hb⟩
  replace HX := Lib.hid hb; clear hb
  obtain ⟨c0, c1, c2, c3⟩ := HX.out.cells
  go_wp2_with fail
  clear c0 c1 c2 c3
  refine (CH6.out _ HX.out).mono ?_; rintro e w6 ⟨rfl, hb⟩
  replace HX := Lib.hid hb; clear hb
  go_wp2_with fail
  refine (CHW.out _ HX.out).mono ?_; rintro e w7 ⟨rfl, hb⟩
  go_wp2_with fail
  go_ret
  exact ⟨rfl, hb.below⟩
set_option maxHeartbeats 8000000 in
theorem splices_Nf (v v' t T A : ByteArray) (hv : v.size ≤ 3000) (ht : t.size ≤ 64) (hv' : v.extract 0 (min (v.size : Int) 64).toNat = v') (hA : A.size ≤ 64) (w : World)
    (c : Bool) (a n : Int)
    (hA0 : A.toList.isEmpty = false)
    (H1 : ∀ wx, Box w 30 #[.bool c, .int .i64 a, .int .i64 n, .string t] wx → Calls Try.prog 16 #[.agg #[.bool c, .int .i64 a, .int .i64 n, .string t]] wx fun e w' => e = .returned (.tuple #[.string T, .int .i64 4]) ∧ Box w 30 #[.bool c, .int .i64 a, .int .i64 n, .string t] w')
    (H2 : ∀ wx, Box w 30 #[.bool c, .int .i64 a, .int .i64 n, .string t] wx → Calls Try.prog 20 #[.string v, .agg #[.bool c, .int .i64 a, .int .i64 n, .string t]] wx fun e w' => e = .returned (.string A) ∧ Box w 30 #[.bool c, .int .i64 a, .int .i64 n, .string t] w')
    (H3 : ∀ wx, Box w 30 #[.bool c, .int .i64 a, .int .i64 n, .string t] wx → Calls Try.prog 12 #[.string A] wx fun e w' => e = .returned (.string A) ∧ Box w 30 #[.bool c, .int .i64 a, .int .i64 n, .string t] w')
    (H4 : ∀ wx, Box w 30 #[.bool c, .int .i64 a, .int .i64 n, .string t] wx → Calls Try.prog 20 #[.string A, .agg #[.bool c, .int .i64 a, .int .i64 n, .string t]] wx fun e w' => e = .returned (.string A) ∧ Box w 30 #[.bool c, .int .i64 a, .int .i64 n, .string t] w')
    (H5 : ∀ wx, Box w 30 #[.bool c, .int .i64 a, .int .i64 n, .string t] wx → Calls Try.prog 10 #[.string A] wx fun e w' => e = .returned (.int .i64 0) ∧ Box w 30 #[.bool c, .int .i64 a, .int .i64 n, .string t] w')
    (H6 : ∀ wx, Box w 30 #[.bool c, .int .i64 a, .int .i64 n, .string t] wx → Calls Try.prog 12 #[.string v'] wx fun e w' => e = .returned (.string A) ∧ Box w 30 #[.bool c, .int .i64 a, .int .i64 n, .string t] w')
    (HW : ∀ wx, Box w 30 #[.bool c, .int .i64 a, .int .i64 n, .string t] wx → Calls Try.prog 9 #[] wx fun e w' => e = .returned (.bool true) ∧ Box w 30 #[.bool c, .int .i64 a, .int .i64 n, .string t] w') :
    Calls Try.prog 7 #[.string v, .agg #[.bool c, .int .i64 a, .int .i64 n, .string t]] w fun e w' => e = .returned (.bool true) ∧ Below w.heap.size w w' := by
  have HX := Lib.hid (Box.new w 30 #[.bool c, .int .i64 a, .int .i64 n, .string t])
  have CH1 := Lib.hid H1; clear H1
  have CH2 := Lib.hid H2; clear H2
  have CH3 := Lib.hid H3; clear H3
  have CH4 := Lib.hid H4; clear H4
  have CH5 := Lib.hid H5; clear H5
  have CH6 := Lib.hid H6; clear H6
  have CHW := Lib.hid HW; clear HW
  go_enter Try.func7, Try.ntmps7
  go_wp2_with fail
  refine (CH1.out _ HX.out).mono ?_; rintro e w1 ⟨rfl, hb⟩
  replace HX := Lib.hid hb; clear hb
  obtain ⟨c0, c1, c2, c3⟩ := HX.out.cells
  go_wp2_with fail
  clear c0 c1 c2 c3
  refine (CH2.out _ HX.out).mono ?_; rintro e w2 ⟨rfl, hb⟩
  replace HX := Lib.hid hb; clear hb
  go_wp2_with fail
  refine (CH3.out _ HX.out).mono ?_; rintro e w3 ⟨rfl, hb⟩
  replace HX := Lib.hid hb; clear hb
  obtain ⟨c0, c1, c2, c3⟩ := HX.out.cells
  go_wp2_with fail
  clear c0 c1 c2 c3
  refine (CH4.out _ HX.out).mono ?_; rintro e w4 ⟨rfl, hb⟩
  replace HX := Lib.hid hb; clear hb
  obtain ⟨c0, c1, c2, c3⟩ := HX.out.cells
  go_wp2_with fail
  clear c0 c1 c2 c3
  refine (CH5.out _ HX.out).mono ?_; rintro e w5 ⟨rfl, hb⟩
  replace HX := Lib.hid hb; clear hb
  obtain ⟨c0, c1, c2, c3⟩ := HX.out.cells
  go_wp2_with fail
  clear c0 c1 c2 c3
  refine (CH6.out _ HX.out).mono ?_; rintro e w6 ⟨rfl, hb⟩
  replace HX := Lib.hid hb; clear hb
  go_wp2_with fail
  refine (CHW.out _ HX.out).mono ?_; rintro e w7 ⟨rfl, hb⟩
  go_wp2_with fail
  go_ret
  exact ⟨rfl, hb.below⟩
set_option maxHeartbeats 8000000 in
theorem splices_Ce (v v' t T A : ByteArray) (hv : v.size ≤ 3000) (ht : t.size ≤ 64) (hv' : v.extract 0 (min (v.size : Int) 64).toNat = v') (hA : A.size ≤ 64) (w : World)
    (n : Int) (hn : (A.size : Int) ≤ n)
    (hA0 : A.toList.isEmpty = true)
    (H1 : ∀ wx, Box w 30 #[.bool true, .int .i64 0, .int .i64 n, .string t] wx → Calls Try.prog 16 #[.agg #[.bool true, .int .i64 0, .int .i64 n, .string t]] wx fun e w' => e = .returned (.tuple #[.string T, .int .i64 0]) ∧ Box w 30 #[.bool true, .int .i64 0, .int .i64 n, .string t] w')
    (H2 : ∀ wx, Box w 30 #[.bool true, .int .i64 0, .int .i64 n, .string t] wx → Calls Try.prog 20 #[.string v, .agg #[.bool true, .int .i64 0, .int .i64 n, .string t]] wx fun e w' => e = .returned (.string A) ∧ Box w 30 #[.bool true, .int .i64 0, .int .i64 n, .string t] w')
    (H3 : ∀ wx, Box w 30 #[.bool true, .int .i64 0, .int .i64 n, .string t] wx → Calls Try.prog 12 #[.string A] wx fun e w' => e = .returned (.string A) ∧ Box w 30 #[.bool true, .int .i64 0, .int .i64 n, .string t] w')
    (H4 : ∀ wx, Box w 30 #[.bool true, .int .i64 0, .int .i64 n, .string t] wx → Calls Try.prog 20 #[.string A, .agg #[.bool true, .int .i64 0, .int .i64 n, .string t]] wx fun e w' => e = .returned (.string A) ∧ Box w 30 #[.bool true, .int .i64 0, .int .i64 n, .string t] w')
    (X : ByteArray)
    (H7 : ∀ wx, Box w 30 #[.bool true, .int .i64 0, .int .i64 n, .string t] wx → Calls Try.prog 14 #[.string A, .int .i64 0, .int .i64 n] wx fun e w' => e = .returned (.string X) ∧ Box w 30 #[.bool true, .int .i64 0, .int .i64 n, .string t] w')
    (H8 : ∀ wx, Box w 30 #[.bool true, .int .i64 0, .int .i64 n, .string t] wx → Calls Try.prog 14 #[.string v', .int .i64 0, .int .i64 n] wx fun e w' => e = .returned (.string X) ∧ Box w 30 #[.bool true, .int .i64 0, .int .i64 n, .string t] w')
    (HW : ∀ wx, Box w 30 #[.bool true, .int .i64 0, .int .i64 n, .string t] wx → Calls Try.prog 9 #[] wx fun e w' => e = .returned (.bool true) ∧ Box w 30 #[.bool true, .int .i64 0, .int .i64 n, .string t] w') :
    Calls Try.prog 7 #[.string v, .agg #[.bool true, .int .i64 0, .int .i64 n, .string t]] w fun e w' => e = .returned (.bool true) ∧ Below w.heap.size w w' := by
  have HX := Lib.hid (Box.new w 30 #[.bool true, .int .i64 0, .int .i64 n, .string t])
  have CH1 := Lib.hid H1; clear H1
  have CH2 := Lib.hid H2; clear H2
  have CH3 := Lib.hid H3; clear H3
  have CH4 := Lib.hid H4; clear H4
  have CH7 := Lib.hid H7; clear H7
  have CH8 := Lib.hid H8; clear H8
  have CHW := Lib.hid HW; clear HW
  go_enter Try.func7, Try.ntmps7
  go_wp2_with fail
  refine (CH1.out _ HX.out).mono ?_; rintro e w1 ⟨rfl, hb⟩
  replace HX := Lib.hid hb; clear hb
  obtain ⟨c0, c1, c2, c3⟩ := HX.out.cells
  go_wp2_with fail
  clear c0 c1 c2 c3
  refine (CH2.out _ HX.out).mono ?_; rintro e w2 ⟨rfl, hb⟩
  replace HX := Lib.hid hb; clear hb
  go_wp2_with fail
  refine (CH3.out _ HX.out).mono ?_; rintro e w3 ⟨rfl, hb⟩
  replace HX := Lib.hid hb; clear hb
  obtain ⟨c0, c1, c2, c3⟩ := HX.out.cells
  go_wp2_with fail
  clear c0 c1 c2 c3
  refine (CH4.out _ HX.out).mono ?_; rintro e w4 ⟨rfl, hb⟩
  replace HX := Lib.hid hb; clear hb
  obtain ⟨c0, c1, c2, c3⟩ := HX.out.cells
  go_wp2_with fail
  have hp := HX.out
  have hpd := hp.drew
  go_region_held3 (fun wx => wx.cell? ⟨w.heap.size, 2, none⟩ = some (.int .i64 n))
    (first | (with_reducible exact Box.s2 (by assumption)))
    (first
      | (with_reducible refine (CH7.out _ (by assumption)).mono ?_; rintro e w1 ⟨rfl, hp⟩)
      | (with_reducible refine (CH8.out _ (by assumption)).mono ?_; rintro e w1 ⟨rfl, hp⟩)
      | (with_reducible refine (CHW.out _ (by assumption)).mono ?_; rintro e w1 ⟨rfl, hp⟩))
  all_goals
    go_wp2
    go_ret
    exact ⟨rfl, hp.below⟩
set_option maxHeartbeats 8000000 in
theorem splices_Cf (v v' t T A : ByteArray) (hv : v.size ≤ 3000) (ht : t.size ≤ 64) (hv' : v.extract 0 (min (v.size : Int) 64).toNat = v') (hA : A.size ≤ 64) (w : World)
    (n : Int) (hn : (A.size : Int) ≤ n)
    (hA0 : A.toList.isEmpty = false)
    (H1 : ∀ wx, Box w 30 #[.bool true, .int .i64 0, .int .i64 n, .string t] wx → Calls Try.prog 16 #[.agg #[.bool true, .int .i64 0, .int .i64 n, .string t]] wx fun e w' => e = .returned (.tuple #[.string T, .int .i64 0]) ∧ Box w 30 #[.bool true, .int .i64 0, .int .i64 n, .string t] w')
    (H2 : ∀ wx, Box w 30 #[.bool true, .int .i64 0, .int .i64 n, .string t] wx → Calls Try.prog 20 #[.string v, .agg #[.bool true, .int .i64 0, .int .i64 n, .string t]] wx fun e w' => e = .returned (.string A) ∧ Box w 30 #[.bool true, .int .i64 0, .int .i64 n, .string t] w')
    (H3 : ∀ wx, Box w 30 #[.bool true, .int .i64 0, .int .i64 n, .string t] wx → Calls Try.prog 12 #[.string A] wx fun e w' => e = .returned (.string A) ∧ Box w 30 #[.bool true, .int .i64 0, .int .i64 n, .string t] w')
    (H4 : ∀ wx, Box w 30 #[.bool true, .int .i64 0, .int .i64 n, .string t] wx → Calls Try.prog 20 #[.string A, .agg #[.bool true, .int .i64 0, .int .i64 n, .string t]] wx fun e w' => e = .returned (.string A) ∧ Box w 30 #[.bool true, .int .i64 0, .int .i64 n, .string t] w')
    (H5 : ∀ wx, Box w 30 #[.bool true, .int .i64 0, .int .i64 n, .string t] wx → Calls Try.prog 10 #[.string A] wx fun e w' => e = .returned (.int .i64 0) ∧ Box w 30 #[.bool true, .int .i64 0, .int .i64 n, .string t] w')
    (X : ByteArray)
    (H7 : ∀ wx, Box w 30 #[.bool true, .int .i64 0, .int .i64 n, .string t] wx → Calls Try.prog 14 #[.string A, .int .i64 0, .int .i64 n] wx fun e w' => e = .returned (.string X) ∧ Box w 30 #[.bool true, .int .i64 0, .int .i64 n, .string t] w')
    (H8 : ∀ wx, Box w 30 #[.bool true, .int .i64 0, .int .i64 n, .string t] wx → Calls Try.prog 14 #[.string v', .int .i64 0, .int .i64 n] wx fun e w' => e = .returned (.string X) ∧ Box w 30 #[.bool true, .int .i64 0, .int .i64 n, .string t] w')
    (HW : ∀ wx, Box w 30 #[.bool true, .int .i64 0, .int .i64 n, .string t] wx → Calls Try.prog 9 #[] wx fun e w' => e = .returned (.bool true) ∧ Box w 30 #[.bool true, .int .i64 0, .int .i64 n, .string t] w') :
    Calls Try.prog 7 #[.string v, .agg #[.bool true, .int .i64 0, .int .i64 n, .string t]] w fun e w' => e = .returned (.bool true) ∧ Below w.heap.size w w' := by
  have HX := Lib.hid (Box.new w 30 #[.bool true, .int .i64 0, .int .i64 n, .string t])
  have CH1 := Lib.hid H1; clear H1
  have CH2 := Lib.hid H2; clear H2
  have CH3 := Lib.hid H3; clear H3
  have CH4 := Lib.hid H4; clear H4
  have CH5 := Lib.hid H5; clear H5
  have CH7 := Lib.hid H7; clear H7
  have CH8 := Lib.hid H8; clear H8
  have CHW := Lib.hid HW; clear HW
  go_enter Try.func7, Try.ntmps7
  go_wp2_with fail
  refine (CH1.out _ HX.out).mono ?_; rintro e w1 ⟨rfl, hb⟩
  replace HX := Lib.hid hb; clear hb
  obtain ⟨c0, c1, c2, c3⟩ := HX.out.cells
  go_wp2_with fail
  clear c0 c1 c2 c3
  refine (CH2.out _ HX.out).mono ?_; rintro e w2 ⟨rfl, hb⟩
  replace HX := Lib.hid hb; clear hb
  go_wp2_with fail
  refine (CH3.out _ HX.out).mono ?_; rintro e w3 ⟨rfl, hb⟩
  replace HX := Lib.hid hb; clear hb
  obtain ⟨c0, c1, c2, c3⟩ := HX.out.cells
  go_wp2_with fail
  clear c0 c1 c2 c3
  refine (CH4.out _ HX.out).mono ?_; rintro e w4 ⟨rfl, hb⟩
  replace HX := Lib.hid hb; clear hb
  obtain ⟨c0, c1, c2, c3⟩ := HX.out.cells
  go_wp2_with fail
  clear c0 c1 c2 c3
  refine (CH5.out _ HX.out).mono ?_; rintro e w5 ⟨rfl, hb⟩
  replace HX := Lib.hid hb; clear hb
  obtain ⟨c0, c1, c2, c3⟩ := HX.out.cells
  go_wp2_with fail
  have hp := HX.out
  have hpd := hp.drew
  go_region_held3 (fun wx => wx.cell? ⟨w.heap.size, 2, none⟩ = some (.int .i64 n))
    (first | (with_reducible exact Box.s2 (by assumption)))
    (first
      | (with_reducible refine (CH7.out _ (by assumption)).mono ?_; rintro e w1 ⟨rfl, hp⟩)
      | (with_reducible refine (CH8.out _ (by assumption)).mono ?_; rintro e w1 ⟨rfl, hp⟩)
      | (with_reducible refine (CHW.out _ (by assumption)).mono ?_; rintro e w1 ⟨rfl, hp⟩))
  all_goals
    go_wp2
    go_ret
    exact ⟨rfl, hp.below⟩
set_option maxHeartbeats 8000000 in
theorem splices_Se (v v' t T A : ByteArray) (hv : v.size ≤ 3000) (ht : t.size ≤ 64) (hv' : v.extract 0 (min (v.size : Int) 64).toNat = v') (hA : A.size ≤ 64) (w : World)
    (a E : Nat) (hE : (a : Int) + (t.size : Int) = (E : Int)) (hE2 : E ≤ 64)
    (hA0 : A.toList.isEmpty = true)
    (H1 : ∀ wx, Box w 30 #[.bool false, .int .i64 a, .int .i64 0, .string t] wx → Calls Try.prog 16 #[.agg #[.bool false, .int .i64 a, .int .i64 0, .string t]] wx fun e w' => e = .returned (.tuple #[.string T, .int .i64 0]) ∧ Box w 30 #[.bool false, .int .i64 a, .int .i64 0, .string t] w')
    (H2 : ∀ wx, Box w 30 #[.bool false, .int .i64 a, .int .i64 0, .string t] wx → Calls Try.prog 20 #[.string v, .agg #[.bool false, .int .i64 a, .int .i64 0, .string t]] wx fun e w' => e = .returned (.string A) ∧ Box w 30 #[.bool false, .int .i64 a, .int .i64 0, .string t] w')
    (H3 : ∀ wx, Box w 30 #[.bool false, .int .i64 a, .int .i64 0, .string t] wx → Calls Try.prog 12 #[.string A] wx fun e w' => e = .returned (.string A) ∧ Box w 30 #[.bool false, .int .i64 a, .int .i64 0, .string t] w')
    (H4 : ∀ wx, Box w 30 #[.bool false, .int .i64 a, .int .i64 0, .string t] wx → Calls Try.prog 20 #[.string A, .agg #[.bool false, .int .i64 a, .int .i64 0, .string t]] wx fun e w' => e = .returned (.string A) ∧ Box w 30 #[.bool false, .int .i64 a, .int .i64 0, .string t] w')
    (Y Z : ByteArray)
    (H7 : ∀ wx, Box w 30 #[.bool false, .int .i64 a, .int .i64 0, .string t] wx → Calls Try.prog 14 #[.string A, .int .i64 a, .int .i64 t.size] wx fun e w' => e = .returned (.string t) ∧ Box w 30 #[.bool false, .int .i64 a, .int .i64 0, .string t] w')
    (H8 : ∀ wx, Box w 30 #[.bool false, .int .i64 a, .int .i64 0, .string t] wx → Calls Try.prog 14 #[.string A, .int .i64 0, .int .i64 a] wx fun e w' => e = .returned (.string Y) ∧ Box w 30 #[.bool false, .int .i64 a, .int .i64 0, .string t] w')
    (H9 : ∀ wx, Box w 30 #[.bool false, .int .i64 a, .int .i64 0, .string t] wx → Calls Try.prog 14 #[.string v', .int .i64 0, .int .i64 a] wx fun e w' => e = .returned (.string Y) ∧ Box w 30 #[.bool false, .int .i64 a, .int .i64 0, .string t] w')
    (H10 : ∀ wx, Box w 30 #[.bool false, .int .i64 a, .int .i64 0, .string t] wx → Calls Try.prog 14 #[.string A, .int .i64 E, .int .i64 (IntKind.i64.wrap (64 - (E : Int)))] wx fun e w' => e = .returned (.string Z) ∧ Box w 30 #[.bool false, .int .i64 a, .int .i64 0, .string t] w')
    (H11 : ∀ wx, Box w 30 #[.bool false, .int .i64 a, .int .i64 0, .string t] wx → Calls Try.prog 14 #[.string v', .int .i64 E, .int .i64 (IntKind.i64.wrap (64 - (E : Int)))] wx fun e w' => e = .returned (.string Z) ∧ Box w 30 #[.bool false, .int .i64 a, .int .i64 0, .string t] w')
    (HW : ∀ wx, Box w 30 #[.bool false, .int .i64 a, .int .i64 0, .string t] wx → Calls Try.prog 9 #[] wx fun e w' => e = .returned (.bool true) ∧ Box w 30 #[.bool false, .int .i64 a, .int .i64 0, .string t] w') :
    Calls Try.prog 7 #[.string v, .agg #[.bool false, .int .i64 a, .int .i64 0, .string t]] w fun e w' => e = .returned (.bool true) ∧ Below w.heap.size w w' := by
  have HX := Lib.hid (Box.new w 30 #[.bool false, .int .i64 a, .int .i64 0, .string t])
  have CH1 := Lib.hid H1; clear H1
  have CH2 := Lib.hid H2; clear H2
  have CH3 := Lib.hid H3; clear H3
  have CH4 := Lib.hid H4; clear H4
  have CH7 := Lib.hid H7; clear H7
  have CH8 := Lib.hid H8; clear H8
  have CH9 := Lib.hid H9; clear H9
  have CH10 := Lib.hid H10; clear H10
  have CH11 := Lib.hid H11; clear H11
  have CHW := Lib.hid HW; clear HW
  go_enter Try.func7, Try.ntmps7
  go_wp2_with fail
  refine (CH1.out _ HX.out).mono ?_; rintro e w1 ⟨rfl, hb⟩
  replace HX := Lib.hid hb; clear hb
  obtain ⟨c0, c1, c2, c3⟩ := HX.out.cells
  go_wp2_with fail
  clear c0 c1 c2 c3
  refine (CH2.out _ HX.out).mono ?_; rintro e w2 ⟨rfl, hb⟩
  replace HX := Lib.hid hb; clear hb
  go_wp2_with fail
  refine (CH3.out _ HX.out).mono ?_; rintro e w3 ⟨rfl, hb⟩
  replace HX := Lib.hid hb; clear hb
  obtain ⟨c0, c1, c2, c3⟩ := HX.out.cells
  go_wp2_with fail
  clear c0 c1 c2 c3
  refine (CH4.out _ HX.out).mono ?_; rintro e w4 ⟨rfl, hb⟩
  replace HX := Lib.hid hb; clear hb
  obtain ⟨c0, c1, c2, c3⟩ := HX.out.cells
  go_wp2_with fail
  have hp := HX.out
  have hpd := hp.drew
  go_region_held3 (fun wx => wx.cell? ⟨w.heap.size, 1, none⟩ = some (.int .i64 a) ∧ wx.cell? ⟨w.heap.size, 3, none⟩ = some (.string t))
    (first | (with_reducible exact Box.sc (by assumption)))
    (first
      | (with_reducible refine (CH7.out _ (by assumption)).mono ?_; rintro e w1 ⟨rfl, hp⟩)
      | (with_reducible refine (CH8.out _ (by assumption)).mono ?_; rintro e w1 ⟨rfl, hp⟩)
      | (with_reducible refine (CH9.out _ (by assumption)).mono ?_; rintro e w1 ⟨rfl, hp⟩)
      | (with_reducible refine (CH10.out _ (by assumption)).mono ?_; rintro e w1 ⟨rfl, hp⟩)
      | (with_reducible refine (CH11.out _ (by assumption)).mono ?_; rintro e w1 ⟨rfl, hp⟩)
      | (with_reducible refine (CHW.out _ (by assumption)).mono ?_; rintro e w1 ⟨rfl, hp⟩))
  all_goals
    go_wp2
    go_ret
    exact ⟨rfl, hp.below⟩
set_option maxHeartbeats 8000000 in
theorem splices_Sf (v v' t T A : ByteArray) (hv : v.size ≤ 3000) (ht : t.size ≤ 64) (hv' : v.extract 0 (min (v.size : Int) 64).toNat = v') (hA : A.size ≤ 64) (w : World)
    (a E : Nat) (hE : (a : Int) + (t.size : Int) = (E : Int)) (hE2 : E ≤ 64)
    (hA0 : A.toList.isEmpty = false)
    (H1 : ∀ wx, Box w 30 #[.bool false, .int .i64 a, .int .i64 0, .string t] wx → Calls Try.prog 16 #[.agg #[.bool false, .int .i64 a, .int .i64 0, .string t]] wx fun e w' => e = .returned (.tuple #[.string T, .int .i64 0]) ∧ Box w 30 #[.bool false, .int .i64 a, .int .i64 0, .string t] w')
    (H2 : ∀ wx, Box w 30 #[.bool false, .int .i64 a, .int .i64 0, .string t] wx → Calls Try.prog 20 #[.string v, .agg #[.bool false, .int .i64 a, .int .i64 0, .string t]] wx fun e w' => e = .returned (.string A) ∧ Box w 30 #[.bool false, .int .i64 a, .int .i64 0, .string t] w')
    (H3 : ∀ wx, Box w 30 #[.bool false, .int .i64 a, .int .i64 0, .string t] wx → Calls Try.prog 12 #[.string A] wx fun e w' => e = .returned (.string A) ∧ Box w 30 #[.bool false, .int .i64 a, .int .i64 0, .string t] w')
    (H4 : ∀ wx, Box w 30 #[.bool false, .int .i64 a, .int .i64 0, .string t] wx → Calls Try.prog 20 #[.string A, .agg #[.bool false, .int .i64 a, .int .i64 0, .string t]] wx fun e w' => e = .returned (.string A) ∧ Box w 30 #[.bool false, .int .i64 a, .int .i64 0, .string t] w')
    (H5 : ∀ wx, Box w 30 #[.bool false, .int .i64 a, .int .i64 0, .string t] wx → Calls Try.prog 10 #[.string A] wx fun e w' => e = .returned (.int .i64 0) ∧ Box w 30 #[.bool false, .int .i64 a, .int .i64 0, .string t] w')
    (Y Z : ByteArray)
    (H7 : ∀ wx, Box w 30 #[.bool false, .int .i64 a, .int .i64 0, .string t] wx → Calls Try.prog 14 #[.string A, .int .i64 a, .int .i64 t.size] wx fun e w' => e = .returned (.string t) ∧ Box w 30 #[.bool false, .int .i64 a, .int .i64 0, .string t] w')
    (H8 : ∀ wx, Box w 30 #[.bool false, .int .i64 a, .int .i64 0, .string t] wx → Calls Try.prog 14 #[.string A, .int .i64 0, .int .i64 a] wx fun e w' => e = .returned (.string Y) ∧ Box w 30 #[.bool false, .int .i64 a, .int .i64 0, .string t] w')
    (H9 : ∀ wx, Box w 30 #[.bool false, .int .i64 a, .int .i64 0, .string t] wx → Calls Try.prog 14 #[.string v', .int .i64 0, .int .i64 a] wx fun e w' => e = .returned (.string Y) ∧ Box w 30 #[.bool false, .int .i64 a, .int .i64 0, .string t] w')
    (H10 : ∀ wx, Box w 30 #[.bool false, .int .i64 a, .int .i64 0, .string t] wx → Calls Try.prog 14 #[.string A, .int .i64 E, .int .i64 (IntKind.i64.wrap (64 - (E : Int)))] wx fun e w' => e = .returned (.string Z) ∧ Box w 30 #[.bool false, .int .i64 a, .int .i64 0, .string t] w')
    (H11 : ∀ wx, Box w 30 #[.bool false, .int .i64 a, .int .i64 0, .string t] wx → Calls Try.prog 14 #[.string v', .int .i64 E, .int .i64 (IntKind.i64.wrap (64 - (E : Int)))] wx fun e w' => e = .returned (.string Z) ∧ Box w 30 #[.bool false, .int .i64 a, .int .i64 0, .string t] w')
    (HW : ∀ wx, Box w 30 #[.bool false, .int .i64 a, .int .i64 0, .string t] wx → Calls Try.prog 9 #[] wx fun e w' => e = .returned (.bool true) ∧ Box w 30 #[.bool false, .int .i64 a, .int .i64 0, .string t] w') :
    Calls Try.prog 7 #[.string v, .agg #[.bool false, .int .i64 a, .int .i64 0, .string t]] w fun e w' => e = .returned (.bool true) ∧ Below w.heap.size w w' := by
  have HX := Lib.hid (Box.new w 30 #[.bool false, .int .i64 a, .int .i64 0, .string t])
  have CH1 := Lib.hid H1; clear H1
  have CH2 := Lib.hid H2; clear H2
  have CH3 := Lib.hid H3; clear H3
  have CH4 := Lib.hid H4; clear H4
  have CH5 := Lib.hid H5; clear H5
  have CH7 := Lib.hid H7; clear H7
  have CH8 := Lib.hid H8; clear H8
  have CH9 := Lib.hid H9; clear H9
  have CH10 := Lib.hid H10; clear H10
  have CH11 := Lib.hid H11; clear H11
  have CHW := Lib.hid HW; clear HW
  go_enter Try.func7, Try.ntmps7
  go_wp2_with fail
  refine (CH1.out _ HX.out).mono ?_; rintro e w1 ⟨rfl, hb⟩
  replace HX := Lib.hid hb; clear hb
  obtain ⟨c0, c1, c2, c3⟩ := HX.out.cells
  go_wp2_with fail
  clear c0 c1 c2 c3
  refine (CH2.out _ HX.out).mono ?_; rintro e w2 ⟨rfl, hb⟩
  replace HX := Lib.hid hb; clear hb
  go_wp2_with fail
  refine (CH3.out _ HX.out).mono ?_; rintro e w3 ⟨rfl, hb⟩
  replace HX := Lib.hid hb; clear hb
  obtain ⟨c0, c1, c2, c3⟩ := HX.out.cells
  go_wp2_with fail
  clear c0 c1 c2 c3
  refine (CH4.out _ HX.out).mono ?_; rintro e w4 ⟨rfl, hb⟩
  replace HX := Lib.hid hb; clear hb
  obtain ⟨c0, c1, c2, c3⟩ := HX.out.cells
  go_wp2_with fail
  clear c0 c1 c2 c3
  refine (CH5.out _ HX.out).mono ?_; rintro e w5 ⟨rfl, hb⟩
  replace HX := Lib.hid hb; clear hb
  obtain ⟨c0, c1, c2, c3⟩ := HX.out.cells
  go_wp2_with fail
  have hp := HX.out
  have hpd := hp.drew
  go_region_held3 (fun wx => wx.cell? ⟨w.heap.size, 1, none⟩ = some (.int .i64 a) ∧ wx.cell? ⟨w.heap.size, 3, none⟩ = some (.string t))
    (first | (with_reducible exact Box.sc (by assumption)))
    (first
      | (with_reducible refine (CH7.out _ (by assumption)).mono ?_; rintro e w1 ⟨rfl, hp⟩)
      | (with_reducible refine (CH8.out _ (by assumption)).mono ?_; rintro e w1 ⟨rfl, hp⟩)
      | (with_reducible refine (CH9.out _ (by assumption)).mono ?_; rintro e w1 ⟨rfl, hp⟩)
      | (with_reducible refine (CH10.out _ (by assumption)).mono ?_; rintro e w1 ⟨rfl, hp⟩)
      | (with_reducible refine (CH11.out _ (by assumption)).mono ?_; rintro e w1 ⟨rfl, hp⟩)
      | (with_reducible refine (CHW.out _ (by assumption)).mono ?_; rintro e w1 ⟨rfl, hp⟩))
  all_goals
    go_wp2
    go_ret
    exact ⟨rfl, hp.below⟩
end Go.Proofs.Ytadfccgoooafoaa
