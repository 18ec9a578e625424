/- The laws that hold the program's answers against the document's. Conditions: none. -/
import Derived.Test.YtadfccgoooafoaaBkM
namespace Go.Proofs.Ytadfccgoooafoaa
open Go.ChangeShapes Go.WideShapes Go.RowKit Go.Codec Go.Blk
set_option maxRecDepth 100000
set_option linter.unusedSimpArgs false
set_option linter.unusedVariables false
theorem below_two {w w1 w2 : World} (h : Below w.heap.size w w1) (h2 : Below w1.heap.size w1 w2) : Below w.heap.size w w2 := h.trans (h2.mono h.size)
set_option maxHeartbeats 4000000 in
theorem tells_any (s : ByteArray) (f n : Int) (w : World) :
    Calls Try.prog 3 #[.string s, .int .i64 f, .int .i64 n] w fun e w' => e = .returned (.bool true) ∧ Below w.heap.size w w' := by
  by_cases hs : 3000 < s.size
  · go_enter Try.func3, Try.ntmps3
    go_wp2_with fail
    refine (works_any _).mono ?_; rintro e w1 ⟨rfl, hb⟩
    go_wp2_with fail
    go_ret
    exact ⟨rfl, hb⟩
  · have H1 := fun w => check_any s (by omega) w
    have H2 := fun w => rcheck_any s (by omega) w
    have H3 := fun w => trim_any s (by omega) w
    have H4 := fun w => rtrim_any s (by omega) w
    have H5 := fun w => at_any s f n (by omega) w
    have H6 := fun w => rat_any s f n (by omega) w
    generalize ckV s.data.toList = C at *
    generalize bs (trim s.data.toList) = T at *
    generalize bs (tell s.data.toList f.toNat (min n.toNat 64)) = A at *
    go_enter Try.func3, Try.ntmps3
    go_wp2_with fail
    refine (H1 _).mono ?_; rintro e w1 ⟨rfl, rfl⟩
    go_wp2_with fail
    refine (H2 _).mono ?_; rintro e w1 ⟨rfl, rfl⟩
    go_wp2_with fail
    refine (H3 _).mono ?_; rintro e w1 ⟨rfl, hb⟩
    have HB := Lib.hid hb; clear hb
    go_wp2_with fail
    refine (H4 _).mono ?_; rintro e w2 ⟨rfl, rfl⟩
    go_wp2_with fail
    refine (H5 _).mono ?_; rintro e w2 ⟨rfl, hb⟩
    replace HB := Lib.hid (below_two HB.out hb); clear hb
    go_wp2_with fail
    refine (H6 _).mono ?_; rintro e w3 ⟨rfl, hb⟩
    replace HB := Lib.hid (below_two HB.out hb); clear hb
    go_wp2_with fail
    refine (works_any _).mono ?_; rintro e w4 ⟨rfl, hb⟩
    replace HB := Lib.hid (below_two HB.out hb); clear hb
    go_wp2_with fail
    go_ret
    exact ⟨rfl, HB.out⟩
/-- What was taken, as values. -/
theorem pv_form (p : Pt) : ∃ (c : Bool) (a n : Int) (e : Nat) (S : ByteArray), pvT p = .tuple #[.agg #[.bool c, .int .i64 a, .int .i64 n, .string S], .int .i64 e] := ⟨p.c, p.a, p.n, p.e, bs p.s, rfl⟩
set_option maxHeartbeats 4000000 in
theorem blockputs_any (c : Bool) (a n : Int) (t : ByteArray) (s : ByteArray) (w : World) :
    Calls Try.prog 4 #[.agg #[.bool c, .int .i64 a, .int .i64 n, .string t], .string s] w fun e w' => e = .returned (.bool true) ∧ Below w.heap.size w w' := by
  have HX := Lib.hid (Box.new w 30 #[.bool c, .int .i64 a, .int .i64 n, .string t])
  by_cases hs : 3000 < t.size
  · go_enter Try.func4, Try.ntmps4
    go_wp2_with fail
    refine (works_any _).mono ?_; rintro e w1 ⟨rfl, hb⟩
    replace HX := Lib.hid (HX.out.later hb); clear hb
    go_wp2_with fail
    go_ret
    exact ⟨rfl, HX.out.below⟩
  by_cases hs2 : 3000 < s.size
  · go_enter Try.func4, Try.ntmps4
    go_wp2_with fail
    refine (works_any _).mono ?_; rintro e w1 ⟨rfl, hb⟩
    replace HX := Lib.hid (HX.out.later hb); clear hb
    go_wp2_with fail
    go_ret
    exact ⟨rfl, HX.out.below⟩
  have H1 := fun w => put_any c a n t (by omega) w
  have H2 := fun w => rput_any c a n t (by omega) w
  have H3 := fun w => take_any s (by omega) w
  have H4 := fun w => rtake_any s (by omega) w
  obtain ⟨c', a', n', E, S, hp⟩ := pv_form (tk s.data.toList)
  rw [hp] at H3 H4
  generalize bs (putP c a n t.data.toList) = A at *
  generalize ckP c a n t.data.toList = C at *
  have hE := eqR
  clear hp
  go_enter Try.func4, Try.ntmps4
  go_wp2_with fail
  refine (H1 _).mono ?_; rintro e w1 ⟨rfl, hb⟩
  replace HX := Lib.hid (HX.out.later hb); clear hb
  obtain ⟨c0, c1, c2, c3⟩ := HX.out.cells
  go_wp2_with fail
  refine (H2 _).mono ?_; rintro e w2 ⟨rfl, hb⟩
  replace HX := Lib.hid (HX.out.later hb); clear hb c0 c1 c2 c3
  go_wp2_with fail
  refine (H3 _).mono ?_; rintro e w3 ⟨rfl, hb⟩
  replace HX := Lib.hid (HX.out.later hb); clear hb
  have HQ := Lib.hid (Box.new w3 30 #[.bool c', .int .i64 a', .int .i64 n', .string S])
  go_wp2_with fail
  refine (H4 _).mono ?_; rintro e w4 ⟨rfl, hb⟩
  replace HQ := Lib.hid (HQ.out.later hb); clear hb
  have HR := Lib.hid (Box.new w4 35 #[.bool c', .int .i64 a', .int .i64 n', .string S])
  have HQ2 := Lib.hid (HQ.out.alloc (.cells #[.bool c', .int .i64 a', .int .i64 n', .string S] 35))
  obtain ⟨c0, c1, c2, c3⟩ := HQ.out.cells
  obtain ⟨d0, d1, d2, d3⟩ := HQ2.out.cells
  go_wp2_with fail
  refine (works_any _).mono ?_; rintro e w5 ⟨rfl, hb⟩
  replace HQ2 := Lib.hid (HQ2.out.later hb); clear hb
  go_wp2_with fail
  go_ret
  exact ⟨rfl, below_two HX.out.below HQ2.out.below⟩
theorem Box.c4 {w wx : World} {t : TypeId} {a b c d : Value} (h : Box w t #[a, b, c, d] wx) : wx.cell? ⟨w.heap.size, 0, none⟩ = some a ∧ wx.cell? ⟨w.heap.size, 1, none⟩ = some b ∧ wx.cell? ⟨w.heap.size, 2, none⟩ = some c ∧ wx.cell? ⟨w.heap.size, 3, none⟩ = some d := h.cells
set_option maxHeartbeats 4000000 in
theorem applies_any (v : ByteArray) (c : Bool) (a n : Int) (t : ByteArray) (w : World) :
    Calls Try.prog 5 #[.string v, .agg #[.bool c, .int .i64 a, .int .i64 n, .string t]] w fun e w' => e = .returned (.bool true) ∧ Below w.heap.size w w' := by
  have HX := Lib.hid (Box.new w 30 #[.bool c, .int .i64 a, .int .i64 n, .string t])
  by_cases hs : 3000 < v.size
  · go_enter Try.func5, Try.ntmps5
    go_wp2_with fail
    refine (works_any _).mono ?_; rintro e w1 ⟨rfl, hb⟩
    replace HX := Lib.hid (HX.out.later hb); clear hb
    go_wp2_with fail
    go_ret
    exact ⟨rfl, HX.out.below⟩
  by_cases hs2 : 3000 < t.size
  · go_enter Try.func5, Try.ntmps5
    go_wp2_with fail
    refine (works_any _).mono ?_; rintro e w1 ⟨rfl, hb⟩
    replace HX := Lib.hid (HX.out.later hb); clear hb
    go_wp2_with fail
    go_ret
    exact ⟨rfl, HX.out.below⟩
  have H1 := fun wx (hx : Box w 30 #[.bool c, .int .i64 a, .int .i64 n, .string t] wx) => hx.carry (wx := wx) (apply_any v c a n t (by omega) (by omega) wx)
  have H2 := fun wx (hx : Box w 30 #[.bool c, .int .i64 a, .int .i64 n, .string t] wx) => hx.carry (wx := wx) (rapply_any v c a n t (by omega) (by omega) wx)
  have H3 := fun wx (hx : Box w 30 #[.bool c, .int .i64 a, .int .i64 n, .string t] wx) => hx.carry (wx := wx) (works_any wx)
  generalize bs (apl v.data.toList c a n t.data.toList) = A at *
  have C1 := Lib.hid H1; have C2 := Lib.hid H2; have C3 := Lib.hid H3; clear H1 H2 H3
  go_enter Try.func5, Try.ntmps5
  go_wp2_with fail
  have hp := HX.out
  clear HX
  generalize w.alloc (.cells #[.bool c, .int .i64 a, .int .i64 n, .string t] 30) = W at *
  have hpd := hp.drew
  go_region_held3 (fun wx => wx.cell? ⟨w.heap.size, 0, none⟩ = some (.bool c) ∧ wx.cell? ⟨w.heap.size, 1, none⟩ = some (.int .i64 a) ∧ wx.cell? ⟨w.heap.size, 2, none⟩ = some (.int .i64 n) ∧ wx.cell? ⟨w.heap.size, 3, none⟩ = some (.string t))
    (first | (with_reducible exact Box.c4 (by assumption)))
    (first
      | (with_reducible refine (C1.out _ (by assumption)).mono ?_; rintro e w1 ⟨rfl, hp⟩)
      | (with_reducible refine (C2.out _ (by assumption)).mono ?_; rintro e w1 ⟨rfl, hp⟩)
      | (with_reducible refine (C3.out _ (by assumption)).mono ?_; rintro e w1 ⟨rfl, hp⟩))
  all_goals
    go_wp2
    go_ret
    exact ⟨rfl, hp.below⟩
end Go.Proofs.Ytadfccgoooafoaa
