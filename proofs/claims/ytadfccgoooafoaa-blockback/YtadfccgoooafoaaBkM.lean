/- The laws' helpers. Conditions: lengths below 2^40. -/
import Derived.Test.YtadfccgoooafoaaBkL
import Derived.Laws.StructEq
namespace Go.Proofs.Ytadfccgoooafoaa
open Go.ChangeShapes Go.WideShapes Go.RowKit Go.Codec Go.Blk
set_option maxRecDepth 100000
set_option linter.unusedSimpArgs false
set_option linter.unusedVariables false
theorem eqP (c : Bool) (a n : Int) (s : ByteArray) (w : World) : (binOp .eql 30 (.agg #[.bool c, .int .i64 a, .int .i64 n, .string s]) (.agg #[.bool c, .int .i64 a, .int .i64 n, .string s])).run Try.prog w = .ok (.bool true) w := by go_simp
theorem eqR (c : Bool) (a n : Int) (s : ByteArray) (w : World) : (binOp .eql 35 (.agg #[.bool c, .int .i64 a, .int .i64 n, .string s]) (.agg #[.bool c, .int .i64 a, .int .i64 n, .string s])).run Try.prog w = .ok (.bool true) w := by go_simp
theorem neP (c : Bool) (a n : Int) (s : ByteArray) (w : World) : (binOp .neq 30 (.agg #[.bool c, .int .i64 a, .int .i64 n, .string s]) (.agg #[.bool c, .int .i64 a, .int .i64 n, .string s])).run Try.prog w = .ok (.bool false) w := by go_simp
set_option maxHeartbeats 4000000 in
theorem puts_any (c : Bool) (a n : Int) (s T : ByteArray) (hs : s.size ≤ 1099511627776) (h1 : bs (putP c a n s.data.toList) = T) (h2 : ckP c a n s.data.toList = 0) (w : World) :
    Calls Try.prog 24 #[.agg #[.bool c, .int .i64 a, .int .i64 n, .string s], .string T] w fun e w' => e = .returned (.bool true) ∧ Below w.heap.size w w' := by
  have HP := fun w => put_any c a n s hs w
  rw [h1, h2] at HP
  have HX := Lib.hid (Box.new w 30 #[.bool c, .int .i64 a, .int .i64 n, .string s])
  clear h1 h2
  go_enter Try.func24, Try.ntmps24
  go_wp2_with fail
  refine (HP _).mono ?_; rintro e w1 ⟨rfl, hb⟩
  replace HX := Lib.hid (HX.out.later hb)
  clear hb
  go_wp2_with fail
  go_ret
  exact ⟨rfl, HX.out.below⟩
set_option maxHeartbeats 4000000 in
theorem fails_any (s : ByteArray) (E : Nat) (hs : s.size ≤ 1099511627776) (h1 : tk s.data.toList = .no E) (w : World) :
    Calls Try.prog 22 #[.string s, .int .i64 E] w fun e w' => e = .returned (.bool true) ∧ Below w.heap.size w w' := by
  have HP := fun w => take_any s hs w
  rw [h1] at HP
  have HP' : ∀ w, Calls Try.prog 18 #[.string s] w fun e w' => e = .returned (.tuple #[.agg #[.bool false, .int .i64 0, .int .i64 0, .string ⟨#[]⟩], .int .i64 E]) ∧ Below w.heap.size w w' := HP
  have hE := eqP
  clear h1 HP
  go_enter Try.func22, Try.ntmps22
  go_wp2_with fail
  refine (HP' _).mono ?_; rintro e w1 ⟨rfl, hb⟩
  have HB := Lib.hid (below_alloc hb (.cells #[.bool false, .int .i64 0, .int .i64 0, .string ⟨#[]⟩] 30))
  clear hb
  go_wp2_with fail
  go_ret
  exact ⟨rfl, HB.out⟩
theorem trim_ab : trim [97, 98, 0] = [97, 98] := by decide
set_option maxHeartbeats 4000000 in
theorem refused_any (c : Bool) (a n : Int) (s : ByteArray) (hs : s.size ≤ 1099511627776) (h : may c a n s.data.toList = false) (w : World) :
    Calls Try.prog 25 #[.agg #[.bool c, .int .i64 a, .int .i64 n, .string s]] w fun e w' => e = .returned (.bool true) ∧ Below w.heap.size w w' := by
  have HP := fun w => put_any c a n s hs w
  have HA := fun w => apply_any ⟨#[97, 98, 0]⟩ c a n s (by decide) hs w
  rw [apl_no h, show List.take 64 (⟨#[97, 98, 0]⟩ : ByteArray).data.toList = [97, 98, 0] from rfl, trim_ab, show bs [97, 98] = ⟨#[97, 98]⟩ from rfl] at HA
  rw [show putP c a n s.data.toList = [] by simp [putP, h], show ckP c a n s.data.toList = 4 by simp [ckP, h], show bs [] = ⟨#[]⟩ from rfl] at HP
  have HX := Lib.hid (Box.new w 30 #[.bool c, .int .i64 a, .int .i64 n, .string s])
  clear h
  go_enter Try.func25, Try.ntmps25
  go_wp2_with fail
  refine (HP _).mono ?_; rintro e w1 ⟨rfl, hb⟩
  replace HX := Lib.hid (HX.out.later hb)
  clear hb
  obtain ⟨c0, c1, c2, c3⟩ := HX.out.cells
  go_wp2_with fail
  refine (HA _).mono ?_; rintro e w2 ⟨rfl, hb⟩
  replace HX := Lib.hid (HX.out.later hb)
  clear hb
  go_wp2_with fail
  go_ret
  exact ⟨rfl, HX.out.below⟩
theorem put_xy : bs (putP false 2 0 [120, 121]) = ⟨#[1, 2, 0, 2, 120, 121]⟩ ∧ ckP false 2 0 [120, 121] = 0 := by decide +kernel
theorem apl_xy : bs (apl [97, 98] false 2 0 [120, 121]) = ⟨#[97, 98, 120, 121]⟩ := by decide +kernel
theorem trim_works : bs (trim [97, 0, 98, 0, 0]) = ⟨#[97, 0, 98]⟩ := by decide +kernel
set_option maxHeartbeats 4000000 in
theorem works_any (w : World) : Calls Try.prog 9 #[] w fun e w' => e = .returned (.bool true) ∧ Below w.heap.size w w' := by
  have H1 := fun w => puts_any false 2 0 ⟨#[120, 121]⟩ ⟨#[1, 2, 0, 2, 120, 121]⟩ (by decide) put_xy.1 put_xy.2 w
  have H2 := fun w => apply_any ⟨#[97, 98]⟩ false 2 0 ⟨#[120, 121]⟩ (by decide) (by decide) w
  rw [show bs (apl (⟨#[97, 98]⟩ : ByteArray).data.toList false 2 0 (⟨#[120, 121]⟩ : ByteArray).data.toList) = ⟨#[97, 98, 120, 121]⟩ from apl_xy] at H2
  have H3 := fun w => trim_any ⟨#[97, 0, 98, 0, 0]⟩ (by decide) w
  rw [show bs (trim (⟨#[97, 0, 98, 0, 0]⟩ : ByteArray).data.toList) = ⟨#[97, 0, 98]⟩ from trim_works] at H3
  have H4 := fun w => fails_any ⟨#[]⟩ 10 (by decide) rfl w
  have HX := Lib.hid (Box.new w 30 #[.bool false, .int .i64 2, .int .i64 0, .string ⟨#[120, 121]⟩])
  go_enter Try.func9, Try.ntmps9
  go_wp2_with fail
  refine (H1 _).mono ?_; rintro e w1 ⟨rfl, hb⟩
  replace HX := Lib.hid (HX.out.later hb)
  clear hb
  obtain ⟨c0, c1, c2, c3⟩ := HX.out.cells
  go_wp2_with fail
  refine (H2 _).mono ?_; rintro e w2 ⟨rfl, hb⟩
  replace HX := Lib.hid (HX.out.later hb)
  clear hb c0 c1 c2 c3
  go_wp2_with fail
  refine (H3 _).mono ?_; rintro e w3 ⟨rfl, hb⟩
  replace HX := Lib.hid (HX.out.later hb)
  clear hb
  go_wp2_with fail
  refine (H4 _).mono ?_; rintro e w4 ⟨rfl, hb⟩
  replace HX := Lib.hid (HX.out.later hb)
  clear hb
  go_wp2_with fail
  go_ret
  exact ⟨rfl, HX.out.below⟩
end Go.Proofs.Ytadfccgoooafoaa
