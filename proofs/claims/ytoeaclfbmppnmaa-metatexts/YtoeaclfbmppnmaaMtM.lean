/- The laws MetaTexts, MetaChanges, MetaDoes. Conditions: numbers of their kinds. -/
import Derived.Test.YtoeaclfbmppnmaaMtL
namespace Go.Proofs.Ytoeaclfbmppnmaa
open Go.ChangeShapes Go.WideShapes Go.RowKit Go.Codec Go.Num Go.Mt
set_option maxRecDepth 100000
set_option linter.unusedSimpArgs false
set_option linter.unusedVariables false
set_option maxHeartbeats 4000000 in
theorem texts_long (k sz mk st : Nat) (s : ByteArray) (hs : (1000 : Int) < (s.size : Int)) (w : World) :
    Calls Try.prog 3 #[.agg #[.int .u8 k, .int .u32 sz, .int .u64 mk, .int .u64 st], .string s] w fun e w' => e = .returned (.bool true) ∧ Below w.heap.size w w' := by
  have HX := Lib.hid (Box.new w 25 #[.int .u8 k, .int .u32 sz, .int .u64 mk, .int .u64 st])
  go_enter Try.func3, Try.ntmps3
  go_wp2_with fail
  refine (awake_any _).mono ?_; rintro e w1 ⟨rfl, hb⟩
  replace HX := Lib.hid (HX.out.later hb)
  go_wp2_with fail
  go_ret
  exact ⟨rfl, HX.out.below⟩
set_option maxHeartbeats 4000000 in
theorem texts_core (k sz mk st : Nat) (s : ByteArray) (hs : ¬ (1000 : Int) < (s.size : Int)) (T : ByteArray) (E F X0 X1 X2 X3 : Nat) (w : World)
    (P1 : Hid (∀ w, Calls Try.prog 10 #[.agg #[.int .u8 k, .int .u32 sz, .int .u64 mk, .int .u64 st]] w fun e w' => e = .returned (.tuple #[.string T, .int .i64 E]) ∧ Below w.heap.size w w'))
    (P2 : Hid (∀ w, Calls Try.prog 11 #[.agg #[.int .u8 k, .int .u32 sz, .int .u64 mk, .int .u64 st]] w fun e w' => e = .returned (.tuple #[.string T, .int .i64 E]) ∧ Below w.heap.size w w'))
    (T1 : Hid (∀ w, Calls Try.prog 12 #[.string s] w fun e w' => e = .returned (.tuple #[.agg #[.int .u8 X0, .int .u32 X1, .int .u64 X2, .int .u64 X3], .int .i64 F]) ∧ Below w.heap.size w w'))
    (T2 : Hid (∀ w, Calls Try.prog 13 #[.string s] w fun e w' => e = .returned (.tuple #[.agg #[.int .u8 X0, .int .u32 X1, .int .u64 X2, .int .u64 X3], .int .i64 F]) ∧ Below w.heap.size w w'))
    (CK : Hid (∀ w, Calls Try.prog 14 #[.agg #[.int .u8 k, .int .u32 sz, .int .u64 mk, .int .u64 st]] w fun e w' => e = .returned (.int .i64 E) ∧ Below w.heap.size w w')) :
    Calls Try.prog 3 #[.agg #[.int .u8 k, .int .u32 sz, .int .u64 mk, .int .u64 st], .string s] w fun e w' => e = .returned (.bool true) ∧ Below w.heap.size w w' := by
  have HX := Lib.hid (Box.new w 25 #[.int .u8 k, .int .u32 sz, .int .u64 mk, .int .u64 st])
  have HE := eqM
  go_enter Try.func3, Try.ntmps3
  go_wp2_with fail
  refine (P1.out _).mono ?_; rintro e w1 ⟨rfl, hb⟩
  replace HX := Lib.hid (HX.out.later hb); clear hb
  obtain ⟨c0, c1, c2, c3⟩ := HX.out.cells
  go_wp2_with fail
  clear c0 c1 c2 c3
  refine (P2.out _).mono ?_; rintro e w2 ⟨rfl, hb⟩
  replace HX := Lib.hid (HX.out.later hb); clear hb
  go_wp2_with fail
  refine (T1.out _).mono ?_; rintro e w3 ⟨rfl, hb⟩
  replace HX := Lib.hid (HX.out.later hb); clear hb
  have HY := Lib.hid (HX.out.and 25 #[.int .u8 X0, .int .u32 X1, .int .u64 X2, .int .u64 X3])
  go_wp2_with fail
  refine (T2.out _).mono ?_; rintro e w4 ⟨rfl, hb⟩
  replace HY := Lib.hid (HY.out.later hb); clear hb HX
  have HZ := Lib.hid (Is.new w4 25 #[.int .u8 X0, .int .u32 X1, .int .u64 X2, .int .u64 X3])
  replace HY := Lib.hid (HY.out.later (below_alloc (Below.refl _ _) (.cells #[.int .u8 X0, .int .u32 X1, .int .u64 X2, .int .u64 X3] 25)))
  obtain ⟨c0, c1, c2, c3⟩ := HY.out.cells
  go_wp2_with fail
  clear c0 c1 c2 c3
  refine (CK.out _).mono ?_; rintro e w5 ⟨rfl, hb⟩
  replace HY := Lib.hid (HY.out.later hb)
  replace HZ := Lib.hid (HZ.out.kept (grow_below hb none) (by simp))
  clear hb
  obtain ⟨c0, c1, c2, c3⟩ := HY.out.ms
  have d0 := HZ.out.cell 0; have d1 := HZ.out.cell 1; have d2 := HZ.out.cell 2; have d3 := HZ.out.cell 3
  simp at d0 d1 d2 d3
  have hl1 := HY.out.two.lt; have hl2 := HZ.out.lt
  go_wp2_with fail
  refine (awake_any _).mono ?_; rintro e w6 ⟨rfl, hb⟩
  replace HY := Lib.hid (HY.out.later hb)
  go_wp2_with fail
  go_ret
  exact ⟨rfl, HY.out.box.below⟩
theorem texts_any (k sz mk st : Nat) (hk : k < 256) (hz : sz < 4294967296) (hm : mk < 18446744073709551616) (hst : st < 18446744073709551616) (s : ByteArray) (w : World) :
    Calls Try.prog 3 #[.agg #[.int .u8 k, .int .u32 sz, .int .u64 mk, .int .u64 st], .string s] w fun e w' => e = .returned (.bool true) ∧ Below w.heap.size w w' := by
  by_cases hs : (1000 : Int) < (s.size : Int)
  · exact texts_long k sz mk st s hs w
  · exact texts_core k sz mk st s hs _ _ _ _ _ _ _ w (Lib.hid fun w => put_any k sz mk st hk hm w) (Lib.hid fun w => rput_any k sz mk st hk hz hm hst w) (Lib.hid fun w => take_any s (by omega) w) (Lib.hid fun w => rtake_any s (by omega) w) (Lib.hid fun w => check_any k sz mk st hm w)
end Go.Proofs.Ytoeaclfbmppnmaa
