/- The statement: what is put is the document's. Conditions: none but the statement's own. -/
import Derived.Test.YthledgkjfjdjoaaGreatMsX
import Derived.Test.YthledgkjfjdjoaaGreatMsF
namespace Go.Proofs.YthledgkjfjdjoaaGreat.Ms
open Go.ChangeShapes Go.WideShapes Go.RowKit Go.Codec Go.Mt Go.Blk
set_option maxRecDepth 100000
set_option linter.unusedSimpArgs false
set_option linter.unusedVariables false
theorem puts_no (o : Int) (k t v : ByteArray) (A : ∀ w, Calls Tryz.prog 11 #[] w fun e w' => e = .returned (.bool true) ∧ Below w.heap.size w w')
    (F : ∀ w, Calls Tryz.prog 10 #[.agg #[.int .i64 o, .string k, .string t, .string v]] w fun e w' => e = .returned (.bool false) ∧ Below w.heap.size w w') (w : World) :
    Calls Tryz.prog 3 #[.agg #[.int .i64 o, .string k, .string t, .string v]] w fun e w' => e = .returned (.bool true) ∧ Below w.heap.size w w' := by
  have HX := Lib.hid (Bk.Box.new w 23 #[.int .i64 o, .string k, .string t, .string v])
  go_enter Tryz.func3, Tryz.ntmps3
  go_wp2_with fail
  refine (F _).mono ?_; rintro e w1 ⟨rfl, hb⟩
  replace HX := Lib.hid (HX.out.later hb); clear hb
  go_wp2_with fail
  refine (A _).mono ?_; rintro e w2 ⟨rfl, hb⟩
  replace HX := Lib.hid (HX.out.later hb); clear hb
  go_wp2_with fail
  go_ret
  exact ⟨rfl, HX.out.below⟩
theorem puts_yes (o : Int) (k t v T : ByteArray) (E n : Int) (hn : (T.size : Int) = n) (A : ∀ w, Calls Tryz.prog 11 #[] w fun e w' => e = .returned (.bool true) ∧ Below w.heap.size w w')
    (F : ∀ w, Calls Tryz.prog 10 #[.agg #[.int .i64 o, .string k, .string t, .string v]] w fun e w' => e = .returned (.bool true) ∧ Below w.heap.size w w')
    (P : ∀ w, Calls Tryz.prog 12 #[.agg #[.int .i64 o, .string k, .string t, .string v]] w fun e w' => e = .returned (.tuple #[.string T, .int .i64 E]) ∧ Below w.heap.size w w')
    (D : ∀ w, Calls Tryz.prog 13 #[.agg #[.int .i64 o, .string k, .string t, .string v]] w fun e w' => e = .returned (.tuple #[.string T, .int .i64 E]) ∧ Below w.heap.size w w')
    (C : ∀ w, Calls Tryz.prog 14 #[.agg #[.int .i64 o, .string k, .string t, .string v]] w fun e w' => e = .returned (.int .i64 E) ∧ Below w.heap.size w w')
    (S : ∀ w, Calls Tryz.prog 15 #[.agg #[.int .i64 o, .string k, .string t, .string v]] w fun e w' => e = .returned (.int .i64 T.size) ∧ Below w.heap.size w w') (w : World) :
    Calls Tryz.prog 3 #[.agg #[.int .i64 o, .string k, .string t, .string v]] w fun e w' => e = .returned (.bool true) ∧ Below w.heap.size w w' := by
  have HX := Lib.hid (Bk.Box.new w 23 #[.int .i64 o, .string k, .string t, .string v])
  go_enter Tryz.func3, Tryz.ntmps3
  go_wp2_with fail
  refine (F _).mono ?_; rintro e w1 ⟨rfl, hb⟩
  replace HX := Lib.hid (HX.out.later hb); clear hb
  obtain ⟨c0, c1, c2, c3⟩ := HX.out.cells
  go_wp2_with fail
  refine (P _).mono ?_; rintro e w2 ⟨rfl, hb⟩
  replace HX := Lib.hid (HX.out.later hb); clear hb c0 c1 c2 c3
  obtain ⟨c0, c1, c2, c3⟩ := HX.out.cells
  go_wp2_with fail
  refine (D _).mono ?_; rintro e w3 ⟨rfl, hb⟩
  replace HX := Lib.hid (HX.out.later hb); clear hb c0 c1 c2 c3
  obtain ⟨c0, c1, c2, c3⟩ := HX.out.cells
  go_wp2_with fail
  refine (C _).mono ?_; rintro e w4 ⟨rfl, hb⟩
  replace HX := Lib.hid (HX.out.later hb); clear hb c0 c1 c2 c3
  obtain ⟨c0, c1, c2, c3⟩ := HX.out.cells
  go_wp2_with fail
  refine (S _).mono ?_; rintro e w5 ⟨rfl, hb⟩
  replace HX := Lib.hid (HX.out.later hb); clear hb c0 c1 c2 c3
  go_wp2_with fail
  refine (A _).mono ?_; rintro e w6 ⟨rfl, hb⟩
  replace HX := Lib.hid (HX.out.later hb); clear hb
  go_wp2_with fail
  go_ret
  exact ⟨rfl, HX.out.below⟩
theorem puts_any (m : Msg) (w : World) : Calls Tryz.prog 3 #[m.val] w fun e w' => e = .returned (.bool true) ∧ Below w.heap.size w w' := by
  by_cases h : small m
  · have P := put_any m h.1 h.2.1 h.2.2
    have D := rput_any m h.1 h.2.1 h.2.2
    have C := check_any m (by have := h.2.2; omega)
    have S := size_any m h.1 h.2.1 h.2.2
    rw [← bs_size] at S
    have F := few_yes m h
    obtain ⟨o, k, t, v⟩ := m
    exact puts_yes o k t v _ _ _ rfl awake_any F P D C S w
  · have F := few_no m h
    obtain ⟨o, k, t, v⟩ := m
    exact puts_no o k t v awake_any F w
end Go.Proofs.YthledgkjfjdjoaaGreat.Ms
