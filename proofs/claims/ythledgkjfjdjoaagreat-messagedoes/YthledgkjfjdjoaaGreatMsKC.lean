/- The statement: what is done is the document's. Conditions: none but the statement's own. -/
import Derived.Test.YthledgkjfjdjoaaGreatMsX
import Derived.Test.YthledgkjfjdjoaaGreatMsI
namespace Go.Proofs.YthledgkjfjdjoaaGreat.Ms
open Go.ChangeShapes Go.WideShapes Go.RowKit Go.Codec Go.Mt Go.Blk
set_option maxRecDepth 100000
set_option linter.unusedSimpArgs false
set_option linter.unusedVariables false
theorem does_no (o : Int) (k t v q x : ByteArray) (th : Bool) (A : ∀ w, Calls Tryz.prog 11 #[] w fun e w' => e = .returned (.bool true) ∧ Below w.heap.size w w')
    (b : Bool) (h : b = false ∨ b = true ∧ (1000 < q.size ∨ q.size ≤ 1000 ∧ 1000 < x.size))
    (F : ∀ w, Calls Tryz.prog 10 #[.agg #[.int .i64 o, .string k, .string t, .string v]] w fun e w' => e = .returned (.bool b) ∧ Below w.heap.size w w') (w : World) :
    Calls Tryz.prog 6 #[.agg #[.int .i64 o, .string k, .string t, .string v], .agg #[.string q, .string x, .bool th]] w fun e w' => e = .returned (.bool true) ∧ Below w.heap.size w w' := by
  have HX := Lib.hid (boxK_new w #[.int .i64 o, .string k, .string t, .string v] #[.string q, .string x, .bool th])
  rcases h with rfl | ⟨rfl, h | ⟨h, h2⟩⟩
  all_goals
    go_enter Tryz.func6, Tryz.ntmps6
    go_wp2_with fail
    refine (F _).mono ?_; rintro e w1 ⟨rfl, hb⟩
    replace HX := Lib.hid (HX.out.later hb); clear hb
    obtain ⟨c0, c1, c2⟩ := HX.out.c3 1 rfl
    go_wp2_with fail
    refine (A _).mono ?_; rintro e w2 ⟨rfl, hb⟩
    replace HX := Lib.hid (HX.out.later hb); clear hb
    go_wp2_with fail
    go_ret
    exact ⟨rfl, HX.out.below⟩
theorem does_yes (o : Int) (k t v q x R : ByteArray) (th b : Bool) (hq : q.size ≤ 1000) (hx : x.size ≤ 1000) (A : ∀ w, Calls Tryz.prog 11 #[] w fun e w' => e = .returned (.bool true) ∧ Below w.heap.size w w')
    (F : ∀ w, Calls Tryz.prog 10 #[.agg #[.int .i64 o, .string k, .string t, .string v]] w fun e w' => e = .returned (.bool true) ∧ Below w.heap.size w w')
    (P : ∀ w, Calls Tryz.prog 22 #[.agg #[.int .i64 o, .string k, .string t, .string v], .string q, .string x, .bool th] w fun e w' => e = .returned (.tuple #[.string R, .bool b]) ∧ Below w.heap.size w w')
    (D : ∀ w, Calls Tryz.prog 23 #[.agg #[.int .i64 o, .string k, .string t, .string v], .string q, .string x, .bool th] w fun e w' => e = .returned (.tuple #[.string R, .bool b]) ∧ Below w.heap.size w w') (w : World) :
    Calls Tryz.prog 6 #[.agg #[.int .i64 o, .string k, .string t, .string v], .agg #[.string q, .string x, .bool th]] w fun e w' => e = .returned (.bool true) ∧ Below w.heap.size w w' := by
  have HX := Lib.hid (boxK_new w #[.int .i64 o, .string k, .string t, .string v] #[.string q, .string x, .bool th])
  have hbb : (b == b) = true := by simp
  go_enter Tryz.func6, Tryz.ntmps6
  go_wp2_with fail
  refine (F _).mono ?_; rintro e w1 ⟨rfl, hb⟩
  replace HX := Lib.hid (HX.out.later hb); clear hb
  obtain ⟨c0, c1, c2, c3⟩ := HX.out.c4 0 rfl
  obtain ⟨d0, d1, d2⟩ := HX.out.c3 1 rfl
  go_wp2_with fail
  refine (P _).mono ?_; rintro e w2 ⟨rfl, hb⟩
  replace HX := Lib.hid (HX.out.later hb); clear hb c0 c1 c2 c3 d0 d1 d2
  obtain ⟨c0, c1, c2, c3⟩ := HX.out.c4 0 rfl
  obtain ⟨d0, d1, d2⟩ := HX.out.c3 1 rfl
  go_wp2_with fail
  refine (D _).mono ?_; rintro e w3 ⟨rfl, hb⟩
  replace HX := Lib.hid (HX.out.later hb); clear hb c0 c1 c2 c3 d0 d1 d2
  go_wp2_with fail
  refine (A _).mono ?_; rintro e w4 ⟨rfl, hb⟩
  replace HX := Lib.hid (HX.out.later hb); clear hb
  go_wp2_with fail
  go_ret
  exact ⟨rfl, HX.out.below⟩
theorem does_any (m : Msg) (q x : ByteArray) (th : Bool) (w : World) : Calls Tryz.prog 6 #[m.val, .agg #[.string q, .string x, .bool th]] w fun e w' => e = .returned (.bool true) ∧ Below w.heap.size w w' := by
  by_cases h : small m
  · have F := few_yes m h
    by_cases hq : q.size ≤ 1000
    · by_cases hx : x.size ≤ 1000
      · have P := fun w => apply_any m q x th (by have := h.2.2; omega) (by omega) w
        have D := fun w => rapply_any m q x th (by have := h.2.2; omega) (by omega) w
        generalize doV m q x th = R at *
        obtain ⟨R, b⟩ := R
        obtain ⟨o, k, t, v⟩ := m
        exact does_yes o k t v q x R th b hq hx awake_any F P D w
      · obtain ⟨o, k, t, v⟩ := m
        exact does_no o k t v q x th awake_any true (.inr ⟨rfl, .inr ⟨hq, by omega⟩⟩) F w
    · obtain ⟨o, k, t, v⟩ := m
      exact does_no o k t v q x th awake_any true (.inr ⟨rfl, .inl (by omega)⟩) F w
  · have F := few_no m h
    obtain ⟨o, k, t, v⟩ := m
    exact does_no o k t v q x th awake_any false (.inl rfl) F w
end Go.Proofs.YthledgkjfjdjoaaGreat.Ms
