/- The statement: what is taken is the document's. Conditions: none but the statement's own. -/
import Derived.Test.YthledgkjfjdjoaaGreatMsX
import Derived.Test.YthledgkjfjdjoaaGreatMsG
namespace Go.Proofs.YthledgkjfjdjoaaGreat.Ms
open Go.ChangeShapes Go.WideShapes Go.RowKit Go.Codec Go.Mt Go.Blk
set_option maxRecDepth 100000
set_option linter.unusedSimpArgs false
set_option linter.unusedVariables false
theorem takes_no (s : ByteArray) (hs : 1000 < s.size) (A : ∀ w, Calls Tryz.prog 11 #[] w fun e w' => e = .returned (.bool true) ∧ Below w.heap.size w w') (w : World) :
    Calls Tryz.prog 4 #[.string s] w fun e w' => e = .returned (.bool true) ∧ Below w.heap.size w w' := by
  go_enter Tryz.func4, Tryz.ntmps4
  go_wp2_with fail
  refine (A _).mono ?_; rintro e w2 ⟨rfl, hb⟩
  go_wp2_with fail
  go_ret
  exact ⟨rfl, hb⟩
theorem takes_yes (s : ByteArray) (hs : s.size ≤ 1000) (o : Int) (k t v : ByteArray) (E : Int) (A : ∀ w, Calls Tryz.prog 11 #[] w fun e w' => e = .returned (.bool true) ∧ Below w.heap.size w w')
    (P : ∀ w, Calls Tryz.prog 16 #[.string s] w fun e w' => e = .returned (.tuple #[.agg #[.int .i64 o, .string k, .string t, .string v], .int .i64 E]) ∧ Below w.heap.size w w')
    (D : ∀ w, Calls Tryz.prog 17 #[.string s] w fun e w' => e = .returned (.tuple #[.agg #[.int .i64 o, .string k, .string t, .string v], .int .i64 E]) ∧ Below w.heap.size w w') (w : World) :
    Calls Tryz.prog 4 #[.string s] w fun e w' => e = .returned (.bool true) ∧ Below w.heap.size w w' := by
  have HX := Lib.hid (Mt.Fr.nil w)
  have eq := eqSame
  go_enter Tryz.func4, Tryz.ntmps4
  go_wp2_with fail
  refine (P _).mono ?_; rintro e w1 ⟨rfl, hb⟩
  replace HX := Lib.hid ((HX.out.later hb).new 23 #[.int .i64 o, .string k, .string t, .string v]); clear hb
  go_wp2_with fail
  refine (D _).mono ?_; rintro e w2 ⟨rfl, hb⟩
  replace HX := Lib.hid ((HX.out.later hb).new 23 #[.int .i64 o, .string k, .string t, .string v]); clear hb
  obtain ⟨c0, c1, c2, c3⟩ := HX.out.c4 0 rfl
  obtain ⟨d0, d1, d2, d3⟩ := HX.out.c4 1 rfl
  go_wp2_with fail
  refine (A _).mono ?_; rintro e w3 ⟨rfl, hb⟩
  replace HX := Lib.hid (HX.out.later hb); clear hb
  go_wp2_with fail
  go_ret
  exact ⟨rfl, HX.out.below⟩
theorem takes_any (s : ByteArray) (w : World) : Calls Tryz.prog 4 #[.string s] w fun e w' => e = .returned (.bool true) ∧ Below w.heap.size w w' := by
  by_cases h : s.size ≤ 1000
  · have P := take_any s (by omega)
    have D := rtake_any s (by omega)
    generalize tkM s.data.toList = T at *
    obtain ⟨⟨o, k, t, v⟩, E⟩ := T
    exact takes_yes s h o k t v E awake_any P D w
  · exact takes_no s (by omega) awake_any w
end Go.Proofs.YthledgkjfjdjoaaGreat.Ms
