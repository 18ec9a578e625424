/- The statement: what is put is taken as what it was, and what is taken has that text. Conditions: none but the statement's own. -/
import Derived.Test.YthledgkjfjdjoaaGreatMsX
import Derived.Test.YthledgkjfjdjoaaGreatMsM
namespace Go.Proofs.YthledgkjfjdjoaaGreat.Ms
open Go.ChangeShapes Go.WideShapes Go.RowKit Go.Codec Go.Mt Go.Blk
set_option maxRecDepth 100000
set_option linter.unusedSimpArgs false
set_option linter.unusedVariables false
theorem back_no (o : Int) (k t v s : ByteArray) (A : ∀ w, Calls Tryz.prog 11 #[] w fun e w' => e = .returned (.bool true) ∧ Below w.heap.size w w')
    (b : Bool) (h : b = false ∨ b = true ∧ 1000 < s.size)
    (F : ∀ w, Calls Tryz.prog 10 #[.agg #[.int .i64 o, .string k, .string t, .string v]] w fun e w' => e = .returned (.bool b) ∧ Below w.heap.size w w') (w : World) :
    Calls Tryz.prog 8 #[.agg #[.int .i64 o, .string k, .string t, .string v], .string s] w fun e w' => e = .returned (.bool true) ∧ Below w.heap.size w w' := by
  have HX := Lib.hid (fr1 w #[.int .i64 o, .string k, .string t, .string v])
  rcases h with rfl | ⟨rfl, h⟩
  all_goals
    go_enter Tryz.func8, Tryz.ntmps8
    go_wp2_with fail
    refine (F _).mono ?_; rintro e w1 ⟨rfl, hb⟩
    replace HX := Lib.hid (HX.out.later hb); clear hb
    go_wp2_with fail
    refine (A _).mono ?_; rintro e w2 ⟨rfl, hb⟩
    replace HX := Lib.hid (HX.out.later hb); clear hb
    go_wp2_with fail
    go_ret
    exact ⟨rfl, HX.out.below⟩
theorem back_00 (o : Int) (k t v s T : ByteArray) (o' : Int) (k' t' v' : ByteArray) (E : Int) (hE : ¬ E = 0) (hE1 : (E == 0) = false) (hE2 : (E != 0) = true) (E2 : Int) (hF : ¬ E2 = 0) (hF1 : (E2 == 0) = false) (hF2 : (E2 != 0) = true) (hs : s.size ≤ 1000) (hT : T.size ≤ 221) (A : ∀ w, Calls Tryz.prog 11 #[] w fun e w' => e = .returned (.bool true) ∧ Below w.heap.size w w')
    (F : ∀ w, Calls Tryz.prog 10 #[.agg #[.int .i64 o, .string k, .string t, .string v]] w fun e w' => e = .returned (.bool true) ∧ Below w.heap.size w w')
    (P : ∀ w, Calls Tryz.prog 12 #[.agg #[.int .i64 o, .string k, .string t, .string v]] w fun e w' => e = .returned (.tuple #[.string T, .int .i64 E]) ∧ Below w.heap.size w w')
    (P2 : ∀ w, Calls Tryz.prog 16 #[.string s] w fun e w' => e = .returned (.tuple #[.agg #[.int .i64 0, .string ⟨#[]⟩, .string ⟨#[]⟩, .string ⟨#[]⟩], .int .i64 E2]) ∧ Below w.heap.size w w')
    (w : World) : Calls Tryz.prog 8 #[.agg #[.int .i64 o, .string k, .string t, .string v], .string s] w fun e w' => e = .returned (.bool true) ∧ Below w.heap.size w w' := by
  have HX := Lib.hid (fr1 w #[.int .i64 o, .string k, .string t, .string v])
  have eq := eqSame
  have ne := neSame
  have sr : ∀ x : ByteArray, (x.toList == x.toList) = true := fun x => by simp
  go_enter Tryz.func8, Tryz.ntmps8
  go_wp2_with fail
  refine (F _).mono ?_; rintro e w1 ⟨rfl, hb⟩
  replace HX := Lib.hid (HX.out.later hb); clear hb
  obtain ⟨c0, c1, c2, c3⟩ := HX.out.c4 0 rfl
  go_wp2_with fail
  refine (P _).mono ?_; rintro e w2 ⟨rfl, hb⟩
  replace HX := Lib.hid (HX.out.later hb); clear hb c0 c1 c2 c3
  go_wp2_with fail
  refine (P2 _).mono ?_; rintro e w4 ⟨rfl, hb⟩
  replace HX := Lib.hid ((HX.out.later hb).new 23 #[.int .i64 0, .string ⟨#[]⟩, .string ⟨#[]⟩, .string ⟨#[]⟩]); clear hb
  obtain ⟨e0, e1, e2, e3⟩ := HX.out.c4 1 rfl
  go_wp2_with fail
  refine (A _).mono ?_; rintro e w6 ⟨rfl, hb⟩
  replace HX := Lib.hid (HX.out.later hb); clear hb
  go_wp2_with fail
  go_ret
  exact ⟨rfl, HX.out.below⟩
theorem back_01 (o : Int) (k t v s T : ByteArray) (o' : Int) (k' t' v' : ByteArray) (E : Int) (hE : ¬ E = 0) (hE1 : (E == 0) = false) (hE2 : (E != 0) = true) (hs : s.size ≤ 1000) (hT : T.size ≤ 221) (A : ∀ w, Calls Tryz.prog 11 #[] w fun e w' => e = .returned (.bool true) ∧ Below w.heap.size w w')
    (F : ∀ w, Calls Tryz.prog 10 #[.agg #[.int .i64 o, .string k, .string t, .string v]] w fun e w' => e = .returned (.bool true) ∧ Below w.heap.size w w')
    (P : ∀ w, Calls Tryz.prog 12 #[.agg #[.int .i64 o, .string k, .string t, .string v]] w fun e w' => e = .returned (.tuple #[.string T, .int .i64 E]) ∧ Below w.heap.size w w')
    (P2 : ∀ w, Calls Tryz.prog 16 #[.string s] w fun e w' => e = .returned (.tuple #[.agg #[.int .i64 o', .string k', .string t', .string v'], .int .i64 0]) ∧ Below w.heap.size w w')
    (D2 : ∀ w, Calls Tryz.prog 12 #[.agg #[.int .i64 o', .string k', .string t', .string v']] w fun e w' => e = .returned (.tuple #[.string s, .int .i64 0]) ∧ Below w.heap.size w w')
    (w : World) : Calls Tryz.prog 8 #[.agg #[.int .i64 o, .string k, .string t, .string v], .string s] w fun e w' => e = .returned (.bool true) ∧ Below w.heap.size w w' := by
  have HX := Lib.hid (fr1 w #[.int .i64 o, .string k, .string t, .string v])
  have eq := eqSame
  have ne := neSame
  have sr : ∀ x : ByteArray, (x.toList == x.toList) = true := fun x => by simp
  go_enter Tryz.func8, Tryz.ntmps8
  go_wp2_with fail
  refine (F _).mono ?_; rintro e w1 ⟨rfl, hb⟩
  replace HX := Lib.hid (HX.out.later hb); clear hb
  obtain ⟨c0, c1, c2, c3⟩ := HX.out.c4 0 rfl
  go_wp2_with fail
  refine (P _).mono ?_; rintro e w2 ⟨rfl, hb⟩
  replace HX := Lib.hid (HX.out.later hb); clear hb c0 c1 c2 c3
  go_wp2_with fail
  refine (P2 _).mono ?_; rintro e w4 ⟨rfl, hb⟩
  replace HX := Lib.hid ((HX.out.later hb).new 23 #[.int .i64 o', .string k', .string t', .string v']); clear hb
  obtain ⟨e0, e1, e2, e3⟩ := HX.out.c4 1 rfl
  go_wp2_with fail
  refine (D2 _).mono ?_; rintro e w5 ⟨rfl, hb⟩
  replace HX := Lib.hid (HX.out.later hb); clear hb
  go_wp2_with fail
  refine (A _).mono ?_; rintro e w6 ⟨rfl, hb⟩
  replace HX := Lib.hid (HX.out.later hb); clear hb
  go_wp2_with fail
  go_ret
  exact ⟨rfl, HX.out.below⟩
theorem back_10 (o : Int) (k t v s T : ByteArray) (o' : Int) (k' t' v' : ByteArray) (E2 : Int) (hF : ¬ E2 = 0) (hF1 : (E2 == 0) = false) (hF2 : (E2 != 0) = true) (hs : s.size ≤ 1000) (hT : T.size ≤ 221) (A : ∀ w, Calls Tryz.prog 11 #[] w fun e w' => e = .returned (.bool true) ∧ Below w.heap.size w w')
    (F : ∀ w, Calls Tryz.prog 10 #[.agg #[.int .i64 o, .string k, .string t, .string v]] w fun e w' => e = .returned (.bool true) ∧ Below w.heap.size w w')
    (P : ∀ w, Calls Tryz.prog 12 #[.agg #[.int .i64 o, .string k, .string t, .string v]] w fun e w' => e = .returned (.tuple #[.string T, .int .i64 0]) ∧ Below w.heap.size w w')
    (D : ∀ w, Calls Tryz.prog 16 #[.string T] w fun e w' => e = .returned (.tuple #[.agg #[.int .i64 o, .string k, .string t, .string v], .int .i64 0]) ∧ Below w.heap.size w w')
    (P2 : ∀ w, Calls Tryz.prog 16 #[.string s] w fun e w' => e = .returned (.tuple #[.agg #[.int .i64 0, .string ⟨#[]⟩, .string ⟨#[]⟩, .string ⟨#[]⟩], .int .i64 E2]) ∧ Below w.heap.size w w')
    (w : World) : Calls Tryz.prog 8 #[.agg #[.int .i64 o, .string k, .string t, .string v], .string s] w fun e w' => e = .returned (.bool true) ∧ Below w.heap.size w w' := by
  have HX := Lib.hid (fr1 w #[.int .i64 o, .string k, .string t, .string v])
  have eq := eqSame
  have ne := neSame
  have sr : ∀ x : ByteArray, (x.toList == x.toList) = true := fun x => by simp
  go_enter Tryz.func8, Tryz.ntmps8
  go_wp2_with fail
  refine (F _).mono ?_; rintro e w1 ⟨rfl, hb⟩
  replace HX := Lib.hid (HX.out.later hb); clear hb
  obtain ⟨c0, c1, c2, c3⟩ := HX.out.c4 0 rfl
  go_wp2_with fail
  refine (P _).mono ?_; rintro e w2 ⟨rfl, hb⟩
  replace HX := Lib.hid (HX.out.later hb); clear hb c0 c1 c2 c3
  go_wp2_with fail
  refine (D _).mono ?_; rintro e w3 ⟨rfl, hb⟩
  replace HX := Lib.hid ((HX.out.later hb).new 23 #[.int .i64 o, .string k, .string t, .string v]); clear hb
  obtain ⟨c0, c1, c2, c3⟩ := HX.out.c4 0 rfl
  obtain ⟨d0, d1, d2, d3⟩ := HX.out.c4 1 rfl
  go_wp2_with fail
  refine (P2 _).mono ?_; rintro e w4 ⟨rfl, hb⟩
  replace HX := Lib.hid ((HX.out.later hb).new 23 #[.int .i64 0, .string ⟨#[]⟩, .string ⟨#[]⟩, .string ⟨#[]⟩]); clear hb
  obtain ⟨e0, e1, e2, e3⟩ := HX.out.c4 2 rfl
  go_wp2_with fail
  refine (A _).mono ?_; rintro e w6 ⟨rfl, hb⟩
  replace HX := Lib.hid (HX.out.later hb); clear hb
  go_wp2_with fail
  go_ret
  exact ⟨rfl, HX.out.below⟩
theorem back_11 (o : Int) (k t v s T : ByteArray) (o' : Int) (k' t' v' : ByteArray) (hs : s.size ≤ 1000) (hT : T.size ≤ 221) (A : ∀ w, Calls Tryz.prog 11 #[] w fun e w' => e = .returned (.bool true) ∧ Below w.heap.size w w')
    (F : ∀ w, Calls Tryz.prog 10 #[.agg #[.int .i64 o, .string k, .string t, .string v]] w fun e w' => e = .returned (.bool true) ∧ Below w.heap.size w w')
    (P : ∀ w, Calls Tryz.prog 12 #[.agg #[.int .i64 o, .string k, .string t, .string v]] w fun e w' => e = .returned (.tuple #[.string T, .int .i64 0]) ∧ Below w.heap.size w w')
    (D : ∀ w, Calls Tryz.prog 16 #[.string T] w fun e w' => e = .returned (.tuple #[.agg #[.int .i64 o, .string k, .string t, .string v], .int .i64 0]) ∧ Below w.heap.size w w')
    (P2 : ∀ w, Calls Tryz.prog 16 #[.string s] w fun e w' => e = .returned (.tuple #[.agg #[.int .i64 o', .string k', .string t', .string v'], .int .i64 0]) ∧ Below w.heap.size w w')
    (D2 : ∀ w, Calls Tryz.prog 12 #[.agg #[.int .i64 o', .string k', .string t', .string v']] w fun e w' => e = .returned (.tuple #[.string s, .int .i64 0]) ∧ Below w.heap.size w w')
    (w : World) : Calls Tryz.prog 8 #[.agg #[.int .i64 o, .string k, .string t, .string v], .string s] w fun e w' => e = .returned (.bool true) ∧ Below w.heap.size w w' := by
  have HX := Lib.hid (fr1 w #[.int .i64 o, .string k, .string t, .string v])
  have eq := eqSame
  have ne := neSame
  have sr : ∀ x : ByteArray, (x.toList == x.toList) = true := fun x => by simp
  go_enter Tryz.func8, Tryz.ntmps8
  go_wp2_with fail
  refine (F _).mono ?_; rintro e w1 ⟨rfl, hb⟩
  replace HX := Lib.hid (HX.out.later hb); clear hb
  obtain ⟨c0, c1, c2, c3⟩ := HX.out.c4 0 rfl
  go_wp2_with fail
  refine (P _).mono ?_; rintro e w2 ⟨rfl, hb⟩
  replace HX := Lib.hid (HX.out.later hb); clear hb c0 c1 c2 c3
  go_wp2_with fail
  refine (D _).mono ?_; rintro e w3 ⟨rfl, hb⟩
  replace HX := Lib.hid ((HX.out.later hb).new 23 #[.int .i64 o, .string k, .string t, .string v]); clear hb
  obtain ⟨c0, c1, c2, c3⟩ := HX.out.c4 0 rfl
  obtain ⟨d0, d1, d2, d3⟩ := HX.out.c4 1 rfl
  go_wp2_with fail
  refine (P2 _).mono ?_; rintro e w4 ⟨rfl, hb⟩
  replace HX := Lib.hid ((HX.out.later hb).new 23 #[.int .i64 o', .string k', .string t', .string v']); clear hb
  obtain ⟨e0, e1, e2, e3⟩ := HX.out.c4 2 rfl
  go_wp2_with fail
  refine (D2 _).mono ?_; rintro e w5 ⟨rfl, hb⟩
  replace HX := Lib.hid (HX.out.later hb); clear hb
  go_wp2_with fail
  refine (A _).mono ?_; rintro e w6 ⟨rfl, hb⟩
  replace HX := Lib.hid (HX.out.later hb); clear hb
  go_wp2_with fail
  go_ret
  exact ⟨rfl, HX.out.below⟩
theorem back_any (m : Msg) (s : ByteArray) (w : World) : Calls Tryz.prog 8 #[m.val, .string s] w fun e w' => e = .returned (.bool true) ∧ Below w.heap.size w w' := by
  by_cases h : small m
  · have F := few_yes m h
    by_cases hs : s.size ≤ 1000
    · have P := put_any m h.1 h.2.1 h.2.2
      have P2 := take_any s (by omega)
      have hlen : (put m).length ≤ 221 := by
        unfold put
        split
        · exact text_len (by assumption)
        · simp
      have sec : ((tkM s.data.toList).e ≠ 0 ∧ (tkM s.data.toList).m = nil) ∨ ((tkM s.data.toList).e = 0 ∧ ∀ w, Calls Tryz.prog 12 #[(tkM s.data.toList).m.val] w fun e w' => e = .returned (.tuple #[.string s, .int .i64 0]) ∧ Below w.heap.size w w') := by
        by_cases h0 : (tkM s.data.toList).e = 0
        · right
          refine ⟨h0, fun w => ?_⟩
          obtain ⟨a1, a2⟩ := take_put h0
          have hz := may_sizes a1
          have Q := put_any (tkM s.data.toList).m (by omega) (by omega) (by omega) w
          rw [put_empty_iff.2 a1] at Q
          unfold put at Q
          rw [if_pos a1, a2, list_bs] at Q
          exact Q
        · exact .inl ⟨h0, take_err _ h0⟩
      generalize tkM s.data.toList = U at *
      obtain ⟨n, E2⟩ := U
      dsimp only at sec P2
      cases hm : may m with
      | false =>
        have hc : ck m = 4 := by unfold ck; rw [hm]; rfl
        rw [hc] at P
        rcases sec with ⟨hF, hn⟩ | ⟨hF, D2⟩
        · subst hn
          obtain ⟨o, k, t, v⟩ := m
          exact back_00 o k t v s _ 0 ⟨#[]⟩ ⟨#[]⟩ ⟨#[]⟩ 4 (by decide) rfl rfl E2 (by omega) (by simpa using hF) (by simpa using hF) hs (by rw [bs_size]; exact hlen) awake_any F P P2 w
        · subst hF
          obtain ⟨o, k, t, v⟩ := m
          obtain ⟨o', k', t', v'⟩ := n
          exact back_01 o k t v s _ o' k' t' v' 4 (by decide) rfl rfl hs (by rw [bs_size]; exact hlen) awake_any F P P2 D2 w
      | true =>
        have hc : ck m = 0 := put_empty_iff.2 hm
        rw [hc] at P
        have hp : put m = text m := by unfold put; rw [if_pos hm]
        have D := take_any (bs (put m)) (by rw [bs_size]; omega)
        rw [bs_list, hp, put_take hm, ← hp] at D
        rcases sec with ⟨hF, hn⟩ | ⟨hF, D2⟩
        · subst hn
          obtain ⟨o, k, t, v⟩ := m
          exact back_10 o k t v s _ 0 ⟨#[]⟩ ⟨#[]⟩ ⟨#[]⟩ E2 (by omega) (by simpa using hF) (by simpa using hF) hs (by rw [bs_size]; exact hlen) awake_any F P D P2 w
        · subst hF
          obtain ⟨o, k, t, v⟩ := m
          obtain ⟨o', k', t', v'⟩ := n
          exact back_11 o k t v s _ o' k' t' v' hs (by rw [bs_size]; exact hlen) awake_any F P D P2 D2 w
    · obtain ⟨o, k, t, v⟩ := m
      exact back_no o k t v s awake_any true (.inr ⟨rfl, by omega⟩) F w
  · have F := few_no m h
    obtain ⟨o, k, t, v⟩ := m
    exact back_no o k t v s awake_any false (.inl rfl) F w
end Go.Proofs.YthledgkjfjdjoaaGreat.Ms
