/- The statement: what a message touches, and what of it lies in a range, is the document's. Conditions: none but the statement's own. -/
import Derived.Test.YthledgkjfjdjoaaGreatMsX
import Derived.Test.YthledgkjfjdjoaaGreatMsH
namespace Go.Proofs.YthledgkjfjdjoaaGreat.Ms
open Go.ChangeShapes Go.WideShapes Go.RowKit Go.Codec Go.Mt Go.Blk
set_option maxRecDepth 100000
set_option linter.unusedSimpArgs false
set_option linter.unusedVariables false
theorem parts_no (o : Int) (k t v q f u : ByteArray) (A : ∀ w, Calls Tryz.prog 11 #[] w fun e w' => e = .returned (.bool true) ∧ Below w.heap.size w w')
    (b : Bool) (h : b = false ∨ b = true ∧ (1000 < q.size ∨ q.size ≤ 1000 ∧ (1000 < f.size ∨ f.size ≤ 1000 ∧ 1000 < u.size)))
    (F : ∀ w, Calls Tryz.prog 10 #[.agg #[.int .i64 o, .string k, .string t, .string v]] w fun e w' => e = .returned (.bool b) ∧ Below w.heap.size w w') (w : World) :
    Calls Tryz.prog 5 #[.agg #[.int .i64 o, .string k, .string t, .string v], .string q, .agg #[.string f, .string u]] w fun e w' => e = .returned (.bool true) ∧ Below w.heap.size w w' := by
  have HX := Lib.hid (boxA_new w #[.int .i64 o, .string k, .string t, .string v] 38 #[.string f, .string u])
  rcases h with rfl | ⟨rfl, h | ⟨h, h | ⟨h1, h2⟩⟩⟩
  all_goals
    go_enter Tryz.func5, Tryz.ntmps5
    go_wp2_with fail
    refine (F _).mono ?_; rintro e w1 ⟨rfl, hb⟩
    replace HX := Lib.hid (HX.out.later hb); clear hb
    obtain ⟨c0, c1, clt⟩ := HX.out.c2 1 rfl
    go_wp2_with fail
    refine (A _).mono ?_; rintro e w2 ⟨rfl, hb⟩
    replace HX := Lib.hid (HX.out.later hb); clear hb
    go_wp2_with fail
    go_ret
    exact ⟨rfl, HX.out.below⟩
set_option maxHeartbeats 4000000 in
theorem parts_yes (o : Int) (k t v q f u : ByteArray) (o' : Int) (k' t' v' : ByteArray) (b c : Bool) (hq : q.size ≤ 1000) (hf : f.size ≤ 1000) (hu : u.size ≤ 1000) (A : ∀ w, Calls Tryz.prog 11 #[] w fun e w' => e = .returned (.bool true) ∧ Below w.heap.size w w')
    (F : ∀ w, Calls Tryz.prog 10 #[.agg #[.int .i64 o, .string k, .string t, .string v]] w fun e w' => e = .returned (.bool true) ∧ Below w.heap.size w w')
    (P : ∀ w, Calls Tryz.prog 18 #[.agg #[.int .i64 o, .string k, .string t, .string v], .string f, .string u] w fun e w' => e = .returned (.tuple #[.agg #[.int .i64 o', .string k', .string t', .string v'], .bool b]) ∧ Below w.heap.size w w')
    (D : ∀ w, Calls Tryz.prog 19 #[.agg #[.int .i64 o, .string k, .string t, .string v], .string f, .string u] w fun e w' => e = .returned (.tuple #[.agg #[.int .i64 o', .string k', .string t', .string v'], .bool b]) ∧ Below w.heap.size w w')
    (T : ∀ w, Calls Tryz.prog 20 #[.agg #[.int .i64 o, .string k, .string t, .string v], .string q] w fun e w' => e = .returned (.bool c) ∧ Below w.heap.size w w')
    (U : ∀ w, Calls Tryz.prog 21 #[.agg #[.int .i64 o, .string k, .string t, .string v], .string q] w fun e w' => e = .returned (.bool c) ∧ Below w.heap.size w w') (w : World) :
    Calls Tryz.prog 5 #[.agg #[.int .i64 o, .string k, .string t, .string v], .string q, .agg #[.string f, .string u]] w fun e w' => e = .returned (.bool true) ∧ Below w.heap.size w w' := by
  have HX := Lib.hid (boxA_new w #[.int .i64 o, .string k, .string t, .string v] 38 #[.string f, .string u])
  have eq := eqSame
  have hbb : (b == b) = true := by simp
  have hcc : (c == c) = true := by simp
  go_enter Tryz.func5, Tryz.ntmps5
  go_wp2_with fail
  refine (F _).mono ?_; rintro e w1 ⟨rfl, hb⟩
  replace HX := Lib.hid (HX.out.later hb); clear hb
  obtain ⟨c0, c1, c2, c3⟩ := HX.out.c4 0 rfl
  obtain ⟨d0, d1, dlt⟩ := HX.out.c2 1 rfl
  go_wp2_with fail
  refine (P _).mono ?_; rintro e w2 ⟨rfl, hb⟩
  replace HX := Lib.hid ((HX.out.later hb).new 23 #[.int .i64 o', .string k', .string t', .string v']); clear hb c0 c1 c2 c3 d0 d1 dlt
  obtain ⟨c0, c1, c2, c3⟩ := HX.out.c4 0 rfl
  obtain ⟨d0, d1, dlt⟩ := HX.out.c2 1 rfl
  go_wp2_with fail
  refine (D _).mono ?_; rintro e w3 ⟨rfl, hb⟩
  replace HX := Lib.hid ((HX.out.later hb).new 23 #[.int .i64 o', .string k', .string t', .string v']); clear hb c0 c1 c2 c3 d0 d1 dlt
  obtain ⟨c0, c1, c2, c3⟩ := HX.out.c4 0 rfl
  obtain ⟨d0, d1, d2, d3⟩ := HX.out.c4 2 rfl
  obtain ⟨e0, e1, e2, e3⟩ := HX.out.c4 3 rfl
  have hp := HX.out
  have hpd := hp.drew
  have T' := Lib.hid fun (wx : World) (h : Mt.Fr w ([(w.heap.size, 23, #[.int .i64 o, .string k, .string t, .string v]), (w.heap.size + 1, 38, #[.string f, .string u])] ++ [(w2.heap.size, 23, #[.int .i64 o', .string k', .string t', .string v'])] ++ [(w3.heap.size, 23, #[.int .i64 o', .string k', .string t', .string v'])]) wx) => Mt.Fr.carry h (T wx)
  have U' := Lib.hid fun (wx : World) (h : Mt.Fr w ([(w.heap.size, 23, #[.int .i64 o, .string k, .string t, .string v]), (w.heap.size + 1, 38, #[.string f, .string u])] ++ [(w2.heap.size, 23, #[.int .i64 o', .string k', .string t', .string v'])] ++ [(w3.heap.size, 23, #[.int .i64 o', .string k', .string t', .string v'])]) wx) => Mt.Fr.carry h (U wx)
  have A' := Lib.hid fun (wx : World) (h : Mt.Fr w ([(w.heap.size, 23, #[.int .i64 o, .string k, .string t, .string v]), (w.heap.size + 1, 38, #[.string f, .string u])] ++ [(w2.heap.size, 23, #[.int .i64 o', .string k', .string t', .string v'])] ++ [(w3.heap.size, 23, #[.int .i64 o', .string k', .string t', .string v'])]) wx) => Mt.Fr.carry h (A wx)
  go_upto_region 5 with fail
  go_region_held3 (fun wx => (wx.cell? ⟨w.heap.size, 0, none⟩ = some (.int .i64 o) ∧ wx.cell? ⟨w.heap.size, 1, none⟩ = some (.string k) ∧ wx.cell? ⟨w.heap.size, 2, none⟩ = some (.string t) ∧ wx.cell? ⟨w.heap.size, 3, none⟩ = some (.string v)) ∧ (wx.cell? ⟨w2.heap.size, 0, none⟩ = some (.int .i64 o') ∧ wx.cell? ⟨w2.heap.size, 1, none⟩ = some (.string k') ∧ wx.cell? ⟨w2.heap.size, 2, none⟩ = some (.string t') ∧ wx.cell? ⟨w2.heap.size, 3, none⟩ = some (.string v')) ∧ (wx.cell? ⟨w3.heap.size, 0, none⟩ = some (.int .i64 o') ∧ wx.cell? ⟨w3.heap.size, 1, none⟩ = some (.string k') ∧ wx.cell? ⟨w3.heap.size, 2, none⟩ = some (.string t') ∧ wx.cell? ⟨w3.heap.size, 3, none⟩ = some (.string v')))
    (first | (with_reducible exact ⟨Mt.Fr.c4 (by assumption) 0 rfl, Mt.Fr.c4 (by assumption) 2 rfl, Mt.Fr.c4 (by assumption) 3 rfl⟩))
    (first
      | (with_reducible refine (T'.out _ (by assumption)).mono ?_; rintro e w1 ⟨rfl, hp⟩)
      | (with_reducible refine (U'.out _ (by assumption)).mono ?_; rintro e w1 ⟨rfl, hp⟩)
      | (with_reducible refine (A'.out _ (by assumption)).mono ?_; rintro e w1 ⟨rfl, hp⟩))
  all_goals
    go_wp2
    go_ret
    exact ⟨rfl, hp.below⟩
theorem parts_any (m : Msg) (q f u : ByteArray) (w : World) : Calls Tryz.prog 5 #[m.val, .string q, .agg #[.string f, .string u]] w fun e w' => e = .returned (.bool true) ∧ Below w.heap.size w w' := by
  by_cases h : small m
  · have F := few_yes m h
    obtain ⟨h1, h2, h3⟩ := h
    by_cases hq : q.size ≤ 1000
    · by_cases hf : f.size ≤ 1000
      · by_cases hu : u.size ≤ 1000
        · have P := part_any m f u (by omega) (by omega) (by omega) (by omega) (by omega)
          have D := rpart_any m f u (by omega)
          have T := touches_any m q (by omega)
          have U := rtouches_any m q (by omega)
          generalize tch m q = c at *
          generalize (part m f u).getD nil = n at *
          generalize (part m f u).isSome = b at *
          obtain ⟨o, k, t, v⟩ := m
          obtain ⟨o', k', t', v'⟩ := n
          exact parts_yes o k t v q f u o' k' t' v' b c hq hf hu awake_any F P D T U w
        · obtain ⟨o, k, t, v⟩ := m
          exact parts_no o k t v q f u awake_any true (.inr ⟨rfl, .inr ⟨hq, .inr ⟨hf, by omega⟩⟩⟩) F w
      · obtain ⟨o, k, t, v⟩ := m
        exact parts_no o k t v q f u awake_any true (.inr ⟨rfl, .inr ⟨hq, .inl (by omega)⟩⟩) F w
    · obtain ⟨o, k, t, v⟩ := m
      exact parts_no o k t v q f u awake_any true (.inr ⟨rfl, .inl (by omega)⟩) F w
  · have F := few_no m h
    obtain ⟨o, k, t, v⟩ := m
    exact parts_no o k t v q f u awake_any false (.inl rfl) F w
end Go.Proofs.YthledgkjfjdjoaaGreat.Ms
