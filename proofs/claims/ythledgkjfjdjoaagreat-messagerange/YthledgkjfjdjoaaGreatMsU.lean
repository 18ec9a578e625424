/- The law MessageRange. Conditions: none but the statement's own. -/
import Derived.Test.YthledgkjfjdjoaaGreatMsV
import Derived.Test.YthledgkjfjdjoaaGreatMsQ
import Derived.Test.YthledgkjfjdjoaaGreatMsR
import Derived.Test.YthledgkjfjdjoaaGreatMsS
import Derived.Test.YthledgkjfjdjoaaGreatMsT
namespace Go.Proofs.YthledgkjfjdjoaaGreat.Ms
open Go.ChangeShapes Go.WideShapes Go.RowKit Go.Codec Go.Mt Go.Blk
set_option maxRecDepth 100000
set_option linter.unusedSimpArgs false
set_option linter.unusedVariables false
theorem ends (a b : ByteArray) : lt (mx a b) (mn a b) = false := by
  have asym : lt a b = true → lt b a = false := fun h => by
    cases h2 : lt b a with
    | false => rfl
    | true => have := lt_trans h h2; rw [lt_self] at this; cases this
  unfold mx mn
  cases h : lt a b with
  | true => rw [if_pos rfl, asym h, if_neg Bool.false_ne_true]; exact asym h
  | false =>
    rw [if_neg Bool.false_ne_true]
    cases h2 : lt b a with
    | true => rw [if_pos rfl]; exact h
    | false => rw [if_neg Bool.false_ne_true]; exact lt_self a
theorem part_v (m : Msg) (f u : ByteArray) : ((part m f u).getD nil).v.size ≤ m.v.size := by
  cases h : part m f u with
  | none => exact Nat.zero_le _
  | some n => show n.v.size ≤ _; rw [(part_o h).2.1]; exact Nat.le_refl _
theorem df (m : Msg) (q y : ByteArray) (th : Bool) : tch m q = false ∧ (doV m q y th).2 = th ∨ tch m q = true ∧ (m.o = 1 ∧ (doV m q y th).2 = true ∧ (doV m q y th).1 = m.v ∨ m.o = 2 ∧ (doV m q y th).2 = false ∧ (doV m q y th).1 = ⟨#[]⟩ ∨ m.o = 3 ∧ (doV m q y th).2 = false ∧ (doV m q y th).1 = ⟨#[]⟩ ∨ m.o = 4) := by
  cases h : tch m q with
  | false => exact .inl ⟨rfl, do_not h⟩
  | true =>
    refine .inr ⟨rfl, ?_⟩
    have hm : may m = true := by unfold tch at h; simp only [Bool.and_eq_true] at h; exact h.1
    rcases may_ops hm with e | e | e | e
    · left; rw [do_1 h e]; exact ⟨e, rfl, rfl⟩
    · exact .inr (.inr (.inr e))
    · right; left; rw [do_23 h (by omega) (by omega)]; exact ⟨e, rfl, rfl⟩
    · right; right; left; rw [do_23 h (by omega) (by omega)]; exact ⟨e, rfl, rfl⟩
theorem empties {c : ByteArray} (h : c.size = 0) : c.toList = [] ∧ c.toList.isEmpty = true := ⟨list_nil.2 h, by rw [isEmpty_size, decide_eq_true h]⟩
theorem somes {c : ByteArray} (h : ¬ c.size = 0) : ¬ c.toList = [] ∧ c.toList.isEmpty = false := ⟨fun e => h (list_nil.1 e), by rw [isEmpty_size, decide_eq_false h]⟩
theorem range_any (m : Msg) (q y : ByteArray) (th : Bool) (a b c : ByteArray) (w : World) :
    Calls Tryz.prog 9 #[m.val, .agg #[.string q, .string y, .bool th], .agg #[.string a, .string b, .string c]] w fun e w' => e = .returned (.bool true) ∧ Below w.heap.size w w' := by
  by_cases h : small m
  · have F := few_yes m h
    obtain ⟨hs1, hs2, hs3⟩ := h
    by_cases hq : q.size ≤ 1000
    · by_cases hy : y.size ≤ 1000
      · by_cases ha : a.size ≤ 108
        · by_cases hb : b.size ≤ 108
          · by_cases hc : c.size ≤ 108
            · have AW := Lib.hid awake_any
              have FE := Lib.hid F
              have Mn : ∀ ts ty w, (Builtin.min_ ts ty #[.string a, .string b]).run Tryz.prog w = .ok (.string (mn a b)) w := fun ts ty w => run_min_str Tryz.prog a b ts ty w
              have Mx : ∀ ts ty w, (Builtin.max_ ts ty #[.string a, .string b]).run Tryz.prog w = .ok (.string (mx a b)) w := fun ts ty w => run_max_str Tryz.prog a b ts ty w
              have hfd := ends a b
              have hf : (mn a b).size ≤ 108 := by rcases mn_of a b with e | e <;> rw [e] <;> assumption
              have hd : (mx a b).size ≤ 108 := by rcases mx_of a b with e | ⟨e, -⟩ <;> rw [e] <;> assumption
              generalize mn a b = f at *
              generalize mx a b = d at *
              have PP := Lib.hid (part_any m f c (by omega) (by omega) (by omega) (by omega) (by omega))
              have PH := Lib.hid (part_any m d c (by omega) (by omega) (by omega) (by omega) (by omega))
              have PL := Lib.hid (part_any m f d (by omega) (by omega) (by omega) (by omega) (by omega))
              have TM := Lib.hid (touches_any m q (by omega))
              have TP := Lib.hid (touches_any ((part m f c).getD nil) q (by have := part_v m f c; omega))
              have TH := Lib.hid (touches_any ((part m d c).getD nil) q (by have := part_v m d c; omega))
              have TL := Lib.hid (touches_any ((part m f d).getD nil) q (by have := part_v m f d; omega))
              have TN := Lib.hid (touches_any nil q (by decide))
              have AM := Lib.hid (fun w => apply_any m q y th (by omega) (by omega) w)
              have AP := Lib.hid (fun w => apply_any ((part m f c).getD nil) q y th (by have := part_v m f c; omega) (by omega) w)
              rw [tch_part m q f c hf hc] at TP
              rw [tch_part m q d c hd hc] at TH
              rw [tch_part m q f d hf hd] at TL
              rw [tch_nil] at TN
              have DF := Lib.hid (df m q y th)
              have DP := do_part m q y f c th hf hc
              by_cases hcd : c.size ≠ 0 ∧ lt c d = true
              · obtain ⟨o, k, t, v⟩ := m
                exact range_skip o 0 0 0 k t v q y a b c f d ⟨#[]⟩ ⟨#[]⟩ ⟨#[]⟩ ⟨#[]⟩ ⟨#[]⟩ ⟨#[]⟩ ⟨#[]⟩ ⟨#[]⟩ ⟨#[]⟩ ⟨#[]⟩ ⟨#[]⟩ th false false false false w hq hy ha hb hc Mn Mx AW FE (somes hcd.1).1 (somes hcd.1).2 hcd.2
              · have hcd2 : c.size = 0 ∨ c.size ≠ 0 ∧ lt c d = false := by
                  by_cases h0 : c.size = 0
                  · exact .inl h0
                  · refine .inr ⟨h0, ?_⟩
                    cases h1 : lt c d with
                    | false => rfl
                    | true => exact absurd ⟨h0, h1⟩ hcd
                clear hcd
                cases hi : inR q f c with
                | true =>
                  have D := DP hi
                  rw [hi, Bool.and_true] at TP
                  rw [D] at AP
                  clear DP D
                  have hi0 := hi
                  unfold inR at hi
                  simp only [Bool.and_eq_true, Bool.not_eq_true', Bool.or_eq_true, decide_eq_true_eq] at hi
                  obtain ⟨k4, hi⟩ := hi
                  -- the lower part touches it just below the middle
                  have low : ∀ (hd0 : d.size ≠ 0), inR q f d = lt q d := fun hd0 => by unfold inR; rw [k4, decide_eq_false hd0]; simp
                  have high : inR q d c = !lt q d := by
                    unfold inR
                    rcases hi with h0 | h1
                    · rw [decide_eq_true h0]; simp
                    · rw [h1]; simp
                  rw [high] at TH
                  by_cases hd0 : d.size = 0
                  · rw [lt_nil q hd0, Bool.not_false, Bool.and_true] at TH
                    generalize doV m q y th = V at *
                    generalize (part m f c).getD nil = P at *
                    generalize (part m f c).isSome = bp at *
                    generalize (part m d c).getD nil = Q at *
                    generalize (part m d c).isSome = bh at *
                    obtain ⟨A1, B1⟩ := V
                    obtain ⟨po, pk, pt, pv⟩ := P
                    obtain ⟨ho, hk, ht, hv⟩ := Q
                    obtain ⟨o, k, t, v⟩ := m
                    rcases hcd2 with h0 | ⟨h0, h1⟩
                    · exact range_in000 o po 0 ho k t v q y a b c f d pk pt pv ⟨#[]⟩ ⟨#[]⟩ ⟨#[]⟩ hk ht hv A1 ⟨#[]⟩ th B1 false _ false w hq hy ha hb hc Mn Mx AW FE (empties h0).1 (empties h0).2 k4 (empties hd0).1 (empties hd0).2 bp PP bh PH TM TP TN TH AM AP DF
                    · exact range_in100 o po 0 ho k t v q y a b c f d pk pt pv ⟨#[]⟩ ⟨#[]⟩ ⟨#[]⟩ hk ht hv A1 ⟨#[]⟩ th B1 false _ false w hq hy ha hb hc Mn Mx AW FE (somes h0).1 (somes h0).2 h1 k4 (hi.resolve_left h0) (empties hd0).1 (empties hd0).2 bp PP bh PH TM TP TN TH AM AP DF
                  · rw [low hd0] at TL
                    cases hl : tch m q && lt q d with
                    | true =>
                      have hl2 := hl
                      rw [Bool.and_eq_true] at hl2
                      rw [hl] at TL
                      rw [hl2.2, Bool.not_true, Bool.and_false] at TH
                      rw [hl2.1] at TM TP
                      have hc1 := hl2.1
                      rw [hl2.1] at DF
                      clear hl hl2
                      generalize doV m q y th = V at *
                      generalize (part m f c).getD nil = P at *
                      generalize (part m f c).isSome = bp at *
                      generalize (part m d c).getD nil = Q at *
                      generalize (part m d c).isSome = bh at *
                      generalize (part m f d).getD nil = L at *
                      generalize (part m f d).isSome = bl at *
                      obtain ⟨A1, B1⟩ := V
                      obtain ⟨po, pk, pt, pv⟩ := P
                      obtain ⟨ho, hk, ht, hv⟩ := Q
                      obtain ⟨lo, lk, lt', lv⟩ := L
                      obtain ⟨o, k, t, v⟩ := m
                      rcases hcd2 with h0 | ⟨h0, h1⟩
                      · exact range_in011 o po lo ho k t v q y a b c f d pk pt pv lk lt' lv hk ht hv A1 ⟨#[]⟩ th B1 false true false w hq hy ha hb hc Mn Mx AW FE (empties h0).1 (empties h0).2 k4 (somes hd0).1 (somes hd0).2 bl PL bp PP bh PH rfl TM TP TL TH AM AP DF
                      · exact range_in111 o po lo ho k t v q y a b c f d pk pt pv lk lt' lv hk ht hv A1 ⟨#[]⟩ th B1 false true false w hq hy ha hb hc Mn Mx AW FE (somes h0).1 (somes h0).2 h1 k4 (hi.resolve_left h0) (somes hd0).1 (somes hd0).2 bl PL bp PP bh PH rfl TM TP TL TH AM AP DF
                    | false =>
                      have hh : (tch m q && !lt q d) = tch m q := by
                        cases h1 : tch m q with
                        | false => rfl
                        | true => rw [h1, Bool.true_and] at hl; rw [hl]; rfl
                      rw [hl] at TL
                      rw [hh] at TH
                      clear hl hh
                      generalize doV m q y th = V at *
                      generalize (part m f c).getD nil = P at *
                      generalize (part m f c).isSome = bp at *
                      generalize (part m d c).getD nil = Q at *
                      generalize (part m d c).isSome = bh at *
                      generalize (part m f d).getD nil = L at *
                      generalize (part m f d).isSome = bl at *
                      obtain ⟨A1, B1⟩ := V
                      obtain ⟨po, pk, pt, pv⟩ := P
                      obtain ⟨ho, hk, ht, hv⟩ := Q
                      obtain ⟨lo, lk, lt', lv⟩ := L
                      obtain ⟨o, k, t, v⟩ := m
                      rcases hcd2 with h0 | ⟨h0, h1⟩
                      · exact range_in010 o po lo ho k t v q y a b c f d pk pt pv lk lt' lv hk ht hv A1 ⟨#[]⟩ th B1 false _ false w hq hy ha hb hc Mn Mx AW FE (empties h0).1 (empties h0).2 k4 (somes hd0).1 (somes hd0).2 bl PL bp PP bh PH TM TP TL TH AM AP DF
                      · exact range_in110 o po lo ho k t v q y a b c f d pk pt pv lk lt' lv hk ht hv A1 ⟨#[]⟩ th B1 false _ false w hq hy ha hb hc Mn Mx AW FE (somes h0).1 (somes h0).2 h1 k4 (hi.resolve_left h0) (somes hd0).1 (somes hd0).2 bl PL bp PP bh PH TM TP TL TH AM AP DF
                | false =>
                  rw [hi, Bool.and_false] at TP
                  clear DP
                  have hlow : d.size ≠ 0 → inR q f d = false := fun hd0 => by
                    unfold inR at hi ⊢
                    rw [decide_eq_false hd0, Bool.false_or]
                    cases h1 : lt q f with
                    | true => rfl
                    | false =>
                      rw [h1] at hi
                      cases h2 : lt q d with
                      | false => rfl
                      | true =>
                        exfalso
                        rcases hcd2 with h0 | ⟨h0, h3⟩
                        · rw [decide_eq_true h0] at hi; cases hi
                        · rw [decide_eq_false h0, lt_le h2 h3] at hi; cases hi
                  have hin : lt q f = true ∨ lt q f = false ∧ c.size ≠ 0 ∧ lt q c = false := by
                    unfold inR at hi
                    cases h1 : lt q f with
                    | true => exact .inl rfl
                    | false =>
                      refine .inr ⟨rfl, ?_⟩
                      rw [h1] at hi
                      by_cases h0 : c.size = 0
                      · rw [decide_eq_true h0] at hi; cases hi
                      · rw [decide_eq_false h0] at hi; exact ⟨h0, by simpa using hi⟩
                  clear hi
                  generalize (tch m q && inR q d c) = h1 at *
                  by_cases hd0 : d.size = 0
                  · generalize doV m q y th = V at *
                    generalize doV ((part m f c).getD nil) q y th = U at *
                    generalize (part m f c).getD nil = P at *
                    generalize (part m f c).isSome = bp at *
                    generalize (part m d c).getD nil = Q at *
                    generalize (part m d c).isSome = bh at *
                    obtain ⟨A1, B1⟩ := V
                    obtain ⟨A2, B2⟩ := U
                    obtain ⟨po, pk, pt, pv⟩ := P
                    obtain ⟨ho, hk, ht, hv⟩ := Q
                    obtain ⟨o, k, t, v⟩ := m
                    rcases hcd2 with h0 | ⟨h0, h3⟩
                    · rcases hin with k4 | ⟨k4, n0, k5⟩
                      · exact range_out000 o po 0 ho k t v q y a b c f d pk pt pv ⟨#[]⟩ ⟨#[]⟩ ⟨#[]⟩ hk ht hv A1 A2 th B1 B2 _ h1 w hq hy ha hb hc Mn Mx AW FE (empties h0).1 (empties h0).2 k4 (empties hd0).1 (empties hd0).2 bp PP bh PH TM TP TN TH AM AP DF
                      · exact absurd h0 n0
                    · rcases hin with k4 | ⟨k4, n0, k5⟩
                      · exact range_out100 o po 0 ho k t v q y a b c f d pk pt pv ⟨#[]⟩ ⟨#[]⟩ ⟨#[]⟩ hk ht hv A1 A2 th B1 B2 _ h1 w hq hy ha hb hc Mn Mx AW FE (somes h0).1 (somes h0).2 h3 k4 (empties hd0).1 (empties hd0).2 bp PP bh PH TM TP TN TH AM AP DF
                      · exact range_out101 o po 0 ho k t v q y a b c f d pk pt pv ⟨#[]⟩ ⟨#[]⟩ ⟨#[]⟩ hk ht hv A1 A2 th B1 B2 _ h1 w hq hy ha hb hc Mn Mx AW FE (somes h0).1 (somes h0).2 h3 k4 k5 (empties hd0).1 (empties hd0).2 bp PP bh PH TM TP TN TH AM AP DF
                  · rw [hlow hd0, Bool.and_false] at TL
                    generalize doV m q y th = V at *
                    generalize doV ((part m f c).getD nil) q y th = U at *
                    generalize (part m f c).getD nil = P at *
                    generalize (part m f c).isSome = bp at *
                    generalize (part m d c).getD nil = Q at *
                    generalize (part m d c).isSome = bh at *
                    generalize (part m f d).getD nil = L at *
                    generalize (part m f d).isSome = bl at *
                    obtain ⟨A1, B1⟩ := V
                    obtain ⟨A2, B2⟩ := U
                    obtain ⟨po, pk, pt, pv⟩ := P
                    obtain ⟨ho, hk, ht, hv⟩ := Q
                    obtain ⟨lo, lk, lt', lv⟩ := L
                    obtain ⟨o, k, t, v⟩ := m
                    rcases hcd2 with h0 | ⟨h0, h3⟩
                    · rcases hin with k4 | ⟨k4, n0, k5⟩
                      · exact range_out010 o po lo ho k t v q y a b c f d pk pt pv lk lt' lv hk ht hv A1 A2 th B1 B2 _ h1 w hq hy ha hb hc Mn Mx AW FE (empties h0).1 (empties h0).2 k4 (somes hd0).1 (somes hd0).2 bl PL bp PP bh PH TM TP TL TH AM AP DF
                      · exact absurd h0 n0
                    · rcases hin with k4 | ⟨k4, n0, k5⟩
                      · exact range_out110 o po lo ho k t v q y a b c f d pk pt pv lk lt' lv hk ht hv A1 A2 th B1 B2 _ h1 w hq hy ha hb hc Mn Mx AW FE (somes h0).1 (somes h0).2 h3 k4 (somes hd0).1 (somes hd0).2 bl PL bp PP bh PH TM TP TL TH AM AP DF
                      · exact range_out111 o po lo ho k t v q y a b c f d pk pt pv lk lt' lv hk ht hv A1 A2 th B1 B2 _ h1 w hq hy ha hb hc Mn Mx AW FE (somes h0).1 (somes h0).2 h3 k4 k5 (somes hd0).1 (somes hd0).2 bl PL bp PP bh PH TM TP TL TH AM AP DF
            · obtain ⟨o, k, t, v⟩ := m
              exact range_no o k t v q y a b c th awake_any true (.inr ⟨rfl, .inr ⟨hq, .inr ⟨hy, .inr ⟨ha, .inr ⟨hb, by omega⟩⟩⟩⟩⟩) F w
          · obtain ⟨o, k, t, v⟩ := m
            exact range_no o k t v q y a b c th awake_any true (.inr ⟨rfl, .inr ⟨hq, .inr ⟨hy, .inr ⟨ha, .inl (by omega)⟩⟩⟩⟩) F w
        · obtain ⟨o, k, t, v⟩ := m
          exact range_no o k t v q y a b c th awake_any true (.inr ⟨rfl, .inr ⟨hq, .inr ⟨hy, .inl (by omega)⟩⟩⟩) F w
      · obtain ⟨o, k, t, v⟩ := m
        exact range_no o k t v q y a b c th awake_any true (.inr ⟨rfl, .inr ⟨hq, .inl (by omega)⟩⟩) F w
    · obtain ⟨o, k, t, v⟩ := m
      exact range_no o k t v q y a b c th awake_any true (.inr ⟨rfl, .inl (by omega)⟩) F w
  · have F := few_no m h
    obtain ⟨o, k, t, v⟩ := m
    exact range_no o k t v q y a b c th awake_any false (.inl rfl) F w
end Go.Proofs.YthledgkjfjdjoaaGreat.Ms
