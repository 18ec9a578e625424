/- Which keys a message touches, and what of it lies in a range, by the document. Conditions: lengths below 2^40. -/
import Derived.Test.YthledgkjfjdjoaaGreatMsF
namespace Go.Proofs.YthledgkjfjdjoaaGreat.Ms
open Go.ChangeShapes Go.WideShapes Go.RowKit Go.Codec Go.Mt Go.Blk
set_option maxRecDepth 100000
set_option linter.unusedSimpArgs false
set_option linter.unusedVariables false
theorem rtch_no (o : Int) (k t v q : ByteArray) (H : ∀ w, Calls Tryz.prog 38 #[.agg #[.int .i64 o, .string k, .string t, .string v]] w fun e w' => e = .returned (.bool false) ∧ Below w.heap.size w w') (w : World) :
    Calls Tryz.prog 21 #[.agg #[.int .i64 o, .string k, .string t, .string v], .string q] w fun e w' => e = .returned (.bool false) ∧ Below w.heap.size w w' := by
  have HX := Lib.hid (Bk.Box.new w 23 #[.int .i64 o, .string k, .string t, .string v])
  go_enter Tryz.func21, Tryz.ntmps21
  go_wp2_with fail
  refine (H _).mono ?_; rintro e w1 ⟨rfl, hb⟩
  replace HX := Lib.hid (HX.out.later hb); clear hb
  go_wp2_with fail
  go_ret
  exact ⟨rfl, HX.out.below⟩
theorem rtch_3 (k t v q : ByteArray) (b1 b2 : Bool) (h1 : Op.bytesLess q.toList k.toList = b1) (h2 : Op.bytesLess q.toList t.toList = b2) (H : ∀ w, Calls Tryz.prog 38 #[.agg #[.int .i64 3, .string k, .string t, .string v]] w fun e w' => e = .returned (.bool true) ∧ Below w.heap.size w w') (w : World) :
    Calls Tryz.prog 21 #[.agg #[.int .i64 3, .string k, .string t, .string v], .string q] w fun e w' => e = .returned (.bool (!b1 && b2)) ∧ Below w.heap.size w w' := by
  have HX := Lib.hid (Bk.Box.new w 23 #[.int .i64 3, .string k, .string t, .string v])
  cases b1 <;> cases b2
  all_goals
    go_enter Tryz.func21, Tryz.ntmps21
    go_wp2_with fail
    refine (H _).mono ?_; rintro e w1 ⟨rfl, hb⟩
    replace HX := Lib.hid (HX.out.later hb); clear hb
    obtain ⟨c0, c1, c2, c3⟩ := HX.out.cells
    go_wp2_with fail
    go_ret
    exact ⟨by simp, HX.out.below⟩
theorem rtch_o (o : Int) (ho : (o == 3) = false) (k t v q : ByteArray) (H : ∀ w, Calls Tryz.prog 38 #[.agg #[.int .i64 o, .string k, .string t, .string v]] w fun e w' => e = .returned (.bool true) ∧ Below w.heap.size w w') (w : World) :
    Calls Tryz.prog 21 #[.agg #[.int .i64 o, .string k, .string t, .string v], .string q] w fun e w' => e = .returned (.bool (decide (k = q))) ∧ Below w.heap.size w w' := by
  have HX := Lib.hid (Bk.Box.new w 23 #[.int .i64 o, .string k, .string t, .string v])
  have h1 : (q.toList == k.toList) = decide (k = q) := by rw [eq_bool]; exact decide_eq_decide.2 ⟨fun h => h.symm, fun h => h.symm⟩
  cases hb : decide (k = q) with
  | false =>
    rw [hb] at h1
    have h2 : ¬ q.toList = k.toList := by simpa using h1
    clear hb
    go_enter Tryz.func21, Tryz.ntmps21
    go_wp2_with fail
    refine (H _).mono ?_; rintro e w1 ⟨rfl, hb⟩
    replace HX := Lib.hid (HX.out.later hb); clear hb
    obtain ⟨c0, c1, c2, c3⟩ := HX.out.cells
    go_wp2_with fail
    go_ret
    exact ⟨by simp [h2], HX.out.below⟩
  | true =>
    have h3 : k = q := by simpa using hb
    subst h3
    clear hb h1
    go_enter Tryz.func21, Tryz.ntmps21
    go_wp2_with fail
    refine (H _).mono ?_; rintro e w1 ⟨rfl, hb⟩
    replace HX := Lib.hid (HX.out.later hb); clear hb
    obtain ⟨c0, c1, c2, c3⟩ := HX.out.cells
    go_wp2_with fail
    go_ret
    exact ⟨by simp, HX.out.below⟩
theorem rtouches_any (m : Msg) (q : ByteArray) (hv : m.v.size ≤ 1099511627776) (w : World) : Calls Tryz.prog 21 #[m.val, .string q] w fun e w' => e = .returned (.bool (tch m q)) ∧ Below w.heap.size w w' := by
  have H := rmay_any m hv
  unfold tch
  obtain ⟨o, k, t, v⟩ := m
  unfold Msg.val at H ⊢
  dsimp only at H ⊢
  cases hm : may ⟨o, k, t, v⟩ with
  | false =>
    rw [hm] at H
    rw [Bool.false_and]
    exact rtch_no o k t v q H w
  | true =>
    rw [hm] at H
    rw [Bool.true_and]
    by_cases ho : o = 3
    · subst ho
      rw [if_pos rfl]
      exact rtch_3 k t v q _ _ rfl rfl H w
    · rw [if_neg ho]
      exact rtch_o o (by simpa using ho) k t v q H w
/-- A boxed message, and the answer's cell. -/
abbrev boxes2 (w : World) (msg : Array Value) : List (Nat × TypeId × Array Value) := [(w.heap.size, 23, msg), (w.heap.size + 1, 23, nils)]
theorem boxes2_new (w : World) (msg : Array Value) : Mt.Fr w (boxes2 w msg) ((w.alloc (.cells msg 23)).alloc (.cells nils 23)) := by
  have h := ((Mt.Fr.nil w).new 23 msg).new 23 nils
  rw [show (w.alloc (Obj.cells msg 23)).heap.size = w.heap.size + 1 by simp] at h
  exact h
theorem rpart_no (O : Int) (k t v f u : ByteArray) (H : ∀ w, Calls Tryz.prog 38 #[.agg #[.int .i64 O, .string k, .string t, .string v]] w fun e w' => e = .returned (.bool false) ∧ Below w.heap.size w w') (w : World) :
    Calls Tryz.prog 19 #[.agg #[.int .i64 O, .string k, .string t, .string v], .string f, .string u] w fun e w' => e = .returned (.tuple #[nil.val, .bool false]) ∧ Below w.heap.size w w' := by
  have HX := Lib.hid (boxes2_new w #[.int .i64 O, .string k, .string t, .string v])
  go_enter Tryz.func19, Tryz.ntmps19
  go_wp2_with fail
  refine (H _).mono ?_; rintro e w1 ⟨rfl, hb⟩
  replace HX := Lib.hid (HX.out.later hb); clear hb
  obtain ⟨c0, c1, c2, c3⟩ := HX.out.c4 0 rfl
  obtain ⟨⟨f0, f1, f2, f3⟩, hlz⟩ := HX.out.f4 1 rfl
  obtain ⟨d0, d1, d2, d3⟩ := HX.out.c4 1 rfl
  go_wp2_with fail
  have HZ := Lib.hid (HX.out.four 1 rfl (.int .i64 0) (.string ⟨#[]⟩) (.string ⟨#[]⟩) (.string ⟨#[]⟩))
  obtain ⟨e0, e1, e2, e3⟩ := HZ.out.c4 1 rfl
  exact bodyPost_ret (v := .tuple #[nil.val, .bool false]) (by simp [results, Tryz.results19, go_sem, e0, e1, e2, e3, nil, Msg.val]) rfl ⟨rfl, HZ.out.below⟩
theorem rpart_low (O : Int) (k t v f u : ByteArray) (ho : (O == 3) = false) (ho2 : (O != 3) = true) (H : ∀ w, Calls Tryz.prog 38 #[.agg #[.int .i64 O, .string k, .string t, .string v]] w fun e w' => e = .returned (.bool true) ∧ Below w.heap.size w w') (h1 : Op.bytesLess k.toList f.toList = true) (w : World) :
    Calls Tryz.prog 19 #[.agg #[.int .i64 O, .string k, .string t, .string v], .string f, .string u] w fun e w' => e = .returned (.tuple #[nil.val, .bool false]) ∧ Below w.heap.size w w' := by
  have HX := Lib.hid (boxes2_new w #[.int .i64 O, .string k, .string t, .string v])
  go_enter Tryz.func19, Tryz.ntmps19
  go_wp2_with fail
  refine (H _).mono ?_; rintro e w1 ⟨rfl, hb⟩
  replace HX := Lib.hid (HX.out.later hb); clear hb
  obtain ⟨c0, c1, c2, c3⟩ := HX.out.c4 0 rfl
  obtain ⟨⟨f0, f1, f2, f3⟩, hlz⟩ := HX.out.f4 1 rfl
  obtain ⟨d0, d1, d2, d3⟩ := HX.out.c4 1 rfl
  go_wp2_with fail
  have HZ := Lib.hid (HX.out.four 1 rfl (.int .i64 0) (.string ⟨#[]⟩) (.string ⟨#[]⟩) (.string ⟨#[]⟩))
  obtain ⟨e0, e1, e2, e3⟩ := HZ.out.c4 1 rfl
  exact bodyPost_ret (v := .tuple #[nil.val, .bool false]) (by simp [results, Tryz.results19, go_sem, e0, e1, e2, e3, nil, Msg.val]) rfl ⟨rfl, HZ.out.below⟩
theorem rpart_open (O : Int) (k t v f u : ByteArray) (ho : (O == 3) = false) (ho2 : (O != 3) = true) (H : ∀ w, Calls Tryz.prog 38 #[.agg #[.int .i64 O, .string k, .string t, .string v]] w fun e w' => e = .returned (.bool true) ∧ Below w.heap.size w w') (h1 : Op.bytesLess k.toList f.toList = false) (hu : u = ⟨#[]⟩) (w : World) :
    Calls Tryz.prog 19 #[.agg #[.int .i64 O, .string k, .string t, .string v], .string f, .string u] w fun e w' => e = .returned (.tuple #[.agg #[.int .i64 O, .string k, .string t, .string v], .bool true]) ∧ Below w.heap.size w w' := by
  have HX := Lib.hid (boxes2_new w #[.int .i64 O, .string k, .string t, .string v])
  subst hu
  go_enter Tryz.func19, Tryz.ntmps19
  go_wp2_with fail
  refine (H _).mono ?_; rintro e w1 ⟨rfl, hb⟩
  replace HX := Lib.hid (HX.out.later hb); clear hb
  obtain ⟨c0, c1, c2, c3⟩ := HX.out.c4 0 rfl
  obtain ⟨⟨f0, f1, f2, f3⟩, hlz⟩ := HX.out.f4 1 rfl
  obtain ⟨d0, d1, d2, d3⟩ := HX.out.c4 1 rfl
  go_wp2_with fail
  have HZ := Lib.hid (HX.out.four 1 rfl (.int .i64 O) (.string k) (.string t) (.string v))
  obtain ⟨e0, e1, e2, e3⟩ := HZ.out.c4 1 rfl
  exact bodyPost_ret (v := .tuple #[.agg #[.int .i64 O, .string k, .string t, .string v], .bool true]) (by simp [results, Tryz.results19, go_sem, e0, e1, e2, e3]) rfl ⟨rfl, HZ.out.below⟩
theorem rpart_in (O : Int) (k t v f u : ByteArray) (ho : (O == 3) = false) (ho2 : (O != 3) = true) (H : ∀ w, Calls Tryz.prog 38 #[.agg #[.int .i64 O, .string k, .string t, .string v]] w fun e w' => e = .returned (.bool true) ∧ Below w.heap.size w w') (h1 : Op.bytesLess k.toList f.toList = false) (hu : ¬ u.toList = []) (hu2 : u.toList.isEmpty = false) (h2 : Op.bytesLess k.toList u.toList = true) (w : World) :
    Calls Tryz.prog 19 #[.agg #[.int .i64 O, .string k, .string t, .string v], .string f, .string u] w fun e w' => e = .returned (.tuple #[.agg #[.int .i64 O, .string k, .string t, .string v], .bool true]) ∧ Below w.heap.size w w' := by
  have HX := Lib.hid (boxes2_new w #[.int .i64 O, .string k, .string t, .string v])
  go_enter Tryz.func19, Tryz.ntmps19
  go_wp2_with fail
  refine (H _).mono ?_; rintro e w1 ⟨rfl, hb⟩
  replace HX := Lib.hid (HX.out.later hb); clear hb
  obtain ⟨c0, c1, c2, c3⟩ := HX.out.c4 0 rfl
  obtain ⟨⟨f0, f1, f2, f3⟩, hlz⟩ := HX.out.f4 1 rfl
  obtain ⟨d0, d1, d2, d3⟩ := HX.out.c4 1 rfl
  go_wp2_with fail
  have HZ := Lib.hid (HX.out.four 1 rfl (.int .i64 O) (.string k) (.string t) (.string v))
  obtain ⟨e0, e1, e2, e3⟩ := HZ.out.c4 1 rfl
  exact bodyPost_ret (v := .tuple #[.agg #[.int .i64 O, .string k, .string t, .string v], .bool true]) (by simp [results, Tryz.results19, go_sem, e0, e1, e2, e3]) rfl ⟨rfl, HZ.out.below⟩
theorem rpart_high (O : Int) (k t v f u : ByteArray) (ho : (O == 3) = false) (ho2 : (O != 3) = true) (H : ∀ w, Calls Tryz.prog 38 #[.agg #[.int .i64 O, .string k, .string t, .string v]] w fun e w' => e = .returned (.bool true) ∧ Below w.heap.size w w') (h1 : Op.bytesLess k.toList f.toList = false) (hu : ¬ u.toList = []) (hu2 : u.toList.isEmpty = false) (h2 : Op.bytesLess k.toList u.toList = false) (w : World) :
    Calls Tryz.prog 19 #[.agg #[.int .i64 O, .string k, .string t, .string v], .string f, .string u] w fun e w' => e = .returned (.tuple #[nil.val, .bool false]) ∧ Below w.heap.size w w' := by
  have HX := Lib.hid (boxes2_new w #[.int .i64 O, .string k, .string t, .string v])
  go_enter Tryz.func19, Tryz.ntmps19
  go_wp2_with fail
  refine (H _).mono ?_; rintro e w1 ⟨rfl, hb⟩
  replace HX := Lib.hid (HX.out.later hb); clear hb
  obtain ⟨c0, c1, c2, c3⟩ := HX.out.c4 0 rfl
  obtain ⟨⟨f0, f1, f2, f3⟩, hlz⟩ := HX.out.f4 1 rfl
  obtain ⟨d0, d1, d2, d3⟩ := HX.out.c4 1 rfl
  go_wp2_with fail
  have HZ := Lib.hid (HX.out.four 1 rfl (.int .i64 0) (.string ⟨#[]⟩) (.string ⟨#[]⟩) (.string ⟨#[]⟩))
  obtain ⟨e0, e1, e2, e3⟩ := HZ.out.c4 1 rfl
  exact bodyPost_ret (v := .tuple #[nil.val, .bool false]) (by simp [results, Tryz.results19, go_sem, e0, e1, e2, e3, nil, Msg.val]) rfl ⟨rfl, HZ.out.below⟩
theorem rpart_c0open0 (k t v f u : ByteArray) (H : ∀ w, Calls Tryz.prog 38 #[.agg #[.int .i64 3, .string k, .string t, .string v]] w fun e w' => e = .returned (.bool true) ∧ Below w.heap.size w w') (h1 : (Op.bytesLess f.toList k.toList || f.toList == k.toList) = true) (hu : u = ⟨#[]⟩) (h3 : Op.bytesLess k.toList t.toList = false) (w : World) :
    Calls Tryz.prog 19 #[.agg #[.int .i64 3, .string k, .string t, .string v], .string f, .string u] w fun e w' => e = .returned (.tuple #[nil.val, .bool false]) ∧ Below w.heap.size w w' := by
  have HX := Lib.hid (boxes2_new w #[.int .i64 3, .string k, .string t, .string v])
  subst hu
  go_enter Tryz.func19, Tryz.ntmps19
  go_wp2_with fail
  refine (H _).mono ?_; rintro e w1 ⟨rfl, hb⟩
  replace HX := Lib.hid (HX.out.later hb); clear hb
  obtain ⟨c0, c1, c2, c3⟩ := HX.out.c4 0 rfl
  obtain ⟨⟨f0, f1, f2, f3⟩, hlz⟩ := HX.out.f4 1 rfl
  obtain ⟨d0, d1, d2, d3⟩ := HX.out.c4 1 rfl
  obtain ⟨⟨g0, g1, g2, g3⟩, glz⟩ := HX.out.f4 0 rfl
  go_wp2_with fail
  have HZ := Lib.hid (HX.out.four 1 rfl (.int .i64 0) (.string ⟨#[]⟩) (.string ⟨#[]⟩) (.string ⟨#[]⟩))
  obtain ⟨e0, e1, e2, e3⟩ := HZ.out.c4 1 rfl
  exact bodyPost_ret (v := .tuple #[nil.val, .bool false]) (by simp [results, Tryz.results19, go_sem, e0, e1, e2, e3, nil, Msg.val]) rfl ⟨rfl, HZ.out.below⟩
theorem rpart_c0open1 (k t v f u : ByteArray) (H : ∀ w, Calls Tryz.prog 38 #[.agg #[.int .i64 3, .string k, .string t, .string v]] w fun e w' => e = .returned (.bool true) ∧ Below w.heap.size w w') (h1 : (Op.bytesLess f.toList k.toList || f.toList == k.toList) = true) (hu : u = ⟨#[]⟩) (h3 : Op.bytesLess k.toList t.toList = true) (w : World) :
    Calls Tryz.prog 19 #[.agg #[.int .i64 3, .string k, .string t, .string v], .string f, .string u] w fun e w' => e = .returned (.tuple #[.agg #[.int .i64 3, .string k, .string t, .string v], .bool true]) ∧ Below w.heap.size w w' := by
  have HX := Lib.hid (boxes2_new w #[.int .i64 3, .string k, .string t, .string v])
  subst hu
  go_enter Tryz.func19, Tryz.ntmps19
  go_wp2_with fail
  refine (H _).mono ?_; rintro e w1 ⟨rfl, hb⟩
  replace HX := Lib.hid (HX.out.later hb); clear hb
  obtain ⟨c0, c1, c2, c3⟩ := HX.out.c4 0 rfl
  obtain ⟨⟨f0, f1, f2, f3⟩, hlz⟩ := HX.out.f4 1 rfl
  obtain ⟨d0, d1, d2, d3⟩ := HX.out.c4 1 rfl
  obtain ⟨⟨g0, g1, g2, g3⟩, glz⟩ := HX.out.f4 0 rfl
  go_wp2_with fail
  have HZ := Lib.hid (HX.out.four 1 rfl (.int .i64 3) (.string k) (.string t) (.string v))
  obtain ⟨e0, e1, e2, e3⟩ := HZ.out.c4 1 rfl
  exact bodyPost_ret (v := .tuple #[.agg #[.int .i64 3, .string k, .string t, .string v], .bool true]) (by simp [results, Tryz.results19, go_sem, e0, e1, e2, e3]) rfl ⟨rfl, HZ.out.below⟩
theorem rpart_c0cut0 (k t v f u : ByteArray) (H : ∀ w, Calls Tryz.prog 38 #[.agg #[.int .i64 3, .string k, .string t, .string v]] w fun e w' => e = .returned (.bool true) ∧ Below w.heap.size w w') (h1 : (Op.bytesLess f.toList k.toList || f.toList == k.toList) = true) (hu : ¬ u.toList = []) (hu2 : u.toList.isEmpty = false) (h2 : Op.bytesLess u.toList t.toList = true) (h3 : Op.bytesLess k.toList u.toList = false) (w : World) :
    Calls Tryz.prog 19 #[.agg #[.int .i64 3, .string k, .string t, .string v], .string f, .string u] w fun e w' => e = .returned (.tuple #[nil.val, .bool false]) ∧ Below w.heap.size w w' := by
  have HX := Lib.hid (boxes2_new w #[.int .i64 3, .string k, .string t, .string v])
  go_enter Tryz.func19, Tryz.ntmps19
  go_wp2_with fail
  refine (H _).mono ?_; rintro e w1 ⟨rfl, hb⟩
  replace HX := Lib.hid (HX.out.later hb); clear hb
  obtain ⟨c0, c1, c2, c3⟩ := HX.out.c4 0 rfl
  obtain ⟨⟨f0, f1, f2, f3⟩, hlz⟩ := HX.out.f4 1 rfl
  obtain ⟨d0, d1, d2, d3⟩ := HX.out.c4 1 rfl
  obtain ⟨⟨g0, g1, g2, g3⟩, glz⟩ := HX.out.f4 0 rfl
  go_upto_region 11 with fail
  replace HX := Lib.hid (HX.out.put 0 rfl 2 (.string u))
  clear c0 c1 c2 c3 d0 d1 d2 d3 f0 f1 f2 f3 hlz g0 g1 g2 g3 glz
  generalize World.setCell _ _ _ = w2 at *
  obtain ⟨c0, c1, c2, c3⟩ := HX.out.c4 0 rfl
  obtain ⟨⟨f0, f1, f2, f3⟩, hlz⟩ := HX.out.f4 1 rfl
  obtain ⟨d0, d1, d2, d3⟩ := HX.out.c4 1 rfl
  obtain ⟨⟨g0, g1, g2, g3⟩, glz⟩ := HX.out.f4 0 rfl
  go_wp2_with fail
  have HZ := Lib.hid (HX.out.four 1 rfl (.int .i64 0) (.string ⟨#[]⟩) (.string ⟨#[]⟩) (.string ⟨#[]⟩))
  obtain ⟨e0, e1, e2, e3⟩ := HZ.out.c4 1 rfl
  exact bodyPost_ret (v := .tuple #[nil.val, .bool false]) (by simp [results, Tryz.results19, go_sem, e0, e1, e2, e3, nil, Msg.val]) rfl ⟨rfl, HZ.out.below⟩
theorem rpart_c0cut1 (k t v f u : ByteArray) (H : ∀ w, Calls Tryz.prog 38 #[.agg #[.int .i64 3, .string k, .string t, .string v]] w fun e w' => e = .returned (.bool true) ∧ Below w.heap.size w w') (h1 : (Op.bytesLess f.toList k.toList || f.toList == k.toList) = true) (hu : ¬ u.toList = []) (hu2 : u.toList.isEmpty = false) (h2 : Op.bytesLess u.toList t.toList = true) (h3 : Op.bytesLess k.toList u.toList = true) (w : World) :
    Calls Tryz.prog 19 #[.agg #[.int .i64 3, .string k, .string t, .string v], .string f, .string u] w fun e w' => e = .returned (.tuple #[.agg #[.int .i64 3, .string k, .string u, .string v], .bool true]) ∧ Below w.heap.size w w' := by
  have HX := Lib.hid (boxes2_new w #[.int .i64 3, .string k, .string t, .string v])
  go_enter Tryz.func19, Tryz.ntmps19
  go_wp2_with fail
  refine (H _).mono ?_; rintro e w1 ⟨rfl, hb⟩
  replace HX := Lib.hid (HX.out.later hb); clear hb
  obtain ⟨c0, c1, c2, c3⟩ := HX.out.c4 0 rfl
  obtain ⟨⟨f0, f1, f2, f3⟩, hlz⟩ := HX.out.f4 1 rfl
  obtain ⟨d0, d1, d2, d3⟩ := HX.out.c4 1 rfl
  obtain ⟨⟨g0, g1, g2, g3⟩, glz⟩ := HX.out.f4 0 rfl
  go_upto_region 11 with fail
  replace HX := Lib.hid (HX.out.put 0 rfl 2 (.string u))
  clear c0 c1 c2 c3 d0 d1 d2 d3 f0 f1 f2 f3 hlz g0 g1 g2 g3 glz
  generalize World.setCell _ _ _ = w2 at *
  obtain ⟨c0, c1, c2, c3⟩ := HX.out.c4 0 rfl
  obtain ⟨⟨f0, f1, f2, f3⟩, hlz⟩ := HX.out.f4 1 rfl
  obtain ⟨d0, d1, d2, d3⟩ := HX.out.c4 1 rfl
  obtain ⟨⟨g0, g1, g2, g3⟩, glz⟩ := HX.out.f4 0 rfl
  go_wp2_with fail
  have HZ := Lib.hid (HX.out.four 1 rfl (.int .i64 3) (.string k) (.string u) (.string v))
  obtain ⟨e0, e1, e2, e3⟩ := HZ.out.c4 1 rfl
  exact bodyPost_ret (v := .tuple #[.agg #[.int .i64 3, .string k, .string u, .string v], .bool true]) (by simp [results, Tryz.results19, go_sem, e0, e1, e2, e3]) rfl ⟨rfl, HZ.out.below⟩
theorem rpart_c0far0 (k t v f u : ByteArray) (H : ∀ w, Calls Tryz.prog 38 #[.agg #[.int .i64 3, .string k, .string t, .string v]] w fun e w' => e = .returned (.bool true) ∧ Below w.heap.size w w') (h1 : (Op.bytesLess f.toList k.toList || f.toList == k.toList) = true) (hu : ¬ u.toList = []) (hu2 : u.toList.isEmpty = false) (h2 : Op.bytesLess u.toList t.toList = false) (h3 : Op.bytesLess k.toList t.toList = false) (w : World) :
    Calls Tryz.prog 19 #[.agg #[.int .i64 3, .string k, .string t, .string v], .string f, .string u] w fun e w' => e = .returned (.tuple #[nil.val, .bool false]) ∧ Below w.heap.size w w' := by
  have HX := Lib.hid (boxes2_new w #[.int .i64 3, .string k, .string t, .string v])
  go_enter Tryz.func19, Tryz.ntmps19
  go_wp2_with fail
  refine (H _).mono ?_; rintro e w1 ⟨rfl, hb⟩
  replace HX := Lib.hid (HX.out.later hb); clear hb
  obtain ⟨c0, c1, c2, c3⟩ := HX.out.c4 0 rfl
  obtain ⟨⟨f0, f1, f2, f3⟩, hlz⟩ := HX.out.f4 1 rfl
  obtain ⟨d0, d1, d2, d3⟩ := HX.out.c4 1 rfl
  obtain ⟨⟨g0, g1, g2, g3⟩, glz⟩ := HX.out.f4 0 rfl
  go_wp2_with fail
  have HZ := Lib.hid (HX.out.four 1 rfl (.int .i64 0) (.string ⟨#[]⟩) (.string ⟨#[]⟩) (.string ⟨#[]⟩))
  obtain ⟨e0, e1, e2, e3⟩ := HZ.out.c4 1 rfl
  exact bodyPost_ret (v := .tuple #[nil.val, .bool false]) (by simp [results, Tryz.results19, go_sem, e0, e1, e2, e3, nil, Msg.val]) rfl ⟨rfl, HZ.out.below⟩
theorem rpart_c0far1 (k t v f u : ByteArray) (H : ∀ w, Calls Tryz.prog 38 #[.agg #[.int .i64 3, .string k, .string t, .string v]] w fun e w' => e = .returned (.bool true) ∧ Below w.heap.size w w') (h1 : (Op.bytesLess f.toList k.toList || f.toList == k.toList) = true) (hu : ¬ u.toList = []) (hu2 : u.toList.isEmpty = false) (h2 : Op.bytesLess u.toList t.toList = false) (h3 : Op.bytesLess k.toList t.toList = true) (w : World) :
    Calls Tryz.prog 19 #[.agg #[.int .i64 3, .string k, .string t, .string v], .string f, .string u] w fun e w' => e = .returned (.tuple #[.agg #[.int .i64 3, .string k, .string t, .string v], .bool true]) ∧ Below w.heap.size w w' := by
  have HX := Lib.hid (boxes2_new w #[.int .i64 3, .string k, .string t, .string v])
  go_enter Tryz.func19, Tryz.ntmps19
  go_wp2_with fail
  refine (H _).mono ?_; rintro e w1 ⟨rfl, hb⟩
  replace HX := Lib.hid (HX.out.later hb); clear hb
  obtain ⟨c0, c1, c2, c3⟩ := HX.out.c4 0 rfl
  obtain ⟨⟨f0, f1, f2, f3⟩, hlz⟩ := HX.out.f4 1 rfl
  obtain ⟨d0, d1, d2, d3⟩ := HX.out.c4 1 rfl
  obtain ⟨⟨g0, g1, g2, g3⟩, glz⟩ := HX.out.f4 0 rfl
  go_wp2_with fail
  have HZ := Lib.hid (HX.out.four 1 rfl (.int .i64 3) (.string k) (.string t) (.string v))
  obtain ⟨e0, e1, e2, e3⟩ := HZ.out.c4 1 rfl
  exact bodyPost_ret (v := .tuple #[.agg #[.int .i64 3, .string k, .string t, .string v], .bool true]) (by simp [results, Tryz.results19, go_sem, e0, e1, e2, e3]) rfl ⟨rfl, HZ.out.below⟩
theorem rpart_c1open0 (k t v f u : ByteArray) (H : ∀ w, Calls Tryz.prog 38 #[.agg #[.int .i64 3, .string k, .string t, .string v]] w fun e w' => e = .returned (.bool true) ∧ Below w.heap.size w w') (h1 : (Op.bytesLess f.toList k.toList || f.toList == k.toList) = false) (hu : u = ⟨#[]⟩) (h3 : Op.bytesLess f.toList t.toList = false) (w : World) :
    Calls Tryz.prog 19 #[.agg #[.int .i64 3, .string k, .string t, .string v], .string f, .string u] w fun e w' => e = .returned (.tuple #[nil.val, .bool false]) ∧ Below w.heap.size w w' := by
  have HX := Lib.hid (boxes2_new w #[.int .i64 3, .string k, .string t, .string v])
  subst hu
  go_enter Tryz.func19, Tryz.ntmps19
  go_wp2_with fail
  refine (H _).mono ?_; rintro e w1 ⟨rfl, hb⟩
  replace HX := Lib.hid (HX.out.later hb); clear hb
  obtain ⟨c0, c1, c2, c3⟩ := HX.out.c4 0 rfl
  obtain ⟨⟨f0, f1, f2, f3⟩, hlz⟩ := HX.out.f4 1 rfl
  obtain ⟨d0, d1, d2, d3⟩ := HX.out.c4 1 rfl
  obtain ⟨⟨g0, g1, g2, g3⟩, glz⟩ := HX.out.f4 0 rfl
  go_upto_region 9 with fail
  replace HX := Lib.hid (HX.out.put 0 rfl 1 (.string f))
  clear c0 c1 c2 c3 d0 d1 d2 d3 f0 f1 f2 f3 hlz g0 g1 g2 g3 glz
  generalize World.setCell _ _ _ = w2 at *
  obtain ⟨c0, c1, c2, c3⟩ := HX.out.c4 0 rfl
  obtain ⟨⟨f0, f1, f2, f3⟩, hlz⟩ := HX.out.f4 1 rfl
  obtain ⟨d0, d1, d2, d3⟩ := HX.out.c4 1 rfl
  obtain ⟨⟨g0, g1, g2, g3⟩, glz⟩ := HX.out.f4 0 rfl
  go_wp2_with fail
  have HZ := Lib.hid (HX.out.four 1 rfl (.int .i64 0) (.string ⟨#[]⟩) (.string ⟨#[]⟩) (.string ⟨#[]⟩))
  obtain ⟨e0, e1, e2, e3⟩ := HZ.out.c4 1 rfl
  exact bodyPost_ret (v := .tuple #[nil.val, .bool false]) (by simp [results, Tryz.results19, go_sem, e0, e1, e2, e3, nil, Msg.val]) rfl ⟨rfl, HZ.out.below⟩
theorem rpart_c1open1 (k t v f u : ByteArray) (H : ∀ w, Calls Tryz.prog 38 #[.agg #[.int .i64 3, .string k, .string t, .string v]] w fun e w' => e = .returned (.bool true) ∧ Below w.heap.size w w') (h1 : (Op.bytesLess f.toList k.toList || f.toList == k.toList) = false) (hu : u = ⟨#[]⟩) (h3 : Op.bytesLess f.toList t.toList = true) (w : World) :
    Calls Tryz.prog 19 #[.agg #[.int .i64 3, .string k, .string t, .string v], .string f, .string u] w fun e w' => e = .returned (.tuple #[.agg #[.int .i64 3, .string f, .string t, .string v], .bool true]) ∧ Below w.heap.size w w' := by
  have HX := Lib.hid (boxes2_new w #[.int .i64 3, .string k, .string t, .string v])
  subst hu
  go_enter Tryz.func19, Tryz.ntmps19
  go_wp2_with fail
  refine (H _).mono ?_; rintro e w1 ⟨rfl, hb⟩
  replace HX := Lib.hid (HX.out.later hb); clear hb
  obtain ⟨c0, c1, c2, c3⟩ := HX.out.c4 0 rfl
  obtain ⟨⟨f0, f1, f2, f3⟩, hlz⟩ := HX.out.f4 1 rfl
  obtain ⟨d0, d1, d2, d3⟩ := HX.out.c4 1 rfl
  obtain ⟨⟨g0, g1, g2, g3⟩, glz⟩ := HX.out.f4 0 rfl
  go_upto_region 9 with fail
  replace HX := Lib.hid (HX.out.put 0 rfl 1 (.string f))
  clear c0 c1 c2 c3 d0 d1 d2 d3 f0 f1 f2 f3 hlz g0 g1 g2 g3 glz
  generalize World.setCell _ _ _ = w2 at *
  obtain ⟨c0, c1, c2, c3⟩ := HX.out.c4 0 rfl
  obtain ⟨⟨f0, f1, f2, f3⟩, hlz⟩ := HX.out.f4 1 rfl
  obtain ⟨d0, d1, d2, d3⟩ := HX.out.c4 1 rfl
  obtain ⟨⟨g0, g1, g2, g3⟩, glz⟩ := HX.out.f4 0 rfl
  go_wp2_with fail
  have HZ := Lib.hid (HX.out.four 1 rfl (.int .i64 3) (.string f) (.string t) (.string v))
  obtain ⟨e0, e1, e2, e3⟩ := HZ.out.c4 1 rfl
  exact bodyPost_ret (v := .tuple #[.agg #[.int .i64 3, .string f, .string t, .string v], .bool true]) (by simp [results, Tryz.results19, go_sem, e0, e1, e2, e3]) rfl ⟨rfl, HZ.out.below⟩
theorem rpart_c1cut0 (k t v f u : ByteArray) (H : ∀ w, Calls Tryz.prog 38 #[.agg #[.int .i64 3, .string k, .string t, .string v]] w fun e w' => e = .returned (.bool true) ∧ Below w.heap.size w w') (h1 : (Op.bytesLess f.toList k.toList || f.toList == k.toList) = false) (hu : ¬ u.toList = []) (hu2 : u.toList.isEmpty = false) (h2 : Op.bytesLess u.toList t.toList = true) (h3 : Op.bytesLess f.toList u.toList = false) (w : World) :
    Calls Tryz.prog 19 #[.agg #[.int .i64 3, .string k, .string t, .string v], .string f, .string u] w fun e w' => e = .returned (.tuple #[nil.val, .bool false]) ∧ Below w.heap.size w w' := by
  have HX := Lib.hid (boxes2_new w #[.int .i64 3, .string k, .string t, .string v])
  go_enter Tryz.func19, Tryz.ntmps19
  go_wp2_with fail
  refine (H _).mono ?_; rintro e w1 ⟨rfl, hb⟩
  replace HX := Lib.hid (HX.out.later hb); clear hb
  obtain ⟨c0, c1, c2, c3⟩ := HX.out.c4 0 rfl
  obtain ⟨⟨f0, f1, f2, f3⟩, hlz⟩ := HX.out.f4 1 rfl
  obtain ⟨d0, d1, d2, d3⟩ := HX.out.c4 1 rfl
  obtain ⟨⟨g0, g1, g2, g3⟩, glz⟩ := HX.out.f4 0 rfl
  go_upto_region 9 with fail
  replace HX := Lib.hid (HX.out.put 0 rfl 1 (.string f))
  clear c0 c1 c2 c3 d0 d1 d2 d3 f0 f1 f2 f3 hlz g0 g1 g2 g3 glz
  generalize World.setCell _ _ _ = w2 at *
  obtain ⟨c0, c1, c2, c3⟩ := HX.out.c4 0 rfl
  obtain ⟨⟨f0, f1, f2, f3⟩, hlz⟩ := HX.out.f4 1 rfl
  obtain ⟨d0, d1, d2, d3⟩ := HX.out.c4 1 rfl
  obtain ⟨⟨g0, g1, g2, g3⟩, glz⟩ := HX.out.f4 0 rfl
  go_upto_region 11 with fail
  replace HX := Lib.hid (HX.out.put 0 rfl 2 (.string u))
  clear c0 c1 c2 c3 d0 d1 d2 d3 f0 f1 f2 f3 hlz g0 g1 g2 g3 glz
  generalize World.setCell _ _ _ = w2 at *
  obtain ⟨c0, c1, c2, c3⟩ := HX.out.c4 0 rfl
  obtain ⟨⟨f0, f1, f2, f3⟩, hlz⟩ := HX.out.f4 1 rfl
  obtain ⟨d0, d1, d2, d3⟩ := HX.out.c4 1 rfl
  obtain ⟨⟨g0, g1, g2, g3⟩, glz⟩ := HX.out.f4 0 rfl
  go_wp2_with fail
  have HZ := Lib.hid (HX.out.four 1 rfl (.int .i64 0) (.string ⟨#[]⟩) (.string ⟨#[]⟩) (.string ⟨#[]⟩))
  obtain ⟨e0, e1, e2, e3⟩ := HZ.out.c4 1 rfl
  exact bodyPost_ret (v := .tuple #[nil.val, .bool false]) (by simp [results, Tryz.results19, go_sem, e0, e1, e2, e3, nil, Msg.val]) rfl ⟨rfl, HZ.out.below⟩
theorem rpart_c1cut1 (k t v f u : ByteArray) (H : ∀ w, Calls Tryz.prog 38 #[.agg #[.int .i64 3, .string k, .string t, .string v]] w fun e w' => e = .returned (.bool true) ∧ Below w.heap.size w w') (h1 : (Op.bytesLess f.toList k.toList || f.toList == k.toList) = false) (hu : ¬ u.toList = []) (hu2 : u.toList.isEmpty = false) (h2 : Op.bytesLess u.toList t.toList = true) (h3 : Op.bytesLess f.toList u.toList = true) (w : World) :
    Calls Tryz.prog 19 #[.agg #[.int .i64 3, .string k, .string t, .string v], .string f, .string u] w fun e w' => e = .returned (.tuple #[.agg #[.int .i64 3, .string f, .string u, .string v], .bool true]) ∧ Below w.heap.size w w' := by
  have HX := Lib.hid (boxes2_new w #[.int .i64 3, .string k, .string t, .string v])
  go_enter Tryz.func19, Tryz.ntmps19
  go_wp2_with fail
  refine (H _).mono ?_; rintro e w1 ⟨rfl, hb⟩
  replace HX := Lib.hid (HX.out.later hb); clear hb
  obtain ⟨c0, c1, c2, c3⟩ := HX.out.c4 0 rfl
  obtain ⟨⟨f0, f1, f2, f3⟩, hlz⟩ := HX.out.f4 1 rfl
  obtain ⟨d0, d1, d2, d3⟩ := HX.out.c4 1 rfl
  obtain ⟨⟨g0, g1, g2, g3⟩, glz⟩ := HX.out.f4 0 rfl
  go_upto_region 9 with fail
  replace HX := Lib.hid (HX.out.put 0 rfl 1 (.string f))
  clear c0 c1 c2 c3 d0 d1 d2 d3 f0 f1 f2 f3 hlz g0 g1 g2 g3 glz
  generalize World.setCell _ _ _ = w2 at *
  obtain ⟨c0, c1, c2, c3⟩ := HX.out.c4 0 rfl
  obtain ⟨⟨f0, f1, f2, f3⟩, hlz⟩ := HX.out.f4 1 rfl
  obtain ⟨d0, d1, d2, d3⟩ := HX.out.c4 1 rfl
  obtain ⟨⟨g0, g1, g2, g3⟩, glz⟩ := HX.out.f4 0 rfl
  go_upto_region 11 with fail
  replace HX := Lib.hid (HX.out.put 0 rfl 2 (.string u))
  clear c0 c1 c2 c3 d0 d1 d2 d3 f0 f1 f2 f3 hlz g0 g1 g2 g3 glz
  generalize World.setCell _ _ _ = w2 at *
  obtain ⟨c0, c1, c2, c3⟩ := HX.out.c4 0 rfl
  obtain ⟨⟨f0, f1, f2, f3⟩, hlz⟩ := HX.out.f4 1 rfl
  obtain ⟨d0, d1, d2, d3⟩ := HX.out.c4 1 rfl
  obtain ⟨⟨g0, g1, g2, g3⟩, glz⟩ := HX.out.f4 0 rfl
  go_wp2_with fail
  have HZ := Lib.hid (HX.out.four 1 rfl (.int .i64 3) (.string f) (.string u) (.string v))
  obtain ⟨e0, e1, e2, e3⟩ := HZ.out.c4 1 rfl
  exact bodyPost_ret (v := .tuple #[.agg #[.int .i64 3, .string f, .string u, .string v], .bool true]) (by simp [results, Tryz.results19, go_sem, e0, e1, e2, e3]) rfl ⟨rfl, HZ.out.below⟩
theorem rpart_c1far0 (k t v f u : ByteArray) (H : ∀ w, Calls Tryz.prog 38 #[.agg #[.int .i64 3, .string k, .string t, .string v]] w fun e w' => e = .returned (.bool true) ∧ Below w.heap.size w w') (h1 : (Op.bytesLess f.toList k.toList || f.toList == k.toList) = false) (hu : ¬ u.toList = []) (hu2 : u.toList.isEmpty = false) (h2 : Op.bytesLess u.toList t.toList = false) (h3 : Op.bytesLess f.toList t.toList = false) (w : World) :
    Calls Tryz.prog 19 #[.agg #[.int .i64 3, .string k, .string t, .string v], .string f, .string u] w fun e w' => e = .returned (.tuple #[nil.val, .bool false]) ∧ Below w.heap.size w w' := by
  have HX := Lib.hid (boxes2_new w #[.int .i64 3, .string k, .string t, .string v])
  go_enter Tryz.func19, Tryz.ntmps19
  go_wp2_with fail
  refine (H _).mono ?_; rintro e w1 ⟨rfl, hb⟩
  replace HX := Lib.hid (HX.out.later hb); clear hb
  obtain ⟨c0, c1, c2, c3⟩ := HX.out.c4 0 rfl
  obtain ⟨⟨f0, f1, f2, f3⟩, hlz⟩ := HX.out.f4 1 rfl
  obtain ⟨d0, d1, d2, d3⟩ := HX.out.c4 1 rfl
  obtain ⟨⟨g0, g1, g2, g3⟩, glz⟩ := HX.out.f4 0 rfl
  go_upto_region 9 with fail
  replace HX := Lib.hid (HX.out.put 0 rfl 1 (.string f))
  clear c0 c1 c2 c3 d0 d1 d2 d3 f0 f1 f2 f3 hlz g0 g1 g2 g3 glz
  generalize World.setCell _ _ _ = w2 at *
  obtain ⟨c0, c1, c2, c3⟩ := HX.out.c4 0 rfl
  obtain ⟨⟨f0, f1, f2, f3⟩, hlz⟩ := HX.out.f4 1 rfl
  obtain ⟨d0, d1, d2, d3⟩ := HX.out.c4 1 rfl
  obtain ⟨⟨g0, g1, g2, g3⟩, glz⟩ := HX.out.f4 0 rfl
  go_wp2_with fail
  have HZ := Lib.hid (HX.out.four 1 rfl (.int .i64 0) (.string ⟨#[]⟩) (.string ⟨#[]⟩) (.string ⟨#[]⟩))
  obtain ⟨e0, e1, e2, e3⟩ := HZ.out.c4 1 rfl
  exact bodyPost_ret (v := .tuple #[nil.val, .bool false]) (by simp [results, Tryz.results19, go_sem, e0, e1, e2, e3, nil, Msg.val]) rfl ⟨rfl, HZ.out.below⟩
theorem rpart_c1far1 (k t v f u : ByteArray) (H : ∀ w, Calls Tryz.prog 38 #[.agg #[.int .i64 3, .string k, .string t, .string v]] w fun e w' => e = .returned (.bool true) ∧ Below w.heap.size w w') (h1 : (Op.bytesLess f.toList k.toList || f.toList == k.toList) = false) (hu : ¬ u.toList = []) (hu2 : u.toList.isEmpty = false) (h2 : Op.bytesLess u.toList t.toList = false) (h3 : Op.bytesLess f.toList t.toList = true) (w : World) :
    Calls Tryz.prog 19 #[.agg #[.int .i64 3, .string k, .string t, .string v], .string f, .string u] w fun e w' => e = .returned (.tuple #[.agg #[.int .i64 3, .string f, .string t, .string v], .bool true]) ∧ Below w.heap.size w w' := by
  have HX := Lib.hid (boxes2_new w #[.int .i64 3, .string k, .string t, .string v])
  go_enter Tryz.func19, Tryz.ntmps19
  go_wp2_with fail
  refine (H _).mono ?_; rintro e w1 ⟨rfl, hb⟩
  replace HX := Lib.hid (HX.out.later hb); clear hb
  obtain ⟨c0, c1, c2, c3⟩ := HX.out.c4 0 rfl
  obtain ⟨⟨f0, f1, f2, f3⟩, hlz⟩ := HX.out.f4 1 rfl
  obtain ⟨d0, d1, d2, d3⟩ := HX.out.c4 1 rfl
  obtain ⟨⟨g0, g1, g2, g3⟩, glz⟩ := HX.out.f4 0 rfl
  go_upto_region 9 with fail
  replace HX := Lib.hid (HX.out.put 0 rfl 1 (.string f))
  clear c0 c1 c2 c3 d0 d1 d2 d3 f0 f1 f2 f3 hlz g0 g1 g2 g3 glz
  generalize World.setCell _ _ _ = w2 at *
  obtain ⟨c0, c1, c2, c3⟩ := HX.out.c4 0 rfl
  obtain ⟨⟨f0, f1, f2, f3⟩, hlz⟩ := HX.out.f4 1 rfl
  obtain ⟨d0, d1, d2, d3⟩ := HX.out.c4 1 rfl
  obtain ⟨⟨g0, g1, g2, g3⟩, glz⟩ := HX.out.f4 0 rfl
  go_wp2_with fail
  have HZ := Lib.hid (HX.out.four 1 rfl (.int .i64 3) (.string f) (.string t) (.string v))
  obtain ⟨e0, e1, e2, e3⟩ := HZ.out.c4 1 rfl
  exact bodyPost_ret (v := .tuple #[.agg #[.int .i64 3, .string f, .string t, .string v], .bool true]) (by simp [results, Tryz.results19, go_sem, e0, e1, e2, e3]) rfl ⟨rfl, HZ.out.below⟩
theorem rpart_any (m : Msg) (f u : ByteArray) (hv : m.v.size ≤ 1099511627776) (w : World) :
    Calls Tryz.prog 19 #[m.val, .string f, .string u] w fun e w' => e = .returned (.tuple #[((part m f u).getD nil).val, .bool (part m f u).isSome]) ∧ Below w.heap.size w w' := by
  have H := rmay_any m hv
  unfold part
  cases hm : may m with
  | false =>
    rw [hm] at H
    rw [if_pos rfl]
    obtain ⟨o, k, t, v⟩ := m
    exact rpart_no o k t v f u H w
  | true =>
    rw [hm] at H
    rw [if_neg (by simp)]
    have hu3 : u.size ≠ 0 → ¬ u.toList = [] ∧ u.toList.isEmpty = false := fun h => ⟨fun e => h (list_nil.1 e), by rw [isEmpty_size, decide_eq_false h]⟩
    by_cases h3 : m.o = 3
    · rw [if_pos h3]
      obtain ⟨o, k, t, v⟩ := m
      dsimp only at h3
      subst h3
      unfold cl mx mn
      dsimp only
      have hle := le_bool f k
      cases hk : lt k f with
      | false =>
        rw [hk] at hle
        rw [if_neg Bool.false_ne_true]
        by_cases hu : u.size = 0
        · rw [if_pos hu]
          cases hl : lt k t with
          | false => rw [if_neg Bool.false_ne_true]; exact rpart_c0open0 k t v f u H hle (size_nil.1 hu) hl w
          | true => rw [if_pos rfl]; exact rpart_c0open1 k t v f u H hle (size_nil.1 hu) hl w
        · rw [if_neg hu]
          cases h2 : lt u t with
          | false =>
            rw [if_neg Bool.false_ne_true]
            cases hl : lt k t with
            | false => rw [if_neg Bool.false_ne_true]; exact rpart_c0far0 k t v f u H hle (hu3 hu).1 (hu3 hu).2 h2 hl w
            | true => rw [if_pos rfl]; exact rpart_c0far1 k t v f u H hle (hu3 hu).1 (hu3 hu).2 h2 hl w
          | true =>
            rw [if_pos rfl]
            cases hl : lt k u with
            | false => rw [if_neg Bool.false_ne_true]; exact rpart_c0cut0 k t v f u H hle (hu3 hu).1 (hu3 hu).2 h2 hl w
            | true => rw [if_pos rfl]; exact rpart_c0cut1 k t v f u H hle (hu3 hu).1 (hu3 hu).2 h2 hl w
      | true =>
        rw [hk] at hle
        rw [if_pos rfl]
        by_cases hu : u.size = 0
        · rw [if_pos hu]
          cases hl : lt f t with
          | false => rw [if_neg Bool.false_ne_true]; exact rpart_c1open0 k t v f u H hle (size_nil.1 hu) hl w
          | true => rw [if_pos rfl]; exact rpart_c1open1 k t v f u H hle (size_nil.1 hu) hl w
        · rw [if_neg hu]
          cases h2 : lt u t with
          | false =>
            rw [if_neg Bool.false_ne_true]
            cases hl : lt f t with
            | false => rw [if_neg Bool.false_ne_true]; exact rpart_c1far0 k t v f u H hle (hu3 hu).1 (hu3 hu).2 h2 hl w
            | true => rw [if_pos rfl]; exact rpart_c1far1 k t v f u H hle (hu3 hu).1 (hu3 hu).2 h2 hl w
          | true =>
            rw [if_pos rfl]
            cases hl : lt f u with
            | false => rw [if_neg Bool.false_ne_true]; exact rpart_c1cut0 k t v f u H hle (hu3 hu).1 (hu3 hu).2 h2 hl w
            | true => rw [if_pos rfl]; exact rpart_c1cut1 k t v f u H hle (hu3 hu).1 (hu3 hu).2 h2 hl w
    · rw [if_neg h3]
      obtain ⟨o, k, t, v⟩ := m
      dsimp only at h3 ⊢
      have h3' : (o == 3) = false := by simpa using h3
      have h3'' : (o != 3) = true := by simpa using h3
      unfold inR
      cases h1 : lt k f with
      | true => exact rpart_low o k t v f u h3' h3'' H h1 w
      | false =>
        by_cases hu : u.size = 0
        · rw [decide_eq_true hu]
          exact rpart_open o k t v f u h3' h3'' H h1 (size_nil.1 hu) w
        · rw [decide_eq_false hu]
          cases h2 : lt k u with
          | false => exact rpart_high o k t v f u h3' h3'' H h1 (hu3 hu).1 (hu3 hu).2 h2 w
          | true => exact rpart_in o k t v f u h3' h3'' H h1 (hu3 hu).1 (hu3 hu).2 h2 w
end Go.Proofs.YthledgkjfjdjoaaGreat.Ms
