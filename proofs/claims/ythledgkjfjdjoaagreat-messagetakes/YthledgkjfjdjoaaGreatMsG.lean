/- The message of a text, by the document. Conditions: lengths below 2^40. -/
import Derived.Test.YthledgkjfjdjoaaGreatMsF
namespace Go.Proofs.YthledgkjfjdjoaaGreat.Ms
open Go.ChangeShapes Go.WideShapes Go.RowKit Go.Codec Go.Mt Go.Blk
set_option maxRecDepth 100000
set_option linter.unusedSimpArgs false
set_option linter.unusedVariables false
/-- The answer's cell, the document's reader, a message's cell. -/
structure D3 (w : World) (r g : Nat) (x : R) (res box : Array Value) (wx : World) : Prop where
  below : Below w.heap.size w wx
  res : Is wx w.heap.size 23 res
  rd : RR wx r x
  box : Is wx g 23 box
  h1 : w.heap.size < r
  h2 : r < g
section
variable {w wx wy : World} {r g q : Nat} {x y : R} {res box cs : Array Value}
theorem D3.later (h : D3 w r g x res box wx) (hb : Below wx.heap.size wx wy) : D3 w r g x res box wy :=
  ⟨h.below.trans (hb.mono h.below.size), h.res.kept (grow_below hb none) (by simp), h.rd.below hb, h.box.kept (grow_below hb none) (by simp), h.h1, h.h2⟩
theorem D3.step (h : D3 w r g x res box wx) (hw : RR wy r y) (hg : wx.grownBy wy (some r)) : D3 w r g y res box wy :=
  ⟨h.below.trans (below_of_grow hg h.below.size (by have := h.h1; omega)), h.res.kept hg (by have := h.h1; simp; omega), hw, h.box.kept hg (by have := h.h2; simp; omega), h.h1, h.h2⟩
theorem D3.put (h : D3 w r g x res box wx) (i : Nat) (u : Value) : D3 w r g x res (box.setIfInBounds i u) (wx.setCell ⟨g, i, none⟩ u) := by
  refine ⟨h.below.setCell (by have := h.h1; have := h.h2; simp; omega) _, h.res.other (by have := h.h1; have := h.h2; simp; omega) _, ?_, h.box.put i u, h.h1, h.h2⟩
  obtain ⟨S, p, t, hi, h2⟩ := h.rd
  exact ⟨S, p, t, hi.other (by have := h.h2; simp; omega) _, h2⟩
theorem D3.end {a b c d : Value} (h : D3 w r g x #[a, b, c, d] box wx) (a' b' c' d' : Value) : Bk.Box w 23 #[a', b', c', d'] ((((wx.setCell ⟨w.heap.size, 0, none⟩ a').setCell ⟨w.heap.size, 1, none⟩ b').setCell ⟨w.heap.size, 2, none⟩ c').setCell ⟨w.heap.size, 3, none⟩ d') := by
  refine ⟨(((h.below.setCell (Nat.le_refl _) _).setCell (Nat.le_refl _) _).setCell (Nat.le_refl _) _).setCell (Nat.le_refl _) _, ?_⟩
  have h1 := (((h.res.put 0 a').put 1 b').put 2 c').put 3 d'
  simp at h1
  exact h1
theorem D3.free (h : D3 w r g x res box wx) : (wx.frozen? ⟨w.heap.size, 0, none⟩ = false ∧ wx.frozen? ⟨w.heap.size, 1, none⟩ = false ∧ wx.frozen? ⟨w.heap.size, 2, none⟩ = false ∧ wx.frozen? ⟨w.heap.size, 3, none⟩ = false) ∧ w.heap.size < wx.heap.size :=
  ⟨⟨h.res.frozen 0, h.res.frozen 1, h.res.frozen 2, h.res.frozen 3⟩, h.res.lt⟩
theorem D3.bfree (h : D3 w r g x res box wx) : (wx.frozen? ⟨g, 0, none⟩ = false ∧ wx.frozen? ⟨g, 1, none⟩ = false ∧ wx.frozen? ⟨g, 2, none⟩ = false ∧ wx.frozen? ⟨g, 3, none⟩ = false) ∧ g < wx.heap.size :=
  ⟨⟨h.box.frozen 0, h.box.frozen 1, h.box.frozen 2, h.box.frozen 3⟩, h.box.lt⟩
theorem D3.rcells {a b c d : Value} (h : D3 w r g x #[a, b, c, d] box wx) : wx.cell? ⟨w.heap.size, 0, none⟩ = some a ∧ wx.cell? ⟨w.heap.size, 1, none⟩ = some b ∧ wx.cell? ⟨w.heap.size, 2, none⟩ = some c ∧ wx.cell? ⟨w.heap.size, 3, none⟩ = some d :=
  ⟨h.res.cell 0, h.res.cell 1, h.res.cell 2, h.res.cell 3⟩
theorem D3.cells {a b c d : Value} (h : D3 w r g x res #[a, b, c, d] wx) : wx.cell? ⟨g, 0, none⟩ = some a ∧ wx.cell? ⟨g, 1, none⟩ = some b ∧ wx.cell? ⟨g, 2, none⟩ = some c ∧ wx.cell? ⟨g, 3, none⟩ = some d :=
  ⟨h.box.cell 0, h.box.cell 1, h.box.cell 2, h.box.cell 3⟩
theorem D3.drawn (h : D3 w r g x res box wx) (j : Nat) : D3 w r g x res box (wx.drewN j) := by
  refine ⟨h.below.trans (below_drewN (Below.refl _ _) j), h.res, ?_, h.box, h.h1, h.h2⟩
  obtain ⟨S, p, t, hi, h2⟩ := h.rd
  exact ⟨S, p, t, hi, h2⟩
theorem D3.torn (h : D3 w r g x res box wx) : ∃ t : Bool, wx.cell? ⟨r, 2, none⟩ = some (.bool t) ∧ r < wx.heap.size ∧ (t = true → x.er = 10) ∧ (t = false → x.er = 0) := by
  obtain ⟨S, p, t, hi, h2, h3, h4, h5⟩ := h.rd
  exact ⟨t, hi.cell 2, hi.lt, fun e => by rw [h4 e], fun e => by rw [h5 e]⟩
/-- A reader of a text that begins with a byte, and a message of its kind. -/
theorem D3.new (w : World) (s : ByteArray) (o : Int) (h1 : 1 ≤ s.size) (hs : s.size ≤ 1099511627776) : D3 w (w.heap.size + 1) (w.heap.size + 1 + 1) ⟨s.data.toList.drop 1, 0⟩ #[.int .i64 0, .string ⟨#[]⟩, .string ⟨#[]⟩, .string ⟨#[]⟩] #[.int .i64 o, .string ⟨#[]⟩, .string ⟨#[]⟩, .string ⟨#[]⟩]
    (((w.alloc (.cells #[.int .i64 0, .string ⟨#[]⟩, .string ⟨#[]⟩, .string ⟨#[]⟩] 23)).alloc (.cells #[.string (s.extract 1 s.size), .int .i64 0, .bool false] 74)).alloc (.cells #[.int .i64 o, .string ⟨#[]⟩, .string ⟨#[]⟩, .string ⟨#[]⟩] 23)) := by
  have e1 : (w.alloc (.cells #[.int .i64 0, .string ⟨#[]⟩, .string ⟨#[]⟩, .string ⟨#[]⟩] 23)).heap.size = w.heap.size + 1 := by simp
  have e2 : ((w.alloc (.cells #[.int .i64 0, .string ⟨#[]⟩, .string ⟨#[]⟩, .string ⟨#[]⟩] 23)).alloc (.cells #[.string (s.extract 1 s.size), .int .i64 0, .bool false] 74)).heap.size = w.heap.size + 1 + 1 := by simp
  have b1 := Bk.Box.new w 23 #[.int .i64 0, .string ⟨#[]⟩, .string ⟨#[]⟩, .string ⟨#[]⟩]
  have b2 := b1.later (below_alloc2 (Below.refl _ _) (.cells #[.string (s.extract 1 s.size), .int .i64 0, .bool false] 74))
  have b3 := b2.later (below_alloc2 (Below.refl _ _) (.cells #[.int .i64 o, .string ⟨#[]⟩, .string ⟨#[]⟩, .string ⟨#[]⟩] 23))
  have r1 := Is.new (w.alloc (.cells #[.int .i64 0, .string ⟨#[]⟩, .string ⟨#[]⟩, .string ⟨#[]⟩] 23)) 74 #[.string (s.extract 1 s.size), .int .i64 0, .bool false]
  rw [e1] at r1
  have r2 := r1.kept (grow_below (below_alloc2 (Below.refl _ _) (.cells #[.int .i64 o, .string ⟨#[]⟩, .string ⟨#[]⟩, .string ⟨#[]⟩] 23)) none) (by simp)
  have m1 := Is.new ((w.alloc (.cells #[.int .i64 0, .string ⟨#[]⟩, .string ⟨#[]⟩, .string ⟨#[]⟩] 23)).alloc (.cells #[.string (s.extract 1 s.size), .int .i64 0, .bool false] 74)) 23 #[.int .i64 o, .string ⟨#[]⟩, .string ⟨#[]⟩, .string ⟨#[]⟩]
  rw [e2] at m1
  refine ⟨b3.below, b3.one, ⟨_, 0, false, r2, Nat.zero_le _, ?_, by simp, fun _ => ?_⟩, m1, by omega, by omega⟩
  · have := Lib.size_eq (s.extract 1 s.size)
    rw [ByteArray.size_extract]; omega
  · rw [List.drop_zero, Lib.extract_eq]
    congr 1
    show s.data.toList.drop 1 = ((s.data.toList.drop 1).take (s.size - 1)).toArray.toList
    have := Lib.size_eq s
    rw [List.take_of_length_le (by simp; try omega)]
end
theorem rtake_e (w : World) : Calls Tryz.prog 17 #[.string ⟨#[]⟩] w fun e w' => e = .returned (.tuple #[nil.val, .int .i64 10]) ∧ Below w.heap.size w w' := by
  have HX := Lib.hid (Bk.Box.new w 23 #[.int .i64 0, .string ⟨#[]⟩, .string ⟨#[]⟩, .string ⟨#[]⟩])
  go_enter Tryz.func17, Tryz.ntmps17
  obtain ⟨c0, c1, c2, c3⟩ := HX.out.cells
  go_wp2_with fail
  exact bodyPost_ret (v := .tuple #[nil.val, .int .i64 10]) (by simp [results, Tryz.results17, go_sem, nil, Msg.val]) rfl ⟨rfl, HX.out.below⟩
theorem rtake_k (s : ByteArray) (h0 : 0 < s.size) (hne : ¬ s.toList = []) (hne2 : s.toList.isEmpty = false) (c : Nat) (hc : ((s[0]'h0).toNat : Int) = (c : Int)) (hk : c < 1 ∨ 4 < c) (w : World) : Calls Tryz.prog 17 #[.string s] w fun e w' => e = .returned (.tuple #[nil.val, .int .i64 4]) ∧ Below w.heap.size w w' := by
  have HX := Lib.hid (Bk.Box.new w 23 #[.int .i64 0, .string ⟨#[]⟩, .string ⟨#[]⟩, .string ⟨#[]⟩])
  obtain ⟨c0, c1, c2, c3⟩ := HX.out.cells
  rcases hk with hk | hk
  · have h1 : (c : Int) < 1 := by omega
    go_enter Tryz.func17, Tryz.ntmps17
    go_wp2_with fail
    exact bodyPost_ret (v := .tuple #[nil.val, .int .i64 4]) (by simp [results, Tryz.results17, go_sem, nil, Msg.val]) rfl ⟨rfl, HX.out.below⟩
  · have h1 : ¬ (c : Int) < 1 := by omega
    have h2 : (c : Int) > 4 := by omega
    go_enter Tryz.func17, Tryz.ntmps17
    go_wp2_with fail
    exact bodyPost_ret (v := .tuple #[nil.val, .int .i64 4]) (by simp [results, Tryz.results17, go_sem, nil, Msg.val]) rfl ⟨rfl, HX.out.below⟩
set_option maxHeartbeats 8000000 in
theorem rtake_1 (s : ByteArray) (h0 : 0 < s.size) (hs : s.size ≤ 1099511627776) (hne : ¬ s.toList = []) (hne2 : s.toList.isEmpty = false) (hc : ((s[0]'h0).toNat : Int) = 1) (x : R) (hx : (⟨s.data.toList.drop 1, 0⟩ : R) = x)
    (HM : ∀ w, Calls Tryz.prog 38 #[.agg #[.int .i64 1, .string (bs x.text), .string (⟨#[]⟩), .string (bs x.behind.text)]] w fun e w' => e = .returned (.bool (may ⟨1, bs x.text, ⟨#[]⟩, bs x.behind.text⟩)) ∧ Below w.heap.size w w') (V : Value) (hV : V = .tuple #[(fin ⟨1, bs x.text, ⟨#[]⟩, bs x.behind.text⟩ x.behind.behind).m.val, .int .i64 ((fin ⟨1, bs x.text, ⟨#[]⟩, bs x.behind.text⟩ x.behind.behind).e : Nat)]) (w : World) :
    Calls Tryz.prog 17 #[.string s] w fun e w' => e = .returned V ∧ Below w.heap.size w w' := by
  have HX := Lib.hid (D3.new w s 1 h0 hs)
  rw [hx] at HX
  clear hx
  obtain ⟨c0, c1, c2, c3⟩ := HX.out.cells
  obtain ⟨⟨f0, f1, f2, f3⟩, hlz⟩ := HX.out.bfree
  go_enter Tryz.func17, Tryz.ntmps17
  go_wp2_with fail
  refine (rrtext_any _ _ _ HX.out.rd).mono ?_; rintro e w1 ⟨rfl, h1, h2⟩
  replace HX := Lib.hid (HX.out.step h1 h2)
  clear h1 h2 c0 c1 c2 c3 f0 f1 f2 f3 hlz
  obtain ⟨c0, c1, c2, c3⟩ := HX.out.cells
  obtain ⟨⟨f0, f1, f2, f3⟩, hlz⟩ := HX.out.bfree
  go_upto_region 8 with fail
  replace HX := Lib.hid (HX.out.put 1 (.string (bs x.text)))
  clear c0 c1 c2 c3 f0 f1 f2 f3 hlz
  generalize World.setCell _ _ _ = w5 at *
  obtain ⟨c0, c1, c2, c3⟩ := HX.out.cells
  obtain ⟨⟨f0, f1, f2, f3⟩, hlz⟩ := HX.out.bfree
  go_wp2_with fail
  refine (rrtext_any _ _ _ HX.out.rd).mono ?_; rintro e w2 ⟨rfl, h1, h2⟩
  replace HX := Lib.hid (HX.out.step h1 h2)
  clear h1 h2 c0 c1 c2 c3 f0 f1 f2 f3 hlz
  obtain ⟨c0, c1, c2, c3⟩ := HX.out.cells
  obtain ⟨⟨f0, f1, f2, f3⟩, hlz⟩ := HX.out.bfree
  go_upto_region 12 with fail
  have H7 := Lib.hid (HX.out.put 3 (.string (bs x.behind.text)))
  clear HX c0 c1 c2 c3 f0 f1 f2 f3 hlz
  generalize World.setCell _ _ _ = w6 at *
  have H8 : D3 w (w.heap.size + 1) (w.heap.size + 1 + 1) (x.behind.behind) #[.int .i64 0, .string ⟨#[]⟩, .string ⟨#[]⟩, .string ⟨#[]⟩] #[.int .i64 1, .string (bs x.text), .string ⟨#[]⟩, .string (bs x.behind.text)] _ := H7.out
  clear H7
  have HY := Lib.hid H8; clear H8
  generalize x.behind.behind = y at *
  generalize bs x.text = K at *
  generalize bs x.behind.text = T at *
  obtain ⟨tt, t0, hlt, hT, hF⟩ := HY.out.torn
  unfold fin at hV
  cases tt with
  | true =>
    rw [if_pos (by rw [hT rfl]; decide)] at hV
    obtain ⟨⟨f0, f1, f2, f3⟩, hlz⟩ := HY.out.free
    obtain ⟨r0, r1, r2, r3⟩ := HY.out.rcells
    go_wp2_with fail
    have HZ := Lib.hid (HY.out.end (.int .i64 0) (.string ⟨#[]⟩) (.string ⟨#[]⟩) (.string ⟨#[]⟩))
    obtain ⟨d0, d1, d2, d3⟩ := HZ.out.cells
    exact bodyPost_ret (v := .tuple #[nil.val, .int .i64 10]) (by simp [results, Tryz.results17, go_sem, d0, d1, d2, d3, nil, Msg.val]) rfl ⟨by first | rfl | exact congrArg Ending.returned hV.symm, HZ.out.below⟩
  | false =>
    rw [if_neg (by rw [hF rfl]; decide)] at hV
    have hb := bs_empty y.rest
    have hl : (bs y.rest).toList = [] ↔ y.rest = [] := by rw [Lib.toList_data, bs_list]
    go_wp2_with fail
    refine (rrest_any _ _ _ HY.out.rd).mono ?_; rintro e w7 ⟨rfl, j, rfl⟩
    replace HY := Lib.hid (HY.out.drawn j)
    clear t0 hlt hT hF
    generalize World.drewN _ _ = w8 at *
    obtain ⟨c0, c1, c2, c3⟩ := HY.out.cells
    obtain ⟨⟨f0, f1, f2, f3⟩, hlz⟩ := HY.out.free
    obtain ⟨r0, r1, r2, r3⟩ := HY.out.rcells
    by_cases hr : y.rest = []
    · rw [decide_eq_true hr] at hb
      replace hl := hl.2 hr
      generalize bs y.rest = RR at *
      cases hm : may ⟨1, K, ⟨#[]⟩, T⟩ with
      | false =>
        rw [hm] at HM
        rw [if_pos (.inr hm)] at hV
        clear hm
        go_wp2_with fail
        refine (HM _).mono ?_; rintro e w9 ⟨rfl, hb2⟩
        replace HY := Lib.hid (HY.out.later hb2)
        clear hb2 c0 c1 c2 c3 f0 f1 f2 f3 hlz r0 r1 r2 r3
        obtain ⟨⟨f0, f1, f2, f3⟩, hlz⟩ := HY.out.free
        obtain ⟨r0, r1, r2, r3⟩ := HY.out.rcells
        go_wp2_with fail
        have HZ := Lib.hid (HY.out.end (.int .i64 0) (.string ⟨#[]⟩) (.string ⟨#[]⟩) (.string ⟨#[]⟩))
        obtain ⟨d0, d1, d2, d3⟩ := HZ.out.cells
        exact bodyPost_ret (v := .tuple #[nil.val, .int .i64 4]) (by simp [results, Tryz.results17, go_sem, d0, d1, d2, d3, nil, Msg.val]) rfl ⟨by first | rfl | exact congrArg Ending.returned hV.symm, HZ.out.below⟩
      | true =>
        rw [hm] at HM
        rw [if_neg (by simp [hr, hm])] at hV
        clear hm
        go_wp2_with fail
        refine (HM _).mono ?_; rintro e w9 ⟨rfl, hb2⟩
        replace HY := Lib.hid (HY.out.later hb2)
        clear hb2 c0 c1 c2 c3 f0 f1 f2 f3 hlz r0 r1 r2 r3
        obtain ⟨c0, c1, c2, c3⟩ := HY.out.cells
        obtain ⟨⟨f0, f1, f2, f3⟩, hlz⟩ := HY.out.free
        obtain ⟨r0, r1, r2, r3⟩ := HY.out.rcells
        go_wp2_with fail
        have HZ := Lib.hid (HY.out.end (.int .i64 1) (.string K) (.string ⟨#[]⟩) (.string T))
        obtain ⟨d0, d1, d2, d3⟩ := HZ.out.cells
        exact bodyPost_ret (v := .tuple #[.agg #[.int .i64 1, .string K, .string ⟨#[]⟩, .string T], .int .i64 0]) (by simp [results, Tryz.results17, go_sem, d0, d1, d2, d3]) rfl ⟨by first | rfl | exact congrArg Ending.returned hV.symm, HZ.out.below⟩
    · rw [if_pos (.inl hr)] at hV
      rw [decide_eq_false hr] at hb
      have hl2 : ¬ (bs y.rest).toList = [] := fun h => hr (hl.1 h)
      clear hl hr
      generalize bs y.rest = RR at *
      go_wp2_with fail
      have HZ := Lib.hid (HY.out.end (.int .i64 0) (.string ⟨#[]⟩) (.string ⟨#[]⟩) (.string ⟨#[]⟩))
      obtain ⟨d0, d1, d2, d3⟩ := HZ.out.cells
      exact bodyPost_ret (v := .tuple #[nil.val, .int .i64 4]) (by simp [results, Tryz.results17, go_sem, d0, d1, d2, d3, nil, Msg.val]) rfl ⟨by first | rfl | exact congrArg Ending.returned hV.symm, HZ.out.below⟩
set_option maxHeartbeats 8000000 in
theorem rtake_4 (s : ByteArray) (h0 : 0 < s.size) (hs : s.size ≤ 1099511627776) (hne : ¬ s.toList = []) (hne2 : s.toList.isEmpty = false) (hc : ((s[0]'h0).toNat : Int) = 4) (x : R) (hx : (⟨s.data.toList.drop 1, 0⟩ : R) = x)
    (HM : ∀ w, Calls Tryz.prog 38 #[.agg #[.int .i64 4, .string (bs x.text), .string (⟨#[]⟩), .string (bs x.behind.text)]] w fun e w' => e = .returned (.bool (may ⟨4, bs x.text, ⟨#[]⟩, bs x.behind.text⟩)) ∧ Below w.heap.size w w') (V : Value) (hV : V = .tuple #[(fin ⟨4, bs x.text, ⟨#[]⟩, bs x.behind.text⟩ x.behind.behind).m.val, .int .i64 ((fin ⟨4, bs x.text, ⟨#[]⟩, bs x.behind.text⟩ x.behind.behind).e : Nat)]) (w : World) :
    Calls Tryz.prog 17 #[.string s] w fun e w' => e = .returned V ∧ Below w.heap.size w w' := by
  have HX := Lib.hid (D3.new w s 4 h0 hs)
  rw [hx] at HX
  clear hx
  obtain ⟨c0, c1, c2, c3⟩ := HX.out.cells
  obtain ⟨⟨f0, f1, f2, f3⟩, hlz⟩ := HX.out.bfree
  go_enter Tryz.func17, Tryz.ntmps17
  go_wp2_with fail
  refine (rrtext_any _ _ _ HX.out.rd).mono ?_; rintro e w1 ⟨rfl, h1, h2⟩
  replace HX := Lib.hid (HX.out.step h1 h2)
  clear h1 h2 c0 c1 c2 c3 f0 f1 f2 f3 hlz
  obtain ⟨c0, c1, c2, c3⟩ := HX.out.cells
  obtain ⟨⟨f0, f1, f2, f3⟩, hlz⟩ := HX.out.bfree
  go_upto_region 8 with fail
  replace HX := Lib.hid (HX.out.put 1 (.string (bs x.text)))
  clear c0 c1 c2 c3 f0 f1 f2 f3 hlz
  generalize World.setCell _ _ _ = w5 at *
  obtain ⟨c0, c1, c2, c3⟩ := HX.out.cells
  obtain ⟨⟨f0, f1, f2, f3⟩, hlz⟩ := HX.out.bfree
  go_wp2_with fail
  refine (rrtext_any _ _ _ HX.out.rd).mono ?_; rintro e w2 ⟨rfl, h1, h2⟩
  replace HX := Lib.hid (HX.out.step h1 h2)
  clear h1 h2 c0 c1 c2 c3 f0 f1 f2 f3 hlz
  obtain ⟨c0, c1, c2, c3⟩ := HX.out.cells
  obtain ⟨⟨f0, f1, f2, f3⟩, hlz⟩ := HX.out.bfree
  go_upto_region 12 with fail
  have H7 := Lib.hid (HX.out.put 3 (.string (bs x.behind.text)))
  clear HX c0 c1 c2 c3 f0 f1 f2 f3 hlz
  generalize World.setCell _ _ _ = w6 at *
  have H8 : D3 w (w.heap.size + 1) (w.heap.size + 1 + 1) (x.behind.behind) #[.int .i64 0, .string ⟨#[]⟩, .string ⟨#[]⟩, .string ⟨#[]⟩] #[.int .i64 4, .string (bs x.text), .string ⟨#[]⟩, .string (bs x.behind.text)] _ := H7.out
  clear H7
  have HY := Lib.hid H8; clear H8
  generalize x.behind.behind = y at *
  generalize bs x.text = K at *
  generalize bs x.behind.text = T at *
  obtain ⟨tt, t0, hlt, hT, hF⟩ := HY.out.torn
  unfold fin at hV
  cases tt with
  | true =>
    rw [if_pos (by rw [hT rfl]; decide)] at hV
    obtain ⟨⟨f0, f1, f2, f3⟩, hlz⟩ := HY.out.free
    obtain ⟨r0, r1, r2, r3⟩ := HY.out.rcells
    go_wp2_with fail
    have HZ := Lib.hid (HY.out.end (.int .i64 0) (.string ⟨#[]⟩) (.string ⟨#[]⟩) (.string ⟨#[]⟩))
    obtain ⟨d0, d1, d2, d3⟩ := HZ.out.cells
    exact bodyPost_ret (v := .tuple #[nil.val, .int .i64 10]) (by simp [results, Tryz.results17, go_sem, d0, d1, d2, d3, nil, Msg.val]) rfl ⟨by first | rfl | exact congrArg Ending.returned hV.symm, HZ.out.below⟩
  | false =>
    rw [if_neg (by rw [hF rfl]; decide)] at hV
    have hb := bs_empty y.rest
    have hl : (bs y.rest).toList = [] ↔ y.rest = [] := by rw [Lib.toList_data, bs_list]
    go_wp2_with fail
    refine (rrest_any _ _ _ HY.out.rd).mono ?_; rintro e w7 ⟨rfl, j, rfl⟩
    replace HY := Lib.hid (HY.out.drawn j)
    clear t0 hlt hT hF
    generalize World.drewN _ _ = w8 at *
    obtain ⟨c0, c1, c2, c3⟩ := HY.out.cells
    obtain ⟨⟨f0, f1, f2, f3⟩, hlz⟩ := HY.out.free
    obtain ⟨r0, r1, r2, r3⟩ := HY.out.rcells
    by_cases hr : y.rest = []
    · rw [decide_eq_true hr] at hb
      replace hl := hl.2 hr
      generalize bs y.rest = RR at *
      cases hm : may ⟨4, K, ⟨#[]⟩, T⟩ with
      | false =>
        rw [hm] at HM
        rw [if_pos (.inr hm)] at hV
        clear hm
        go_wp2_with fail
        refine (HM _).mono ?_; rintro e w9 ⟨rfl, hb2⟩
        replace HY := Lib.hid (HY.out.later hb2)
        clear hb2 c0 c1 c2 c3 f0 f1 f2 f3 hlz r0 r1 r2 r3
        obtain ⟨⟨f0, f1, f2, f3⟩, hlz⟩ := HY.out.free
        obtain ⟨r0, r1, r2, r3⟩ := HY.out.rcells
        go_wp2_with fail
        have HZ := Lib.hid (HY.out.end (.int .i64 0) (.string ⟨#[]⟩) (.string ⟨#[]⟩) (.string ⟨#[]⟩))
        obtain ⟨d0, d1, d2, d3⟩ := HZ.out.cells
        exact bodyPost_ret (v := .tuple #[nil.val, .int .i64 4]) (by simp [results, Tryz.results17, go_sem, d0, d1, d2, d3, nil, Msg.val]) rfl ⟨by first | rfl | exact congrArg Ending.returned hV.symm, HZ.out.below⟩
      | true =>
        rw [hm] at HM
        rw [if_neg (by simp [hr, hm])] at hV
        clear hm
        go_wp2_with fail
        refine (HM _).mono ?_; rintro e w9 ⟨rfl, hb2⟩
        replace HY := Lib.hid (HY.out.later hb2)
        clear hb2 c0 c1 c2 c3 f0 f1 f2 f3 hlz r0 r1 r2 r3
        obtain ⟨c0, c1, c2, c3⟩ := HY.out.cells
        obtain ⟨⟨f0, f1, f2, f3⟩, hlz⟩ := HY.out.free
        obtain ⟨r0, r1, r2, r3⟩ := HY.out.rcells
        go_wp2_with fail
        have HZ := Lib.hid (HY.out.end (.int .i64 4) (.string K) (.string ⟨#[]⟩) (.string T))
        obtain ⟨d0, d1, d2, d3⟩ := HZ.out.cells
        exact bodyPost_ret (v := .tuple #[.agg #[.int .i64 4, .string K, .string ⟨#[]⟩, .string T], .int .i64 0]) (by simp [results, Tryz.results17, go_sem, d0, d1, d2, d3]) rfl ⟨by first | rfl | exact congrArg Ending.returned hV.symm, HZ.out.below⟩
    · rw [if_pos (.inl hr)] at hV
      rw [decide_eq_false hr] at hb
      have hl2 : ¬ (bs y.rest).toList = [] := fun h => hr (hl.1 h)
      clear hl hr
      generalize bs y.rest = RR at *
      go_wp2_with fail
      have HZ := Lib.hid (HY.out.end (.int .i64 0) (.string ⟨#[]⟩) (.string ⟨#[]⟩) (.string ⟨#[]⟩))
      obtain ⟨d0, d1, d2, d3⟩ := HZ.out.cells
      exact bodyPost_ret (v := .tuple #[nil.val, .int .i64 4]) (by simp [results, Tryz.results17, go_sem, d0, d1, d2, d3, nil, Msg.val]) rfl ⟨by first | rfl | exact congrArg Ending.returned hV.symm, HZ.out.below⟩
set_option maxHeartbeats 8000000 in
theorem rtake_2 (s : ByteArray) (h0 : 0 < s.size) (hs : s.size ≤ 1099511627776) (hne : ¬ s.toList = []) (hne2 : s.toList.isEmpty = false) (hc : ((s[0]'h0).toNat : Int) = 2) (x : R) (hx : (⟨s.data.toList.drop 1, 0⟩ : R) = x)
    (HM : ∀ w, Calls Tryz.prog 38 #[.agg #[.int .i64 2, .string (bs x.text), .string (⟨#[]⟩), .string (⟨#[]⟩)]] w fun e w' => e = .returned (.bool (may ⟨2, bs x.text, ⟨#[]⟩, ⟨#[]⟩⟩)) ∧ Below w.heap.size w w') (V : Value) (hV : V = .tuple #[(fin ⟨2, bs x.text, ⟨#[]⟩, ⟨#[]⟩⟩ x.behind).m.val, .int .i64 ((fin ⟨2, bs x.text, ⟨#[]⟩, ⟨#[]⟩⟩ x.behind).e : Nat)]) (w : World) :
    Calls Tryz.prog 17 #[.string s] w fun e w' => e = .returned V ∧ Below w.heap.size w w' := by
  have HX := Lib.hid (D3.new w s 2 h0 hs)
  rw [hx] at HX
  clear hx
  obtain ⟨c0, c1, c2, c3⟩ := HX.out.cells
  obtain ⟨⟨f0, f1, f2, f3⟩, hlz⟩ := HX.out.bfree
  go_enter Tryz.func17, Tryz.ntmps17
  go_wp2_with fail
  refine (rrtext_any _ _ _ HX.out.rd).mono ?_; rintro e w1 ⟨rfl, h1, h2⟩
  replace HX := Lib.hid (HX.out.step h1 h2)
  clear h1 h2 c0 c1 c2 c3 f0 f1 f2 f3 hlz
  obtain ⟨c0, c1, c2, c3⟩ := HX.out.cells
  obtain ⟨⟨f0, f1, f2, f3⟩, hlz⟩ := HX.out.bfree
  go_upto_region 8 with fail
  replace HX := Lib.hid (HX.out.put 1 (.string (bs x.text)))
  clear c0 c1 c2 c3 f0 f1 f2 f3 hlz
  generalize World.setCell _ _ _ = w5 at *
  obtain ⟨c0, c1, c2, c3⟩ := HX.out.cells
  obtain ⟨⟨f0, f1, f2, f3⟩, hlz⟩ := HX.out.bfree
  go_upto_region 12 with fail
  have H7 := HX
  clear HX c0 c1 c2 c3 f0 f1 f2 f3 hlz
  have H8 : D3 w (w.heap.size + 1) (w.heap.size + 1 + 1) (x.behind) #[.int .i64 0, .string ⟨#[]⟩, .string ⟨#[]⟩, .string ⟨#[]⟩] #[.int .i64 2, .string (bs x.text), .string ⟨#[]⟩, .string ⟨#[]⟩] _ := H7.out
  clear H7
  have HY := Lib.hid H8; clear H8
  generalize x.behind = y at *
  generalize bs x.text = K at *
  generalize bs x.behind.text = T at *
  obtain ⟨tt, t0, hlt, hT, hF⟩ := HY.out.torn
  unfold fin at hV
  cases tt with
  | true =>
    rw [if_pos (by rw [hT rfl]; decide)] at hV
    obtain ⟨⟨f0, f1, f2, f3⟩, hlz⟩ := HY.out.free
    obtain ⟨r0, r1, r2, r3⟩ := HY.out.rcells
    go_wp2_with fail
    have HZ := Lib.hid (HY.out.end (.int .i64 0) (.string ⟨#[]⟩) (.string ⟨#[]⟩) (.string ⟨#[]⟩))
    obtain ⟨d0, d1, d2, d3⟩ := HZ.out.cells
    exact bodyPost_ret (v := .tuple #[nil.val, .int .i64 10]) (by simp [results, Tryz.results17, go_sem, d0, d1, d2, d3, nil, Msg.val]) rfl ⟨by first | rfl | exact congrArg Ending.returned hV.symm, HZ.out.below⟩
  | false =>
    rw [if_neg (by rw [hF rfl]; decide)] at hV
    have hb := bs_empty y.rest
    have hl : (bs y.rest).toList = [] ↔ y.rest = [] := by rw [Lib.toList_data, bs_list]
    go_wp2_with fail
    refine (rrest_any _ _ _ HY.out.rd).mono ?_; rintro e w7 ⟨rfl, j, rfl⟩
    replace HY := Lib.hid (HY.out.drawn j)
    clear t0 hlt hT hF
    generalize World.drewN _ _ = w8 at *
    obtain ⟨c0, c1, c2, c3⟩ := HY.out.cells
    obtain ⟨⟨f0, f1, f2, f3⟩, hlz⟩ := HY.out.free
    obtain ⟨r0, r1, r2, r3⟩ := HY.out.rcells
    by_cases hr : y.rest = []
    · rw [decide_eq_true hr] at hb
      replace hl := hl.2 hr
      generalize bs y.rest = RR at *
      cases hm : may ⟨2, K, ⟨#[]⟩, ⟨#[]⟩⟩ with
      | false =>
        rw [hm] at HM
        rw [if_pos (.inr hm)] at hV
        clear hm
        go_wp2_with fail
        refine (HM _).mono ?_; rintro e w9 ⟨rfl, hb2⟩
        replace HY := Lib.hid (HY.out.later hb2)
        clear hb2 c0 c1 c2 c3 f0 f1 f2 f3 hlz r0 r1 r2 r3
        obtain ⟨⟨f0, f1, f2, f3⟩, hlz⟩ := HY.out.free
        obtain ⟨r0, r1, r2, r3⟩ := HY.out.rcells
        go_wp2_with fail
        have HZ := Lib.hid (HY.out.end (.int .i64 0) (.string ⟨#[]⟩) (.string ⟨#[]⟩) (.string ⟨#[]⟩))
        obtain ⟨d0, d1, d2, d3⟩ := HZ.out.cells
        exact bodyPost_ret (v := .tuple #[nil.val, .int .i64 4]) (by simp [results, Tryz.results17, go_sem, d0, d1, d2, d3, nil, Msg.val]) rfl ⟨by first | rfl | exact congrArg Ending.returned hV.symm, HZ.out.below⟩
      | true =>
        rw [hm] at HM
        rw [if_neg (by simp [hr, hm])] at hV
        clear hm
        go_wp2_with fail
        refine (HM _).mono ?_; rintro e w9 ⟨rfl, hb2⟩
        replace HY := Lib.hid (HY.out.later hb2)
        clear hb2 c0 c1 c2 c3 f0 f1 f2 f3 hlz r0 r1 r2 r3
        obtain ⟨c0, c1, c2, c3⟩ := HY.out.cells
        obtain ⟨⟨f0, f1, f2, f3⟩, hlz⟩ := HY.out.free
        obtain ⟨r0, r1, r2, r3⟩ := HY.out.rcells
        go_wp2_with fail
        have HZ := Lib.hid (HY.out.end (.int .i64 2) (.string K) (.string ⟨#[]⟩) (.string ⟨#[]⟩))
        obtain ⟨d0, d1, d2, d3⟩ := HZ.out.cells
        exact bodyPost_ret (v := .tuple #[.agg #[.int .i64 2, .string K, .string ⟨#[]⟩, .string ⟨#[]⟩], .int .i64 0]) (by simp [results, Tryz.results17, go_sem, d0, d1, d2, d3]) rfl ⟨by first | rfl | exact congrArg Ending.returned hV.symm, HZ.out.below⟩
    · rw [if_pos (.inl hr)] at hV
      rw [decide_eq_false hr] at hb
      have hl2 : ¬ (bs y.rest).toList = [] := fun h => hr (hl.1 h)
      clear hl hr
      generalize bs y.rest = RR at *
      go_wp2_with fail
      have HZ := Lib.hid (HY.out.end (.int .i64 0) (.string ⟨#[]⟩) (.string ⟨#[]⟩) (.string ⟨#[]⟩))
      obtain ⟨d0, d1, d2, d3⟩ := HZ.out.cells
      exact bodyPost_ret (v := .tuple #[nil.val, .int .i64 4]) (by simp [results, Tryz.results17, go_sem, d0, d1, d2, d3, nil, Msg.val]) rfl ⟨by first | rfl | exact congrArg Ending.returned hV.symm, HZ.out.below⟩
set_option maxHeartbeats 8000000 in
theorem rtake_3 (s : ByteArray) (h0 : 0 < s.size) (hs : s.size ≤ 1099511627776) (hne : ¬ s.toList = []) (hne2 : s.toList.isEmpty = false) (hc : ((s[0]'h0).toNat : Int) = 3) (x : R) (hx : (⟨s.data.toList.drop 1, 0⟩ : R) = x)
    (HM : ∀ w, Calls Tryz.prog 38 #[.agg #[.int .i64 3, .string (bs x.text), .string (bs x.behind.text), .string (⟨#[]⟩)]] w fun e w' => e = .returned (.bool (may ⟨3, bs x.text, bs x.behind.text, ⟨#[]⟩⟩)) ∧ Below w.heap.size w w') (V : Value) (hV : V = .tuple #[(fin ⟨3, bs x.text, bs x.behind.text, ⟨#[]⟩⟩ x.behind.behind).m.val, .int .i64 ((fin ⟨3, bs x.text, bs x.behind.text, ⟨#[]⟩⟩ x.behind.behind).e : Nat)]) (w : World) :
    Calls Tryz.prog 17 #[.string s] w fun e w' => e = .returned V ∧ Below w.heap.size w w' := by
  have HX := Lib.hid (D3.new w s 3 h0 hs)
  rw [hx] at HX
  clear hx
  obtain ⟨c0, c1, c2, c3⟩ := HX.out.cells
  obtain ⟨⟨f0, f1, f2, f3⟩, hlz⟩ := HX.out.bfree
  go_enter Tryz.func17, Tryz.ntmps17
  go_wp2_with fail
  refine (rrtext_any _ _ _ HX.out.rd).mono ?_; rintro e w1 ⟨rfl, h1, h2⟩
  replace HX := Lib.hid (HX.out.step h1 h2)
  clear h1 h2 c0 c1 c2 c3 f0 f1 f2 f3 hlz
  obtain ⟨c0, c1, c2, c3⟩ := HX.out.cells
  obtain ⟨⟨f0, f1, f2, f3⟩, hlz⟩ := HX.out.bfree
  go_upto_region 8 with fail
  replace HX := Lib.hid (HX.out.put 1 (.string (bs x.text)))
  clear c0 c1 c2 c3 f0 f1 f2 f3 hlz
  generalize World.setCell _ _ _ = w5 at *
  obtain ⟨c0, c1, c2, c3⟩ := HX.out.cells
  obtain ⟨⟨f0, f1, f2, f3⟩, hlz⟩ := HX.out.bfree
  go_wp2_with fail
  refine (rrtext_any _ _ _ HX.out.rd).mono ?_; rintro e w2 ⟨rfl, h1, h2⟩
  replace HX := Lib.hid (HX.out.step h1 h2)
  clear h1 h2 c0 c1 c2 c3 f0 f1 f2 f3 hlz
  obtain ⟨c0, c1, c2, c3⟩ := HX.out.cells
  obtain ⟨⟨f0, f1, f2, f3⟩, hlz⟩ := HX.out.bfree
  go_upto_region 12 with fail
  have H7 := Lib.hid (HX.out.put 2 (.string (bs x.behind.text)))
  clear HX c0 c1 c2 c3 f0 f1 f2 f3 hlz
  generalize World.setCell _ _ _ = w6 at *
  have H8 : D3 w (w.heap.size + 1) (w.heap.size + 1 + 1) (x.behind.behind) #[.int .i64 0, .string ⟨#[]⟩, .string ⟨#[]⟩, .string ⟨#[]⟩] #[.int .i64 3, .string (bs x.text), .string (bs x.behind.text), .string ⟨#[]⟩] _ := H7.out
  clear H7
  have HY := Lib.hid H8; clear H8
  generalize x.behind.behind = y at *
  generalize bs x.text = K at *
  generalize bs x.behind.text = T at *
  obtain ⟨tt, t0, hlt, hT, hF⟩ := HY.out.torn
  unfold fin at hV
  cases tt with
  | true =>
    rw [if_pos (by rw [hT rfl]; decide)] at hV
    obtain ⟨⟨f0, f1, f2, f3⟩, hlz⟩ := HY.out.free
    obtain ⟨r0, r1, r2, r3⟩ := HY.out.rcells
    go_wp2_with fail
    have HZ := Lib.hid (HY.out.end (.int .i64 0) (.string ⟨#[]⟩) (.string ⟨#[]⟩) (.string ⟨#[]⟩))
    obtain ⟨d0, d1, d2, d3⟩ := HZ.out.cells
    exact bodyPost_ret (v := .tuple #[nil.val, .int .i64 10]) (by simp [results, Tryz.results17, go_sem, d0, d1, d2, d3, nil, Msg.val]) rfl ⟨by first | rfl | exact congrArg Ending.returned hV.symm, HZ.out.below⟩
  | false =>
    rw [if_neg (by rw [hF rfl]; decide)] at hV
    have hb := bs_empty y.rest
    have hl : (bs y.rest).toList = [] ↔ y.rest = [] := by rw [Lib.toList_data, bs_list]
    go_wp2_with fail
    refine (rrest_any _ _ _ HY.out.rd).mono ?_; rintro e w7 ⟨rfl, j, rfl⟩
    replace HY := Lib.hid (HY.out.drawn j)
    clear t0 hlt hT hF
    generalize World.drewN _ _ = w8 at *
    obtain ⟨c0, c1, c2, c3⟩ := HY.out.cells
    obtain ⟨⟨f0, f1, f2, f3⟩, hlz⟩ := HY.out.free
    obtain ⟨r0, r1, r2, r3⟩ := HY.out.rcells
    by_cases hr : y.rest = []
    · rw [decide_eq_true hr] at hb
      replace hl := hl.2 hr
      generalize bs y.rest = RR at *
      cases hm : may ⟨3, K, T, ⟨#[]⟩⟩ with
      | false =>
        rw [hm] at HM
        rw [if_pos (.inr hm)] at hV
        clear hm
        go_wp2_with fail
        refine (HM _).mono ?_; rintro e w9 ⟨rfl, hb2⟩
        replace HY := Lib.hid (HY.out.later hb2)
        clear hb2 c0 c1 c2 c3 f0 f1 f2 f3 hlz r0 r1 r2 r3
        obtain ⟨⟨f0, f1, f2, f3⟩, hlz⟩ := HY.out.free
        obtain ⟨r0, r1, r2, r3⟩ := HY.out.rcells
        go_wp2_with fail
        have HZ := Lib.hid (HY.out.end (.int .i64 0) (.string ⟨#[]⟩) (.string ⟨#[]⟩) (.string ⟨#[]⟩))
        obtain ⟨d0, d1, d2, d3⟩ := HZ.out.cells
        exact bodyPost_ret (v := .tuple #[nil.val, .int .i64 4]) (by simp [results, Tryz.results17, go_sem, d0, d1, d2, d3, nil, Msg.val]) rfl ⟨by first | rfl | exact congrArg Ending.returned hV.symm, HZ.out.below⟩
      | true =>
        rw [hm] at HM
        rw [if_neg (by simp [hr, hm])] at hV
        clear hm
        go_wp2_with fail
        refine (HM _).mono ?_; rintro e w9 ⟨rfl, hb2⟩
        replace HY := Lib.hid (HY.out.later hb2)
        clear hb2 c0 c1 c2 c3 f0 f1 f2 f3 hlz r0 r1 r2 r3
        obtain ⟨c0, c1, c2, c3⟩ := HY.out.cells
        obtain ⟨⟨f0, f1, f2, f3⟩, hlz⟩ := HY.out.free
        obtain ⟨r0, r1, r2, r3⟩ := HY.out.rcells
        go_wp2_with fail
        have HZ := Lib.hid (HY.out.end (.int .i64 3) (.string K) (.string T) (.string ⟨#[]⟩))
        obtain ⟨d0, d1, d2, d3⟩ := HZ.out.cells
        exact bodyPost_ret (v := .tuple #[.agg #[.int .i64 3, .string K, .string T, .string ⟨#[]⟩], .int .i64 0]) (by simp [results, Tryz.results17, go_sem, d0, d1, d2, d3]) rfl ⟨by first | rfl | exact congrArg Ending.returned hV.symm, HZ.out.below⟩
    · rw [if_pos (.inl hr)] at hV
      rw [decide_eq_false hr] at hb
      have hl2 : ¬ (bs y.rest).toList = [] := fun h => hr (hl.1 h)
      clear hl hr
      generalize bs y.rest = RR at *
      go_wp2_with fail
      have HZ := Lib.hid (HY.out.end (.int .i64 0) (.string ⟨#[]⟩) (.string ⟨#[]⟩) (.string ⟨#[]⟩))
      obtain ⟨d0, d1, d2, d3⟩ := HZ.out.cells
      exact bodyPost_ret (v := .tuple #[nil.val, .int .i64 4]) (by simp [results, Tryz.results17, go_sem, d0, d1, d2, d3, nil, Msg.val]) rfl ⟨by first | rfl | exact congrArg Ending.returned hV.symm, HZ.out.below⟩
theorem rtake_any (s : ByteArray) (hs : s.size ≤ 1099511627776) (w : World) : Calls Tryz.prog 17 #[.string s] w fun e w' => e = .returned (.tuple #[(tkM s.data.toList).m.val, .int .i64 ((tkM s.data.toList).e : Nat)]) ∧ Below w.heap.size w w' := by
  by_cases h : s.size = 0
  · obtain rfl := size_nil.1 h
    have e : tkM (⟨#[]⟩ : ByteArray).data.toList = .no 10 := rfl
    rw [e]
    exact rtake_e w
  · have h0 : 0 < s.size := by omega
    have hne : ¬ s.toList = [] := fun e => h (list_nil.1 e)
    have hne2 : s.toList.isEmpty = false := by rw [isEmpty_size, decide_eq_false h]
    have hc := hd_get s h0
    have he : val ((⟨s.data.toList, 0⟩ : R).take 1) = (hd s).toNat ∧ (⟨s.data.toList, 0⟩ : R).drop 1 = ⟨s.data.toList.drop 1, 0⟩ := by
      obtain ⟨⟨l⟩⟩ := s
      cases l with
      | nil => exact absurd rfl h
      | cons b l =>
        refine ⟨?_, ?_⟩
        · rw [(Bk.r_one b l).1, Bk.val1]; rfl
        · rw [(Bk.r_one b l).2]; rfl
    unfold tkM
    dsimp only
    rw [he.1, he.2]
    generalize (hd s).toNat = c at *
    obtain ⟨x, hx⟩ : ∃ x, (⟨s.data.toList.drop 1, 0⟩ : R) = x := ⟨_, rfl⟩
    rw [hx]
    have hk : c < 1 ∨ 4 < c ∨ c = 1 ∨ c = 4 ∨ c = 2 ∨ c = 3 := by omega
    have M := fun (m : Msg) (hv : m.v.size ≤ 1099511627776) w => rmay_any m hv w
    have z0 : (⟨#[]⟩ : ByteArray).size ≤ 1099511627776 := by decide
    by_cases hr : c < 1 ∨ 4 < c
    · rw [if_neg (by omega), if_neg (by omega), if_neg (by omega)]
      have e2 : fin ⟨(c : Int), ⟨#[]⟩, ⟨#[]⟩, ⟨#[]⟩⟩ x = .no 4 := by
        unfold fin
        rw [if_neg (by rw [← hx]; simp), if_pos (.inr (by unfold may; rw [show key ⟨#[]⟩ = false by decide, Bool.false_and]))]
      rw [e2]
      exact rtake_k s h0 hne hne2 c hc hr w
    · have h5 : c = 1 ∨ c = 4 ∨ c = 2 ∨ c = 3 := by omega
      rcases h5 with rfl | rfl | rfl | rfl
      · rw [if_pos (.inl rfl)]
        exact rtake_1 s h0 hs hne hne2 hc x hx (M _ (text_size _)) _ rfl w
      · rw [if_pos (.inr rfl)]
        exact rtake_4 s h0 hs hne hne2 hc x hx (M _ (text_size _)) _ rfl w
      · rw [if_neg (by decide), if_pos rfl]
        exact rtake_2 s h0 hs hne hne2 hc x hx (M _ z0) _ rfl w
      · rw [if_neg (by decide), if_neg (by decide), if_pos rfl]
        exact rtake_3 s h0 hs hne hne2 hc x hx (M _ z0) _ rfl w
end Go.Proofs.YthledgkjfjdjoaaGreat.Ms
