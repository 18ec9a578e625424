/- The message of a text, by the program. Conditions: lengths below 2^40. -/
import Derived.Test.YthledgkjfjdjoaaGreatMsB
namespace Go.Proofs.YthledgkjfjdjoaaGreat.Ms
open Go.ChangeShapes Go.WideShapes Go.RowKit Go.Codec Go.Mt Go.Blk
set_option maxRecDepth 100000
set_option linter.unusedSimpArgs false
set_option linter.unusedVariables false
/-- The answer's cell, a reader, a message's cell. -/
structure R3 (w : World) (r g : Nat) (x : R) (res box : Array Value) (wx : World) : Prop where
  below : Below w.heap.size w wx
  res : Is wx w.heap.size 23 res
  rd : Rd wx r x
  box : Is wx g 23 box
  h1 : w.heap.size < r
  h2 : r < g
section
variable {w wx wy : World} {r g q : Nat} {x y : R} {res box cs : Array Value}
theorem R3.new (h : Mt.Rg w 23 res r x wx) (box : Array Value) : R3 w r wx.heap.size x res box (wx.alloc (.cells box 23)) :=
  have h2 := h.later (below_alloc2 (Below.refl _ _) (.cells box 23))
  ⟨h2.box.below, h2.box.one, h2.rd, Is.new _ _ _, h.ne, Is.lt h.rd⟩
theorem R3.later (h : R3 w r g x res box wx) (hb : Below wx.heap.size wx wy) : R3 w r g x res box wy :=
  ⟨h.below.trans (hb.mono h.below.size), h.res.kept (grow_below hb none) (by simp), Is.kept h.rd (grow_below hb none) (by simp), h.box.kept (grow_below hb none) (by simp), h.h1, h.h2⟩
theorem R3.step (h : R3 w r g x res box wx) (hw : Rd wy r y) (hg : wx.grownBy wy (some r)) : R3 w r g y res box wy :=
  ⟨h.below.trans (below_of_grow hg h.below.size (by have := h.h1; omega)), h.res.kept hg (by have := h.h1; simp; omega), hw, h.box.kept hg (by have := h.h2; simp; omega), h.h1, h.h2⟩
theorem R3.put (h : R3 w r g x res box wx) (i : Nat) (u : Value) : R3 w r g x res (box.setIfInBounds i u) (wx.setCell ⟨g, i, none⟩ u) :=
  ⟨h.below.setCell (by have := h.h1; have := h.h2; simp; omega) _, h.res.other (by have := h.h1; have := h.h2; simp; omega) _, Is.other h.rd (by have := h.h2; simp; omega) _, h.box.put i u, h.h1, h.h2⟩
theorem R3.end {a b c d : Value} (h : R3 w r g x #[a, b, c, d] box wx) (a' b' c' d' : Value) : Bk.Box w 23 #[a', b', c', d'] ((((wx.setCell ⟨w.heap.size, 0, none⟩ a').setCell ⟨w.heap.size, 1, none⟩ b').setCell ⟨w.heap.size, 2, none⟩ c').setCell ⟨w.heap.size, 3, none⟩ d') := by
  refine ⟨(((h.below.setCell (Nat.le_refl _) _).setCell (Nat.le_refl _) _).setCell (Nat.le_refl _) _).setCell (Nat.le_refl _) _, ?_⟩
  have h1 := (((h.res.put 0 a').put 1 b').put 2 c').put 3 d'
  simp at h1
  exact h1
theorem R3.free (h : R3 w r g x res box wx) : (wx.frozen? ⟨w.heap.size, 0, none⟩ = false ∧ wx.frozen? ⟨w.heap.size, 1, none⟩ = false ∧ wx.frozen? ⟨w.heap.size, 2, none⟩ = false ∧ wx.frozen? ⟨w.heap.size, 3, none⟩ = false) ∧ w.heap.size < wx.heap.size :=
  ⟨⟨h.res.frozen 0, h.res.frozen 1, h.res.frozen 2, h.res.frozen 3⟩, h.res.lt⟩
theorem R3.rcells {a b c d : Value} (h : R3 w r g x #[a, b, c, d] box wx) : wx.cell? ⟨w.heap.size, 0, none⟩ = some a ∧ wx.cell? ⟨w.heap.size, 1, none⟩ = some b ∧ wx.cell? ⟨w.heap.size, 2, none⟩ = some c ∧ wx.cell? ⟨w.heap.size, 3, none⟩ = some d :=
  ⟨h.res.cell 0, h.res.cell 1, h.res.cell 2, h.res.cell 3⟩
theorem R3.cells {a b c d : Value} (h : R3 w r g x res #[a, b, c, d] wx) : wx.cell? ⟨g, 0, none⟩ = some a ∧ wx.cell? ⟨g, 1, none⟩ = some b ∧ wx.cell? ⟨g, 2, none⟩ = some c ∧ wx.cell? ⟨g, 3, none⟩ = some d :=
  ⟨h.box.cell 0, h.box.cell 1, h.box.cell 2, h.box.cell 3⟩
/-- The same, and a row of pointers. -/
structure R4 (w : World) (r g q : Nat) (x : R) (res box cs : Array Value) (wx : World) : Prop where
  all : R3 w r g x res box wx
  row : Is wx q 62 cs
  h3 : g < q
theorem R4.new (h : R3 w r g x res box wx) (hr : Is wy wx.heap.size 62 cs) (hb : Below wx.heap.size wx wy) : R4 w r g wx.heap.size x res box cs wy := ⟨h.later hb, hr, h.box.lt⟩
theorem R4.step (h : R4 w r g q x res box cs wx) (hw : Rd wy r y) (hg : wx.grownBy wy (some r)) : R4 w r g q y res box cs wy :=
  ⟨h.all.step hw hg, h.row.kept hg (by have := h.all.h2; have := h.h3; simp; omega), h.h3⟩
theorem R4.put (h : R4 w r g q x res box cs wx) (i : Nat) (u : Value) : R4 w r g q x res (box.setIfInBounds i u) cs (wx.setCell ⟨g, i, none⟩ u) :=
  ⟨h.all.put i u, h.row.other (by have := h.h3; simp; omega) _, h.h3⟩
end
set_option maxHeartbeats 8000000 in
theorem take_E (s : ByteArray) (hs : s.size ≤ 1099511627776) (o : Nat) (ho : o < 256) (k t v : ByteArray) (n : Nat) (hn : n ≤ 2) (offs : Nat → Nat) (hoff : ∀ i, offs i < 4) (xs : Nat → R) (hxl : ∀ i, (xs i).rest.length ≤ 1099511627776) (hx1 : ∀ i, i < n → xs (i + 1) = (xs i).behind) (bx : Nat → Array Value) (hbs : ∀ i, (bx i).size = 4) (hb1 : ∀ i, i < n → bx (i + 1) = (bx i).setIfInBounds (offs i) (.string (bs (xs i).text))) (cs : Nat → Array Value) (hcs : ∀ g, (cs g).size = n)
    (hcell : ∀ g i, i < n → (cs g)[i]? = some (.pointer (some ⟨g, offs i, none⟩)))
    (hF : ∀ g w, Is w g 23 #[.int .i64 o, .string ⟨#[]⟩, .string ⟨#[]⟩, .string ⟨#[]⟩] → Calls Tryz.prog 35 #[.pointer (some ⟨g, 0, none⟩)] w (Fields (cs g) w))
    (hb0 : bx 0 = #[.int .i64 o, .string ⟨#[]⟩, .string ⟨#[]⟩, .string ⟨#[]⟩]) (hbn : bx n = #[.int .i64 o, .string k, .string t, .string v])
    (G0 : ∀ r wx, Rd wx r ⟨s.data.toList, 0⟩ → Calls Tryz.prog 41 #[.pointer (some ⟨r, 0, none⟩)] wx (Got .u8 r o (xs 0) wx)) (hx : (xs n).er = 10) (w : World) :
    Calls Tryz.prog 16 #[.string s] w fun e w' => e = .returned (.tuple #[.agg #[.int .i64 0, .string ⟨#[]⟩, .string ⟨#[]⟩, .string ⟨#[]⟩], .int .i64 10]) ∧ Below w.heap.size w w' := by
  have HX := Lib.hid (Mt.Box.new w 23 #[.int .i64 0, .string ⟨#[]⟩, .string ⟨#[]⟩, .string ⟨#[]⟩])
  have HF := Lib.hid hF; have HE := Lib.hid hx; clear hF hx
  have HC := Lib.hid hcell; have HZ := Lib.hid hcs; have HX1 := Lib.hid hx1; have HB1 := Lib.hid hb1; have HB0 := Lib.hid hb0; have HBN := Lib.hid hbn; have HBS := Lib.hid hbs
  clear hcell hcs hx1 hb1 hb0 hbn hbs
  go_enter Tryz.func16, Tryz.ntmps16
  go_wp2_with fail
  refine (new_any s (by omega) _).mono ?_; rintro e w1 ⟨r, rfl, hr0, hd, hb⟩
  have HR := Lib.hid (Mt.Rg.new HX.out hr0 hd hb)
  clear hr0 hd hb HX
  go_wp2_with fail
  refine (G0 r _ HR.out.rd).mono ?_; rintro e w2 ⟨rfl, h1, h2⟩
  replace HR := Lib.hid (HR.out.step h1 h2)
  clear h1 h2
  have H3 := Lib.hid (R3.new HR.out #[.int .i64 o, .string ⟨#[]⟩, .string ⟨#[]⟩, .string ⟨#[]⟩]); clear HR
  go_wp2_with fail
  refine (HF.out _ _ H3.out.box).mono ?_; rintro e w3 ⟨rfl, hr5, hb⟩
  have H4 := Lib.hid (R4.new H3.out hr5 hb)
  clear hr5 hb H3
  rw [HZ.out]
  generalize w2.heap.size = g at *
  generalize (w2.alloc (Obj.cells #[.int .i64 o, .string ⟨#[]⟩, .string ⟨#[]⟩, .string ⟨#[]⟩] 23)).heap.size = q at *
  rw [← HB0.out] at H4
  go_wp2_with fail
  go_loopw [17] (fun i W => ∃ (j : Nat), j ≤ n ∧ i = .int .i64 j ∧ R4 w r g q (xs j) #[.int .i64 0, .string ⟨#[]⟩, .string ⟨#[]⟩, .string ⟨#[]⟩] (bx j) (cs g) W) (fun i _ => n - (intOf i).toNat)
  case atStart => exact ⟨0, by omega, rfl, H4.out⟩
  case round =>
    clear H4
    obtain ⟨j, hj, rfl, h4⟩ := hrel
    have H4 := Lib.hid h4; clear h4
    by_cases hlt : j < n
    · have hc : _ := H4.out.row.cell j
      rw [HC.out _ _ hlt] at hc
      have hl := H4.out.row.lt
      go_wp2_with fail
      refine (rtext_any r _ (hxl j) _ H4.out.all.rd).mono ?_; rintro e w4 ⟨rfl, h1, h2⟩
      replace H4 := Lib.hid (H4.out.step h1 h2)
      clear h1 h2 hc hl
      have hf := H4.out.all.box.frozen (offs j)
      have hl2 := H4.out.all.box.lt
      obtain ⟨b0, hbx⟩ : ∃ b0, w4.cell? ⟨g, offs j, none⟩ = some b0 := by
        rw [H4.out.all.box.cell (offs j)]
        exact ⟨_, Array.getElem?_eq_getElem (by rw [HBS.out]; exact hoff j)⟩
      go_wp2_with fail
      refine ⟨⟨j + 1, by omega, by go_num, ?_⟩, ?_⟩
      · rw [HX1.out j hlt, HB1.out j hlt]
        exact H4.out.put (offs j) _
      · simp [intOf]; omega
    · obtain rfl : j = n := by omega
      have H3 := Lib.hid H4.out.all; clear H4
      rw [HBN.out] at H3
      have hx := HE.out
      obtain ⟨⟨f0, f1, f2, f3⟩, hlz⟩ := H3.out.free
      obtain ⟨r0, r1, r2, r3⟩ := H3.out.rcells
      obtain ⟨c0, c1, c2, c3⟩ := H3.out.cells
      go_wp2_with fail
      refine (err_any r _ _ H3.out.rd).mono ?_; rintro e w5 ⟨rfl, rfl⟩
      have HZ := Lib.hid (H3.out.end (.int .i64 0) (.string ⟨#[]⟩) (.string ⟨#[]⟩) (.string ⟨#[]⟩)); clear H3
      rw [hx]
      go_wp2_with fail
      obtain ⟨d0, d1, d2, d3⟩ := HZ.out.cells
      exact bodyPost_ret (v := .tuple #[.agg #[.int .i64 0, .string ⟨#[]⟩, .string ⟨#[]⟩, .string ⟨#[]⟩], .int .i64 10]) (by simp [results, Tryz.results16, go_sem, d0, d1, d2, d3]) rfl ⟨rfl, HZ.out.below⟩
set_option maxHeartbeats 8000000 in
theorem take_L (s : ByteArray) (hs : s.size ≤ 1099511627776) (o : Nat) (ho : o < 256) (k t v : ByteArray) (n : Nat) (hn : n ≤ 2) (offs : Nat → Nat) (hoff : ∀ i, offs i < 4) (xs : Nat → R) (hxl : ∀ i, (xs i).rest.length ≤ 1099511627776) (hx1 : ∀ i, i < n → xs (i + 1) = (xs i).behind) (bx : Nat → Array Value) (hbs : ∀ i, (bx i).size = 4) (hb1 : ∀ i, i < n → bx (i + 1) = (bx i).setIfInBounds (offs i) (.string (bs (xs i).text))) (cs : Nat → Array Value) (hcs : ∀ g, (cs g).size = n)
    (hcell : ∀ g i, i < n → (cs g)[i]? = some (.pointer (some ⟨g, offs i, none⟩)))
    (hF : ∀ g w, Is w g 23 #[.int .i64 o, .string ⟨#[]⟩, .string ⟨#[]⟩, .string ⟨#[]⟩] → Calls Tryz.prog 35 #[.pointer (some ⟨g, 0, none⟩)] w (Fields (cs g) w))
    (hb0 : bx 0 = #[.int .i64 o, .string ⟨#[]⟩, .string ⟨#[]⟩, .string ⟨#[]⟩]) (hbn : bx n = #[.int .i64 o, .string k, .string t, .string v])
    (G0 : ∀ r wx, Rd wx r ⟨s.data.toList, 0⟩ → Calls Tryz.prog 41 #[.pointer (some ⟨r, 0, none⟩)] wx (Got .u8 r o (xs 0) wx)) (hx : (xs n).er = 0) (hr : (bs (xs n).rest).toList.isEmpty = false) (hr2 : ¬ (bs (xs n).rest).toList = []) (w : World) :
    Calls Tryz.prog 16 #[.string s] w fun e w' => e = .returned (.tuple #[.agg #[.int .i64 0, .string ⟨#[]⟩, .string ⟨#[]⟩, .string ⟨#[]⟩], .int .i64 4]) ∧ Below w.heap.size w w' := by
  have HX := Lib.hid (Mt.Box.new w 23 #[.int .i64 0, .string ⟨#[]⟩, .string ⟨#[]⟩, .string ⟨#[]⟩])
  have HF := Lib.hid hF; have HE := Lib.hid hx; clear hF hx
  have HC := Lib.hid hcell; have HZ := Lib.hid hcs; have HX1 := Lib.hid hx1; have HB1 := Lib.hid hb1; have HB0 := Lib.hid hb0; have HBN := Lib.hid hbn; have HBS := Lib.hid hbs
  clear hcell hcs hx1 hb1 hb0 hbn hbs
  go_enter Tryz.func16, Tryz.ntmps16
  go_wp2_with fail
  refine (new_any s (by omega) _).mono ?_; rintro e w1 ⟨r, rfl, hr0, hd, hb⟩
  have HR := Lib.hid (Mt.Rg.new HX.out hr0 hd hb)
  clear hr0 hd hb HX
  go_wp2_with fail
  refine (G0 r _ HR.out.rd).mono ?_; rintro e w2 ⟨rfl, h1, h2⟩
  replace HR := Lib.hid (HR.out.step h1 h2)
  clear h1 h2
  have H3 := Lib.hid (R3.new HR.out #[.int .i64 o, .string ⟨#[]⟩, .string ⟨#[]⟩, .string ⟨#[]⟩]); clear HR
  go_wp2_with fail
  refine (HF.out _ _ H3.out.box).mono ?_; rintro e w3 ⟨rfl, hr5, hb⟩
  have H4 := Lib.hid (R4.new H3.out hr5 hb)
  clear hr5 hb H3
  rw [HZ.out]
  generalize w2.heap.size = g at *
  generalize (w2.alloc (Obj.cells #[.int .i64 o, .string ⟨#[]⟩, .string ⟨#[]⟩, .string ⟨#[]⟩] 23)).heap.size = q at *
  rw [← HB0.out] at H4
  go_wp2_with fail
  go_loopw [17] (fun i W => ∃ (j : Nat), j ≤ n ∧ i = .int .i64 j ∧ R4 w r g q (xs j) #[.int .i64 0, .string ⟨#[]⟩, .string ⟨#[]⟩, .string ⟨#[]⟩] (bx j) (cs g) W) (fun i _ => n - (intOf i).toNat)
  case atStart => exact ⟨0, by omega, rfl, H4.out⟩
  case round =>
    clear H4
    obtain ⟨j, hj, rfl, h4⟩ := hrel
    have H4 := Lib.hid h4; clear h4
    by_cases hlt : j < n
    · have hc : _ := H4.out.row.cell j
      rw [HC.out _ _ hlt] at hc
      have hl := H4.out.row.lt
      go_wp2_with fail
      refine (rtext_any r _ (hxl j) _ H4.out.all.rd).mono ?_; rintro e w4 ⟨rfl, h1, h2⟩
      replace H4 := Lib.hid (H4.out.step h1 h2)
      clear h1 h2 hc hl
      have hf := H4.out.all.box.frozen (offs j)
      have hl2 := H4.out.all.box.lt
      obtain ⟨b0, hbx⟩ : ∃ b0, w4.cell? ⟨g, offs j, none⟩ = some b0 := by
        rw [H4.out.all.box.cell (offs j)]
        exact ⟨_, Array.getElem?_eq_getElem (by rw [HBS.out]; exact hoff j)⟩
      go_wp2_with fail
      refine ⟨⟨j + 1, by omega, by go_num, ?_⟩, ?_⟩
      · rw [HX1.out j hlt, HB1.out j hlt]
        exact H4.out.put (offs j) _
      · simp [intOf]; omega
    · obtain rfl : j = n := by omega
      have H3 := Lib.hid H4.out.all; clear H4
      rw [HBN.out] at H3
      have hx := HE.out
      obtain ⟨⟨f0, f1, f2, f3⟩, hlz⟩ := H3.out.free
      obtain ⟨r0, r1, r2, r3⟩ := H3.out.rcells
      obtain ⟨c0, c1, c2, c3⟩ := H3.out.cells
      go_wp2_with fail
      refine (err_any r _ _ H3.out.rd).mono ?_; rintro e w5 ⟨rfl, rfl⟩
      rw [hx]
      go_wp2_with fail
      refine (rest_any r _ _ H3.out.rd).mono ?_; rintro e w6 ⟨rfl, rfl⟩
      have HZ := Lib.hid (H3.out.end (.int .i64 0) (.string ⟨#[]⟩) (.string ⟨#[]⟩) (.string ⟨#[]⟩)); clear H3
      go_wp2_with fail
      obtain ⟨d0, d1, d2, d3⟩ := HZ.out.cells
      exact bodyPost_ret (v := .tuple #[.agg #[.int .i64 0, .string ⟨#[]⟩, .string ⟨#[]⟩, .string ⟨#[]⟩], .int .i64 4]) (by simp [results, Tryz.results16, go_sem, d0, d1, d2, d3]) rfl ⟨rfl, HZ.out.below⟩
set_option maxHeartbeats 8000000 in
theorem take_N (s : ByteArray) (hs : s.size ≤ 1099511627776) (o : Nat) (ho : o < 256) (k t v : ByteArray) (n : Nat) (hn : n ≤ 2) (offs : Nat → Nat) (hoff : ∀ i, offs i < 4) (xs : Nat → R) (hxl : ∀ i, (xs i).rest.length ≤ 1099511627776) (hx1 : ∀ i, i < n → xs (i + 1) = (xs i).behind) (bx : Nat → Array Value) (hbs : ∀ i, (bx i).size = 4) (hb1 : ∀ i, i < n → bx (i + 1) = (bx i).setIfInBounds (offs i) (.string (bs (xs i).text))) (cs : Nat → Array Value) (hcs : ∀ g, (cs g).size = n)
    (hcell : ∀ g i, i < n → (cs g)[i]? = some (.pointer (some ⟨g, offs i, none⟩)))
    (hF : ∀ g w, Is w g 23 #[.int .i64 o, .string ⟨#[]⟩, .string ⟨#[]⟩, .string ⟨#[]⟩] → Calls Tryz.prog 35 #[.pointer (some ⟨g, 0, none⟩)] w (Fields (cs g) w))
    (hb0 : bx 0 = #[.int .i64 o, .string ⟨#[]⟩, .string ⟨#[]⟩, .string ⟨#[]⟩]) (hbn : bx n = #[.int .i64 o, .string k, .string t, .string v])
    (G0 : ∀ r wx, Rd wx r ⟨s.data.toList, 0⟩ → Calls Tryz.prog 41 #[.pointer (some ⟨r, 0, none⟩)] wx (Got .u8 r o (xs 0) wx)) (hx : (xs n).er = 0) (hr : (bs (xs n).rest).toList.isEmpty = true) (hr2 : (bs (xs n).rest).toList = []) (hM : ∀ w, Calls Tryz.prog 33 #[.agg #[.int .i64 o, .string k, .string t, .string v]] w fun e w' => e = .returned (.bool false) ∧ Below w.heap.size w w') (w : World) :
    Calls Tryz.prog 16 #[.string s] w fun e w' => e = .returned (.tuple #[.agg #[.int .i64 0, .string ⟨#[]⟩, .string ⟨#[]⟩, .string ⟨#[]⟩], .int .i64 4]) ∧ Below w.heap.size w w' := by
  have HX := Lib.hid (Mt.Box.new w 23 #[.int .i64 0, .string ⟨#[]⟩, .string ⟨#[]⟩, .string ⟨#[]⟩])
  have HF := Lib.hid hF; have HE := Lib.hid hx; clear hF hx
  have HM := hM; clear hM
  have HC := Lib.hid hcell; have HZ := Lib.hid hcs; have HX1 := Lib.hid hx1; have HB1 := Lib.hid hb1; have HB0 := Lib.hid hb0; have HBN := Lib.hid hbn; have HBS := Lib.hid hbs
  clear hcell hcs hx1 hb1 hb0 hbn hbs
  go_enter Tryz.func16, Tryz.ntmps16
  go_wp2_with fail
  refine (new_any s (by omega) _).mono ?_; rintro e w1 ⟨r, rfl, hr0, hd, hb⟩
  have HR := Lib.hid (Mt.Rg.new HX.out hr0 hd hb)
  clear hr0 hd hb HX
  go_wp2_with fail
  refine (G0 r _ HR.out.rd).mono ?_; rintro e w2 ⟨rfl, h1, h2⟩
  replace HR := Lib.hid (HR.out.step h1 h2)
  clear h1 h2
  have H3 := Lib.hid (R3.new HR.out #[.int .i64 o, .string ⟨#[]⟩, .string ⟨#[]⟩, .string ⟨#[]⟩]); clear HR
  go_wp2_with fail
  refine (HF.out _ _ H3.out.box).mono ?_; rintro e w3 ⟨rfl, hr5, hb⟩
  have H4 := Lib.hid (R4.new H3.out hr5 hb)
  clear hr5 hb H3
  rw [HZ.out]
  generalize w2.heap.size = g at *
  generalize (w2.alloc (Obj.cells #[.int .i64 o, .string ⟨#[]⟩, .string ⟨#[]⟩, .string ⟨#[]⟩] 23)).heap.size = q at *
  rw [← HB0.out] at H4
  go_wp2_with fail
  go_loopw [17] (fun i W => ∃ (j : Nat), j ≤ n ∧ i = .int .i64 j ∧ R4 w r g q (xs j) #[.int .i64 0, .string ⟨#[]⟩, .string ⟨#[]⟩, .string ⟨#[]⟩] (bx j) (cs g) W) (fun i _ => n - (intOf i).toNat)
  case atStart => exact ⟨0, by omega, rfl, H4.out⟩
  case round =>
    clear H4
    obtain ⟨j, hj, rfl, h4⟩ := hrel
    have H4 := Lib.hid h4; clear h4
    by_cases hlt : j < n
    · have hc : _ := H4.out.row.cell j
      rw [HC.out _ _ hlt] at hc
      have hl := H4.out.row.lt
      go_wp2_with fail
      refine (rtext_any r _ (hxl j) _ H4.out.all.rd).mono ?_; rintro e w4 ⟨rfl, h1, h2⟩
      replace H4 := Lib.hid (H4.out.step h1 h2)
      clear h1 h2 hc hl
      have hf := H4.out.all.box.frozen (offs j)
      have hl2 := H4.out.all.box.lt
      obtain ⟨b0, hbx⟩ : ∃ b0, w4.cell? ⟨g, offs j, none⟩ = some b0 := by
        rw [H4.out.all.box.cell (offs j)]
        exact ⟨_, Array.getElem?_eq_getElem (by rw [HBS.out]; exact hoff j)⟩
      go_wp2_with fail
      refine ⟨⟨j + 1, by omega, by go_num, ?_⟩, ?_⟩
      · rw [HX1.out j hlt, HB1.out j hlt]
        exact H4.out.put (offs j) _
      · simp [intOf]; omega
    · obtain rfl : j = n := by omega
      have H3 := Lib.hid H4.out.all; clear H4
      rw [HBN.out] at H3
      have hx := HE.out
      obtain ⟨⟨f0, f1, f2, f3⟩, hlz⟩ := H3.out.free
      obtain ⟨r0, r1, r2, r3⟩ := H3.out.rcells
      obtain ⟨c0, c1, c2, c3⟩ := H3.out.cells
      go_wp2_with fail
      refine (err_any r _ _ H3.out.rd).mono ?_; rintro e w5 ⟨rfl, rfl⟩
      rw [hx]
      go_wp2_with fail
      refine (rest_any r _ _ H3.out.rd).mono ?_; rintro e w6 ⟨rfl, rfl⟩
      go_wp2_with fail
      refine (HM _).mono ?_; rintro e w7 ⟨rfl, hb⟩
      replace H3 := Lib.hid (H3.out.later hb); clear hb f0 f1 f2 f3 hlz r0 r1 r2 r3 c0 c1 c2 c3
      obtain ⟨⟨f0, f1, f2, f3⟩, hlz⟩ := H3.out.free
      obtain ⟨r0, r1, r2, r3⟩ := H3.out.rcells
      obtain ⟨c0, c1, c2, c3⟩ := H3.out.cells
      have HZ := Lib.hid (H3.out.end (.int .i64 0) (.string ⟨#[]⟩) (.string ⟨#[]⟩) (.string ⟨#[]⟩)); clear H3
      go_wp2_with fail
      obtain ⟨d0, d1, d2, d3⟩ := HZ.out.cells
      exact bodyPost_ret (v := .tuple #[.agg #[.int .i64 0, .string ⟨#[]⟩, .string ⟨#[]⟩, .string ⟨#[]⟩], .int .i64 4]) (by simp [results, Tryz.results16, go_sem, d0, d1, d2, d3]) rfl ⟨rfl, HZ.out.below⟩
set_option maxHeartbeats 8000000 in
theorem take_Y (s : ByteArray) (hs : s.size ≤ 1099511627776) (o : Nat) (ho : o < 256) (k t v : ByteArray) (n : Nat) (hn : n ≤ 2) (offs : Nat → Nat) (hoff : ∀ i, offs i < 4) (xs : Nat → R) (hxl : ∀ i, (xs i).rest.length ≤ 1099511627776) (hx1 : ∀ i, i < n → xs (i + 1) = (xs i).behind) (bx : Nat → Array Value) (hbs : ∀ i, (bx i).size = 4) (hb1 : ∀ i, i < n → bx (i + 1) = (bx i).setIfInBounds (offs i) (.string (bs (xs i).text))) (cs : Nat → Array Value) (hcs : ∀ g, (cs g).size = n)
    (hcell : ∀ g i, i < n → (cs g)[i]? = some (.pointer (some ⟨g, offs i, none⟩)))
    (hF : ∀ g w, Is w g 23 #[.int .i64 o, .string ⟨#[]⟩, .string ⟨#[]⟩, .string ⟨#[]⟩] → Calls Tryz.prog 35 #[.pointer (some ⟨g, 0, none⟩)] w (Fields (cs g) w))
    (hb0 : bx 0 = #[.int .i64 o, .string ⟨#[]⟩, .string ⟨#[]⟩, .string ⟨#[]⟩]) (hbn : bx n = #[.int .i64 o, .string k, .string t, .string v])
    (G0 : ∀ r wx, Rd wx r ⟨s.data.toList, 0⟩ → Calls Tryz.prog 41 #[.pointer (some ⟨r, 0, none⟩)] wx (Got .u8 r o (xs 0) wx)) (hx : (xs n).er = 0) (hr : (bs (xs n).rest).toList.isEmpty = true) (hr2 : (bs (xs n).rest).toList = []) (hM : ∀ w, Calls Tryz.prog 33 #[.agg #[.int .i64 o, .string k, .string t, .string v]] w fun e w' => e = .returned (.bool true) ∧ Below w.heap.size w w') (w : World) :
    Calls Tryz.prog 16 #[.string s] w fun e w' => e = .returned (.tuple #[.agg #[.int .i64 o, .string k, .string t, .string v], .int .i64 0]) ∧ Below w.heap.size w w' := by
  have HX := Lib.hid (Mt.Box.new w 23 #[.int .i64 0, .string ⟨#[]⟩, .string ⟨#[]⟩, .string ⟨#[]⟩])
  have HF := Lib.hid hF; have HE := Lib.hid hx; clear hF hx
  have HM := hM; clear hM
  have HC := Lib.hid hcell; have HZ := Lib.hid hcs; have HX1 := Lib.hid hx1; have HB1 := Lib.hid hb1; have HB0 := Lib.hid hb0; have HBN := Lib.hid hbn; have HBS := Lib.hid hbs
  clear hcell hcs hx1 hb1 hb0 hbn hbs
  go_enter Tryz.func16, Tryz.ntmps16
  go_wp2_with fail
  refine (new_any s (by omega) _).mono ?_; rintro e w1 ⟨r, rfl, hr0, hd, hb⟩
  have HR := Lib.hid (Mt.Rg.new HX.out hr0 hd hb)
  clear hr0 hd hb HX
  go_wp2_with fail
  refine (G0 r _ HR.out.rd).mono ?_; rintro e w2 ⟨rfl, h1, h2⟩
  replace HR := Lib.hid (HR.out.step h1 h2)
  clear h1 h2
  have H3 := Lib.hid (R3.new HR.out #[.int .i64 o, .string ⟨#[]⟩, .string ⟨#[]⟩, .string ⟨#[]⟩]); clear HR
  go_wp2_with fail
  refine (HF.out _ _ H3.out.box).mono ?_; rintro e w3 ⟨rfl, hr5, hb⟩
  have H4 := Lib.hid (R4.new H3.out hr5 hb)
  clear hr5 hb H3
  rw [HZ.out]
  generalize w2.heap.size = g at *
  generalize (w2.alloc (Obj.cells #[.int .i64 o, .string ⟨#[]⟩, .string ⟨#[]⟩, .string ⟨#[]⟩] 23)).heap.size = q at *
  rw [← HB0.out] at H4
  go_wp2_with fail
  go_loopw [17] (fun i W => ∃ (j : Nat), j ≤ n ∧ i = .int .i64 j ∧ R4 w r g q (xs j) #[.int .i64 0, .string ⟨#[]⟩, .string ⟨#[]⟩, .string ⟨#[]⟩] (bx j) (cs g) W) (fun i _ => n - (intOf i).toNat)
  case atStart => exact ⟨0, by omega, rfl, H4.out⟩
  case round =>
    clear H4
    obtain ⟨j, hj, rfl, h4⟩ := hrel
    have H4 := Lib.hid h4; clear h4
    by_cases hlt : j < n
    · have hc : _ := H4.out.row.cell j
      rw [HC.out _ _ hlt] at hc
      have hl := H4.out.row.lt
      go_wp2_with fail
      refine (rtext_any r _ (hxl j) _ H4.out.all.rd).mono ?_; rintro e w4 ⟨rfl, h1, h2⟩
      replace H4 := Lib.hid (H4.out.step h1 h2)
      clear h1 h2 hc hl
      have hf := H4.out.all.box.frozen (offs j)
      have hl2 := H4.out.all.box.lt
      obtain ⟨b0, hbx⟩ : ∃ b0, w4.cell? ⟨g, offs j, none⟩ = some b0 := by
        rw [H4.out.all.box.cell (offs j)]
        exact ⟨_, Array.getElem?_eq_getElem (by rw [HBS.out]; exact hoff j)⟩
      go_wp2_with fail
      refine ⟨⟨j + 1, by omega, by go_num, ?_⟩, ?_⟩
      · rw [HX1.out j hlt, HB1.out j hlt]
        exact H4.out.put (offs j) _
      · simp [intOf]; omega
    · obtain rfl : j = n := by omega
      have H3 := Lib.hid H4.out.all; clear H4
      rw [HBN.out] at H3
      have hx := HE.out
      obtain ⟨⟨f0, f1, f2, f3⟩, hlz⟩ := H3.out.free
      obtain ⟨r0, r1, r2, r3⟩ := H3.out.rcells
      obtain ⟨c0, c1, c2, c3⟩ := H3.out.cells
      go_wp2_with fail
      refine (err_any r _ _ H3.out.rd).mono ?_; rintro e w5 ⟨rfl, rfl⟩
      rw [hx]
      go_wp2_with fail
      refine (rest_any r _ _ H3.out.rd).mono ?_; rintro e w6 ⟨rfl, rfl⟩
      go_wp2_with fail
      refine (HM _).mono ?_; rintro e w7 ⟨rfl, hb⟩
      replace H3 := Lib.hid (H3.out.later hb); clear hb f0 f1 f2 f3 hlz r0 r1 r2 r3 c0 c1 c2 c3
      obtain ⟨⟨f0, f1, f2, f3⟩, hlz⟩ := H3.out.free
      obtain ⟨r0, r1, r2, r3⟩ := H3.out.rcells
      obtain ⟨c0, c1, c2, c3⟩ := H3.out.cells
      have HZ := Lib.hid (H3.out.end (.int .i64 o) (.string k) (.string t) (.string v)); clear H3
      go_wp2_with fail
      obtain ⟨d0, d1, d2, d3⟩ := HZ.out.cells
      exact bodyPost_ret (v := .tuple #[.agg #[.int .i64 o, .string k, .string t, .string v], .int .i64 0]) (by simp [results, Tryz.results16, go_sem, d0, d1, d2, d3]) rfl ⟨rfl, HZ.out.below⟩
set_option maxHeartbeats 8000000 in
theorem take_xE (s : ByteArray) (hs : s.size ≤ 1099511627776) (o : Nat) (ho : o < 256) (k t v : ByteArray) (n : Nat) (hn : n = 0) (xs : Nat → R) (hxl : ∀ i, (xs i).rest.length ≤ 1099511627776) (hkk : k = ⟨#[]⟩) (htt : t = ⟨#[]⟩) (hvv : v = ⟨#[]⟩)
    (hF : ∀ g w, Is w g 23 #[.int .i64 o, .string ⟨#[]⟩, .string ⟨#[]⟩, .string ⟨#[]⟩] → Calls Tryz.prog 35 #[.pointer (some ⟨g, 0, none⟩)] w fun e w' => e = .returned (.slice none 0 0) ∧ w = w')
    (G0 : ∀ r wx, Rd wx r ⟨s.data.toList, 0⟩ → Calls Tryz.prog 41 #[.pointer (some ⟨r, 0, none⟩)] wx (Got .u8 r o (xs 0) wx)) (hx : (xs n).er = 10) (w : World) :
    Calls Tryz.prog 16 #[.string s] w fun e w' => e = .returned (.tuple #[.agg #[.int .i64 0, .string ⟨#[]⟩, .string ⟨#[]⟩, .string ⟨#[]⟩], .int .i64 10]) ∧ Below w.heap.size w w' := by
  have HX := Lib.hid (Mt.Box.new w 23 #[.int .i64 0, .string ⟨#[]⟩, .string ⟨#[]⟩, .string ⟨#[]⟩])
  have HF := Lib.hid hF; have HE := Lib.hid hx; clear hF hx
  subst hn hkk htt hvv
  go_enter Tryz.func16, Tryz.ntmps16
  go_wp2_with fail
  refine (new_any s (by omega) _).mono ?_; rintro e w1 ⟨r, rfl, hr0, hd, hb⟩
  have HR := Lib.hid (Mt.Rg.new HX.out hr0 hd hb)
  clear hr0 hd hb HX
  go_wp2_with fail
  refine (G0 r _ HR.out.rd).mono ?_; rintro e w2 ⟨rfl, h1, h2⟩
  replace HR := Lib.hid (HR.out.step h1 h2)
  clear h1 h2
  have H3 := Lib.hid (R3.new HR.out #[.int .i64 o, .string ⟨#[]⟩, .string ⟨#[]⟩, .string ⟨#[]⟩]); clear HR
  go_wp2_with fail
  refine (HF.out _ _ H3.out.box).mono ?_; rintro e w3 ⟨rfl, rfl⟩
  generalize w2.heap.size = g at *
  go_wp2_with fail
  go_loopw [17] (fun i W => i = .int .i64 0 ∧ R3 w r g (xs 0) #[.int .i64 0, .string ⟨#[]⟩, .string ⟨#[]⟩, .string ⟨#[]⟩] #[.int .i64 o, .string ⟨#[]⟩, .string ⟨#[]⟩, .string ⟨#[]⟩] W) (fun i _ => 0)
  case atStart => exact ⟨rfl, H3.out⟩
  case round =>
    clear H3
    obtain ⟨rfl, h3⟩ := hrel
    have H3 := Lib.hid h3; clear h3
    have hx := HE.out
    obtain ⟨⟨f0, f1, f2, f3⟩, hlz⟩ := H3.out.free
    obtain ⟨r0, r1, r2, r3⟩ := H3.out.rcells
    obtain ⟨c0, c1, c2, c3⟩ := H3.out.cells
    go_wp2_with fail
    refine (err_any r _ _ H3.out.rd).mono ?_; rintro e w5 ⟨rfl, rfl⟩
    have HZ := Lib.hid (H3.out.end (.int .i64 0) (.string ⟨#[]⟩) (.string ⟨#[]⟩) (.string ⟨#[]⟩)); clear H3
    rw [hx]
    go_wp2_with fail
    obtain ⟨d0, d1, d2, d3⟩ := HZ.out.cells
    exact bodyPost_ret (v := .tuple #[.agg #[.int .i64 0, .string ⟨#[]⟩, .string ⟨#[]⟩, .string ⟨#[]⟩], .int .i64 10]) (by simp [results, Tryz.results16, go_sem, d0, d1, d2, d3]) rfl ⟨rfl, HZ.out.below⟩
set_option maxHeartbeats 8000000 in
theorem take_xL (s : ByteArray) (hs : s.size ≤ 1099511627776) (o : Nat) (ho : o < 256) (k t v : ByteArray) (n : Nat) (hn : n = 0) (xs : Nat → R) (hxl : ∀ i, (xs i).rest.length ≤ 1099511627776) (hkk : k = ⟨#[]⟩) (htt : t = ⟨#[]⟩) (hvv : v = ⟨#[]⟩)
    (hF : ∀ g w, Is w g 23 #[.int .i64 o, .string ⟨#[]⟩, .string ⟨#[]⟩, .string ⟨#[]⟩] → Calls Tryz.prog 35 #[.pointer (some ⟨g, 0, none⟩)] w fun e w' => e = .returned (.slice none 0 0) ∧ w = w')
    (G0 : ∀ r wx, Rd wx r ⟨s.data.toList, 0⟩ → Calls Tryz.prog 41 #[.pointer (some ⟨r, 0, none⟩)] wx (Got .u8 r o (xs 0) wx)) (hx : (xs n).er = 0) (hr : (bs (xs n).rest).toList.isEmpty = false) (hr2 : ¬ (bs (xs n).rest).toList = []) (w : World) :
    Calls Tryz.prog 16 #[.string s] w fun e w' => e = .returned (.tuple #[.agg #[.int .i64 0, .string ⟨#[]⟩, .string ⟨#[]⟩, .string ⟨#[]⟩], .int .i64 4]) ∧ Below w.heap.size w w' := by
  have HX := Lib.hid (Mt.Box.new w 23 #[.int .i64 0, .string ⟨#[]⟩, .string ⟨#[]⟩, .string ⟨#[]⟩])
  have HF := Lib.hid hF; have HE := Lib.hid hx; clear hF hx
  subst hn hkk htt hvv
  go_enter Tryz.func16, Tryz.ntmps16
  go_wp2_with fail
  refine (new_any s (by omega) _).mono ?_; rintro e w1 ⟨r, rfl, hr0, hd, hb⟩
  have HR := Lib.hid (Mt.Rg.new HX.out hr0 hd hb)
  clear hr0 hd hb HX
  go_wp2_with fail
  refine (G0 r _ HR.out.rd).mono ?_; rintro e w2 ⟨rfl, h1, h2⟩
  replace HR := Lib.hid (HR.out.step h1 h2)
  clear h1 h2
  have H3 := Lib.hid (R3.new HR.out #[.int .i64 o, .string ⟨#[]⟩, .string ⟨#[]⟩, .string ⟨#[]⟩]); clear HR
  go_wp2_with fail
  refine (HF.out _ _ H3.out.box).mono ?_; rintro e w3 ⟨rfl, rfl⟩
  generalize w2.heap.size = g at *
  go_wp2_with fail
  go_loopw [17] (fun i W => i = .int .i64 0 ∧ R3 w r g (xs 0) #[.int .i64 0, .string ⟨#[]⟩, .string ⟨#[]⟩, .string ⟨#[]⟩] #[.int .i64 o, .string ⟨#[]⟩, .string ⟨#[]⟩, .string ⟨#[]⟩] W) (fun i _ => 0)
  case atStart => exact ⟨rfl, H3.out⟩
  case round =>
    clear H3
    obtain ⟨rfl, h3⟩ := hrel
    have H3 := Lib.hid h3; clear h3
    have hx := HE.out
    obtain ⟨⟨f0, f1, f2, f3⟩, hlz⟩ := H3.out.free
    obtain ⟨r0, r1, r2, r3⟩ := H3.out.rcells
    obtain ⟨c0, c1, c2, c3⟩ := H3.out.cells
    go_wp2_with fail
    refine (err_any r _ _ H3.out.rd).mono ?_; rintro e w5 ⟨rfl, rfl⟩
    rw [hx]
    go_wp2_with fail
    refine (rest_any r _ _ H3.out.rd).mono ?_; rintro e w6 ⟨rfl, rfl⟩
    have HZ := Lib.hid (H3.out.end (.int .i64 0) (.string ⟨#[]⟩) (.string ⟨#[]⟩) (.string ⟨#[]⟩)); clear H3
    go_wp2_with fail
    obtain ⟨d0, d1, d2, d3⟩ := HZ.out.cells
    exact bodyPost_ret (v := .tuple #[.agg #[.int .i64 0, .string ⟨#[]⟩, .string ⟨#[]⟩, .string ⟨#[]⟩], .int .i64 4]) (by simp [results, Tryz.results16, go_sem, d0, d1, d2, d3]) rfl ⟨rfl, HZ.out.below⟩
set_option maxHeartbeats 8000000 in
theorem take_xN (s : ByteArray) (hs : s.size ≤ 1099511627776) (o : Nat) (ho : o < 256) (k t v : ByteArray) (n : Nat) (hn : n = 0) (xs : Nat → R) (hxl : ∀ i, (xs i).rest.length ≤ 1099511627776) (hkk : k = ⟨#[]⟩) (htt : t = ⟨#[]⟩) (hvv : v = ⟨#[]⟩)
    (hF : ∀ g w, Is w g 23 #[.int .i64 o, .string ⟨#[]⟩, .string ⟨#[]⟩, .string ⟨#[]⟩] → Calls Tryz.prog 35 #[.pointer (some ⟨g, 0, none⟩)] w fun e w' => e = .returned (.slice none 0 0) ∧ w = w')
    (G0 : ∀ r wx, Rd wx r ⟨s.data.toList, 0⟩ → Calls Tryz.prog 41 #[.pointer (some ⟨r, 0, none⟩)] wx (Got .u8 r o (xs 0) wx)) (hx : (xs n).er = 0) (hr : (bs (xs n).rest).toList.isEmpty = true) (hr2 : (bs (xs n).rest).toList = []) (hM : ∀ w, Calls Tryz.prog 33 #[.agg #[.int .i64 o, .string k, .string t, .string v]] w fun e w' => e = .returned (.bool false) ∧ Below w.heap.size w w') (w : World) :
    Calls Tryz.prog 16 #[.string s] w fun e w' => e = .returned (.tuple #[.agg #[.int .i64 0, .string ⟨#[]⟩, .string ⟨#[]⟩, .string ⟨#[]⟩], .int .i64 4]) ∧ Below w.heap.size w w' := by
  have HX := Lib.hid (Mt.Box.new w 23 #[.int .i64 0, .string ⟨#[]⟩, .string ⟨#[]⟩, .string ⟨#[]⟩])
  have HF := Lib.hid hF; have HE := Lib.hid hx; clear hF hx
  have HM := hM; clear hM
  subst hn hkk htt hvv
  go_enter Tryz.func16, Tryz.ntmps16
  go_wp2_with fail
  refine (new_any s (by omega) _).mono ?_; rintro e w1 ⟨r, rfl, hr0, hd, hb⟩
  have HR := Lib.hid (Mt.Rg.new HX.out hr0 hd hb)
  clear hr0 hd hb HX
  go_wp2_with fail
  refine (G0 r _ HR.out.rd).mono ?_; rintro e w2 ⟨rfl, h1, h2⟩
  replace HR := Lib.hid (HR.out.step h1 h2)
  clear h1 h2
  have H3 := Lib.hid (R3.new HR.out #[.int .i64 o, .string ⟨#[]⟩, .string ⟨#[]⟩, .string ⟨#[]⟩]); clear HR
  go_wp2_with fail
  refine (HF.out _ _ H3.out.box).mono ?_; rintro e w3 ⟨rfl, rfl⟩
  generalize w2.heap.size = g at *
  go_wp2_with fail
  go_loopw [17] (fun i W => i = .int .i64 0 ∧ R3 w r g (xs 0) #[.int .i64 0, .string ⟨#[]⟩, .string ⟨#[]⟩, .string ⟨#[]⟩] #[.int .i64 o, .string ⟨#[]⟩, .string ⟨#[]⟩, .string ⟨#[]⟩] W) (fun i _ => 0)
  case atStart => exact ⟨rfl, H3.out⟩
  case round =>
    clear H3
    obtain ⟨rfl, h3⟩ := hrel
    have H3 := Lib.hid h3; clear h3
    have hx := HE.out
    obtain ⟨⟨f0, f1, f2, f3⟩, hlz⟩ := H3.out.free
    obtain ⟨r0, r1, r2, r3⟩ := H3.out.rcells
    obtain ⟨c0, c1, c2, c3⟩ := H3.out.cells
    go_wp2_with fail
    refine (err_any r _ _ H3.out.rd).mono ?_; rintro e w5 ⟨rfl, rfl⟩
    rw [hx]
    go_wp2_with fail
    refine (rest_any r _ _ H3.out.rd).mono ?_; rintro e w6 ⟨rfl, rfl⟩
    go_wp2_with fail
    refine (HM _).mono ?_; rintro e w7 ⟨rfl, hb⟩
    replace H3 := Lib.hid (H3.out.later hb); clear hb f0 f1 f2 f3 hlz r0 r1 r2 r3 c0 c1 c2 c3
    obtain ⟨⟨f0, f1, f2, f3⟩, hlz⟩ := H3.out.free
    obtain ⟨r0, r1, r2, r3⟩ := H3.out.rcells
    obtain ⟨c0, c1, c2, c3⟩ := H3.out.cells
    have HZ := Lib.hid (H3.out.end (.int .i64 0) (.string ⟨#[]⟩) (.string ⟨#[]⟩) (.string ⟨#[]⟩)); clear H3
    go_wp2_with fail
    obtain ⟨d0, d1, d2, d3⟩ := HZ.out.cells
    exact bodyPost_ret (v := .tuple #[.agg #[.int .i64 0, .string ⟨#[]⟩, .string ⟨#[]⟩, .string ⟨#[]⟩], .int .i64 4]) (by simp [results, Tryz.results16, go_sem, d0, d1, d2, d3]) rfl ⟨rfl, HZ.out.below⟩
theorem drop_er {x : R} (h : x.er = 0 ∨ x.er = 10) (n : Nat) : (x.drop n).er = 0 ∨ (x.drop n).er = 10 := by
  unfold R.drop
  split
  · exact h
  · exact .inr rfl
theorem drop_less (x : R) (n : Nat) : (x.drop n).rest.length ≤ x.rest.length := by
  unfold R.drop
  split <;> simp
theorem behind_er {x : R} (h : x.er = 0 ∨ x.er = 10) : x.behind.er = 0 ∨ x.behind.er = 10 := drop_er (drop_er h _) _
theorem behind_less (x : R) : x.behind.rest.length ≤ x.rest.length := Nat.le_trans (drop_less _ _) (drop_less _ _)
theorem text_size (x : R) : (bs x.text).size ≤ 1099511627776 := by
  rw [bs_size]
  have h1 := take_len (x.drop 2) (val (x.take 2))
  have h2 := val_lt (x.take 2)
  have h3 : 256 ^ (x.take 2).length ≤ 256 ^ 2 := Nat.pow_le_pow_right (by decide) (take_len x 2)
  unfold R.text
  omega
theorem bs_empty (l : List UInt8) : (bs l).toList.isEmpty = decide (l = []) := by
  rw [Lib.toList_data, bs_list]
  cases l <;> rfl
def three {α : Type} (a b c : α) : Nat → α
  | 0 => a
  | 1 => b
  | _ => c
theorem fin_of (s : ByteArray) (m : Msg) (y : R) (he : y.er = 0 ∨ y.er = 10) (hv : m.v.size ≤ 1099511627776) (w : World)
    (E : y.er = 10 → Calls Tryz.prog 16 #[.string s] w fun e w' => e = .returned (.tuple #[.agg #[.int .i64 0, .string ⟨#[]⟩, .string ⟨#[]⟩, .string ⟨#[]⟩], .int .i64 10]) ∧ Below w.heap.size w w')
    (L : y.er = 0 → (bs y.rest).toList.isEmpty = false → ¬ (bs y.rest).toList = [] → Calls Tryz.prog 16 #[.string s] w fun e w' => e = .returned (.tuple #[.agg #[.int .i64 0, .string ⟨#[]⟩, .string ⟨#[]⟩, .string ⟨#[]⟩], .int .i64 4]) ∧ Below w.heap.size w w')
    (O : y.er = 0 → (bs y.rest).toList.isEmpty = true → (bs y.rest).toList = [] → (∀ w, Calls Tryz.prog 33 #[m.val] w fun e w' => e = .returned (.bool false) ∧ Below w.heap.size w w') → Calls Tryz.prog 16 #[.string s] w fun e w' => e = .returned (.tuple #[.agg #[.int .i64 0, .string ⟨#[]⟩, .string ⟨#[]⟩, .string ⟨#[]⟩], .int .i64 4]) ∧ Below w.heap.size w w')
    (Y : y.er = 0 → (bs y.rest).toList.isEmpty = true → (bs y.rest).toList = [] → (∀ w, Calls Tryz.prog 33 #[m.val] w fun e w' => e = .returned (.bool true) ∧ Below w.heap.size w w') → may m = true → Calls Tryz.prog 16 #[.string s] w fun e w' => e = .returned (.tuple #[m.val, .int .i64 0]) ∧ Below w.heap.size w w') :
    Calls Tryz.prog 16 #[.string s] w fun e w' => e = .returned (.tuple #[(fin m y).m.val, .int .i64 ((fin m y).e : Nat)]) ∧ Below w.heap.size w w' := by
  have HM := mayBe_any m hv
  have hb := bs_empty y.rest
  have hl : (bs y.rest).toList = [] ↔ y.rest = [] := by rw [Lib.toList_data, bs_list]
  unfold fin
  rcases he with he | he
  · rw [if_neg (by simp [he])]
    by_cases hr : y.rest = []
    · rw [decide_eq_true hr] at hb
      cases hm : may m with
      | false =>
        rw [if_pos (.inr rfl)]
        rw [hm] at HM
        exact O he hb (hl.2 hr) HM
      | true =>
        rw [if_neg (by simp [hr])]
        rw [hm] at HM
        exact Y he hb (hl.2 hr) HM hm
    · rw [if_pos (.inl hr)]
      rw [decide_eq_false hr] at hb
      exact L he hb (fun h => hr (hl.1 h))
  · rw [if_pos (by rw [he]; decide)]
    exact E he
set_option maxHeartbeats 8000000 in
theorem take_any (s : ByteArray) (hs : s.size ≤ 1099511627776) (w : World) : Calls Tryz.prog 16 #[.string s] w fun e w' => e = .returned (.tuple #[(tkM s.data.toList).m.val, .int .i64 ((tkM s.data.toList).e : Nat)]) ∧ Below w.heap.size w w' := by
  have G : ∀ r wx, Rd wx r ⟨s.data.toList, 0⟩ → Calls Tryz.prog 41 #[.pointer (some ⟨r, 0, none⟩)] wx (Got .u8 r (val ((⟨s.data.toList, 0⟩ : R).take 1)) ((⟨s.data.toList, 0⟩ : R).drop 1) wx) := fun r wx h => ru8_any r _ (by rw [← Lib.size_eq]; exact hs) wx h
  have he : ((⟨s.data.toList, 0⟩ : R).drop 1).er = 0 ∨ ((⟨s.data.toList, 0⟩ : R).drop 1).er = 10 := drop_er (.inl rfl) 1
  have hl : ((⟨s.data.toList, 0⟩ : R).drop 1).rest.length ≤ 1099511627776 := Nat.le_trans (drop_less _ 1) (by rw [← Lib.size_eq]; exact hs)
  have ho : val ((⟨s.data.toList, 0⟩ : R).take 1) < 256 := by
    have h1 := val_lt ((⟨s.data.toList, 0⟩ : R).take 1)
    have h2 : 256 ^ ((⟨s.data.toList, 0⟩ : R).take 1).length ≤ 256 ^ 1 := Nat.pow_le_pow_right (by decide) (take_len _ 1)
    omega
  unfold tkM
  dsimp only
  generalize ((⟨s.data.toList, 0⟩ : R).drop 1) = x at *
  generalize val ((⟨s.data.toList, 0⟩ : R).take 1) = o at *
  have l1 := behind_less x
  have l2 := behind_less x.behind
  have e1 := behind_er he
  have e2 := behind_er e1
  have z0 : (⟨#[]⟩ : ByteArray).size ≤ 1099511627776 := by decide
  by_cases h14 : o = 1 ∨ o = 4
  · rw [if_pos h14]
    have hF : ∀ g w, Is w g 23 #[.int .i64 o, .string ⟨#[]⟩, .string ⟨#[]⟩, .string ⟨#[]⟩] → Calls Tryz.prog 35 #[.pointer (some ⟨g, 0, none⟩)] w (Fields #[pf g 1, pf g 3] w) := by
      rcases h14 with rfl | rfl
      · exact fun g w h => fields_1 g _ _ _ w h
      · exact fun g w h => fields_4 g _ _ _ w h
    refine fin_of s ⟨o, (bs x.text), ⟨#[]⟩, (bs x.behind.text)⟩ (x.behind.behind) e2 (text_size _) w (fun h => ?_) (fun h h2 h3 => ?_) (fun h h2 h3 hm => ?_) (fun h h2 h3 hm hmay => ?_)
    · exact take_E s hs o ho (bs x.text) ⟨#[]⟩ (bs x.behind.text) 2 (by decide) (off2 3) (fun i => by rcases i with _ | i <;> simp only [off2] <;> omega) (three x x.behind x.behind.behind) (fun i => by rcases i with _ | _ | i <;> simp only [three] <;> omega) (fun i hi => by rcases i with _ | _ | i; rfl; rfl; omega)
          (three (#[.int .i64 o, .string ⟨#[]⟩, .string ⟨#[]⟩, .string ⟨#[]⟩] : Array Value) #[.int .i64 o, .string (bs x.text), .string ⟨#[]⟩, .string ⟨#[]⟩] #[.int .i64 o, .string (bs x.text), .string ⟨#[]⟩, .string (bs x.behind.text)]) (fun i => by rcases i with _ | _ | i <;> rfl) (fun i hi => by rcases i with _ | _ | i; rfl; rfl; omega)
          (fun g => #[pf g 1, pf g 3]) (fun _ => rfl) (fun g i hi => by rcases i with _ | _ | i; rfl; rfl; omega) hF rfl rfl G h w
    · exact take_L s hs o ho (bs x.text) ⟨#[]⟩ (bs x.behind.text) 2 (by decide) (off2 3) (fun i => by rcases i with _ | i <;> simp only [off2] <;> omega) (three x x.behind x.behind.behind) (fun i => by rcases i with _ | _ | i <;> simp only [three] <;> omega) (fun i hi => by rcases i with _ | _ | i; rfl; rfl; omega)
          (three (#[.int .i64 o, .string ⟨#[]⟩, .string ⟨#[]⟩, .string ⟨#[]⟩] : Array Value) #[.int .i64 o, .string (bs x.text), .string ⟨#[]⟩, .string ⟨#[]⟩] #[.int .i64 o, .string (bs x.text), .string ⟨#[]⟩, .string (bs x.behind.text)]) (fun i => by rcases i with _ | _ | i <;> rfl) (fun i hi => by rcases i with _ | _ | i; rfl; rfl; omega)
          (fun g => #[pf g 1, pf g 3]) (fun _ => rfl) (fun g i hi => by rcases i with _ | _ | i; rfl; rfl; omega) hF rfl rfl G h h2 h3 w
    · exact take_N s hs o ho (bs x.text) ⟨#[]⟩ (bs x.behind.text) 2 (by decide) (off2 3) (fun i => by rcases i with _ | i <;> simp only [off2] <;> omega) (three x x.behind x.behind.behind) (fun i => by rcases i with _ | _ | i <;> simp only [three] <;> omega) (fun i hi => by rcases i with _ | _ | i; rfl; rfl; omega)
          (three (#[.int .i64 o, .string ⟨#[]⟩, .string ⟨#[]⟩, .string ⟨#[]⟩] : Array Value) #[.int .i64 o, .string (bs x.text), .string ⟨#[]⟩, .string ⟨#[]⟩] #[.int .i64 o, .string (bs x.text), .string ⟨#[]⟩, .string (bs x.behind.text)]) (fun i => by rcases i with _ | _ | i <;> rfl) (fun i hi => by rcases i with _ | _ | i; rfl; rfl; omega)
          (fun g => #[pf g 1, pf g 3]) (fun _ => rfl) (fun g i hi => by rcases i with _ | _ | i; rfl; rfl; omega) hF rfl rfl G h h2 h3 hm w
    · exact take_Y s hs o ho (bs x.text) ⟨#[]⟩ (bs x.behind.text) 2 (by decide) (off2 3) (fun i => by rcases i with _ | i <;> simp only [off2] <;> omega) (three x x.behind x.behind.behind) (fun i => by rcases i with _ | _ | i <;> simp only [three] <;> omega) (fun i hi => by rcases i with _ | _ | i; rfl; rfl; omega)
          (three (#[.int .i64 o, .string ⟨#[]⟩, .string ⟨#[]⟩, .string ⟨#[]⟩] : Array Value) #[.int .i64 o, .string (bs x.text), .string ⟨#[]⟩, .string ⟨#[]⟩] #[.int .i64 o, .string (bs x.text), .string ⟨#[]⟩, .string (bs x.behind.text)]) (fun i => by rcases i with _ | _ | i <;> rfl) (fun i hi => by rcases i with _ | _ | i; rfl; rfl; omega)
          (fun g => #[pf g 1, pf g 3]) (fun _ => rfl) (fun g i hi => by rcases i with _ | _ | i; rfl; rfl; omega) hF rfl rfl G h h2 h3 hm w
  · rw [if_neg h14]
    by_cases h2 : o = 2
    · rw [if_pos h2]
      have hF : ∀ g w, Is w g 23 #[.int .i64 o, .string ⟨#[]⟩, .string ⟨#[]⟩, .string ⟨#[]⟩] → Calls Tryz.prog 35 #[.pointer (some ⟨g, 0, none⟩)] w (Fields #[pf g 1] w) := by
        subst h2; exact fun g w h => fields_2 g _ _ _ w h
      refine fin_of s ⟨o, (bs x.text), ⟨#[]⟩, ⟨#[]⟩⟩ (x.behind) e1 z0 w (fun h => ?_) (fun h h2 h3 => ?_) (fun h h2 h3 hm => ?_) (fun h h2 h3 hm hmay => ?_)
      · exact take_E s hs o ho (bs x.text) ⟨#[]⟩ ⟨#[]⟩ 1 (by decide) (off2 3) (fun i => by rcases i with _ | i <;> simp only [off2] <;> omega) (three x x.behind x.behind.behind) (fun i => by rcases i with _ | _ | i <;> simp only [three] <;> omega) (fun i hi => by rcases i with _ | i; rfl; omega)
            (three (#[.int .i64 o, .string ⟨#[]⟩, .string ⟨#[]⟩, .string ⟨#[]⟩] : Array Value) #[.int .i64 o, .string (bs x.text), .string ⟨#[]⟩, .string ⟨#[]⟩] #[.int .i64 o, .string (bs x.text), .string ⟨#[]⟩, .string ⟨#[]⟩]) (fun i => by rcases i with _ | _ | i <;> rfl) (fun i hi => by rcases i with _ | i; rfl; omega)
            (fun g => #[pf g 1]) (fun _ => rfl) (fun g i hi => by rcases i with _ | i; rfl; omega) hF rfl rfl G h w
      · exact take_L s hs o ho (bs x.text) ⟨#[]⟩ ⟨#[]⟩ 1 (by decide) (off2 3) (fun i => by rcases i with _ | i <;> simp only [off2] <;> omega) (three x x.behind x.behind.behind) (fun i => by rcases i with _ | _ | i <;> simp only [three] <;> omega) (fun i hi => by rcases i with _ | i; rfl; omega)
            (three (#[.int .i64 o, .string ⟨#[]⟩, .string ⟨#[]⟩, .string ⟨#[]⟩] : Array Value) #[.int .i64 o, .string (bs x.text), .string ⟨#[]⟩, .string ⟨#[]⟩] #[.int .i64 o, .string (bs x.text), .string ⟨#[]⟩, .string ⟨#[]⟩]) (fun i => by rcases i with _ | _ | i <;> rfl) (fun i hi => by rcases i with _ | i; rfl; omega)
            (fun g => #[pf g 1]) (fun _ => rfl) (fun g i hi => by rcases i with _ | i; rfl; omega) hF rfl rfl G h h2 h3 w
      · exact take_N s hs o ho (bs x.text) ⟨#[]⟩ ⟨#[]⟩ 1 (by decide) (off2 3) (fun i => by rcases i with _ | i <;> simp only [off2] <;> omega) (three x x.behind x.behind.behind) (fun i => by rcases i with _ | _ | i <;> simp only [three] <;> omega) (fun i hi => by rcases i with _ | i; rfl; omega)
            (three (#[.int .i64 o, .string ⟨#[]⟩, .string ⟨#[]⟩, .string ⟨#[]⟩] : Array Value) #[.int .i64 o, .string (bs x.text), .string ⟨#[]⟩, .string ⟨#[]⟩] #[.int .i64 o, .string (bs x.text), .string ⟨#[]⟩, .string ⟨#[]⟩]) (fun i => by rcases i with _ | _ | i <;> rfl) (fun i hi => by rcases i with _ | i; rfl; omega)
            (fun g => #[pf g 1]) (fun _ => rfl) (fun g i hi => by rcases i with _ | i; rfl; omega) hF rfl rfl G h h2 h3 hm w
      · exact take_Y s hs o ho (bs x.text) ⟨#[]⟩ ⟨#[]⟩ 1 (by decide) (off2 3) (fun i => by rcases i with _ | i <;> simp only [off2] <;> omega) (three x x.behind x.behind.behind) (fun i => by rcases i with _ | _ | i <;> simp only [three] <;> omega) (fun i hi => by rcases i with _ | i; rfl; omega)
            (three (#[.int .i64 o, .string ⟨#[]⟩, .string ⟨#[]⟩, .string ⟨#[]⟩] : Array Value) #[.int .i64 o, .string (bs x.text), .string ⟨#[]⟩, .string ⟨#[]⟩] #[.int .i64 o, .string (bs x.text), .string ⟨#[]⟩, .string ⟨#[]⟩]) (fun i => by rcases i with _ | _ | i <;> rfl) (fun i hi => by rcases i with _ | i; rfl; omega)
            (fun g => #[pf g 1]) (fun _ => rfl) (fun g i hi => by rcases i with _ | i; rfl; omega) hF rfl rfl G h h2 h3 hm w
    rw [if_neg h2]
    by_cases h3 : o = 3
    · rw [if_pos h3]
      have hF : ∀ g w, Is w g 23 #[.int .i64 o, .string ⟨#[]⟩, .string ⟨#[]⟩, .string ⟨#[]⟩] → Calls Tryz.prog 35 #[.pointer (some ⟨g, 0, none⟩)] w (Fields #[pf g 1, pf g 2] w) := by
        subst h3; exact fun g w h => fields_3 g _ _ _ w h
      refine fin_of s ⟨o, (bs x.text), (bs x.behind.text), ⟨#[]⟩⟩ (x.behind.behind) e2 z0 w (fun h => ?_) (fun h h2 h3 => ?_) (fun h h2 h3 hm => ?_) (fun h h2 h3 hm hmay => ?_)
      · exact take_E s hs o ho (bs x.text) (bs x.behind.text) ⟨#[]⟩ 2 (by decide) (off2 2) (fun i => by rcases i with _ | i <;> simp only [off2] <;> omega) (three x x.behind x.behind.behind) (fun i => by rcases i with _ | _ | i <;> simp only [three] <;> omega) (fun i hi => by rcases i with _ | _ | i; rfl; rfl; omega)
            (three (#[.int .i64 o, .string ⟨#[]⟩, .string ⟨#[]⟩, .string ⟨#[]⟩] : Array Value) #[.int .i64 o, .string (bs x.text), .string ⟨#[]⟩, .string ⟨#[]⟩] #[.int .i64 o, .string (bs x.text), .string (bs x.behind.text), .string ⟨#[]⟩]) (fun i => by rcases i with _ | _ | i <;> rfl) (fun i hi => by rcases i with _ | _ | i; rfl; rfl; omega)
            (fun g => #[pf g 1, pf g 2]) (fun _ => rfl) (fun g i hi => by rcases i with _ | _ | i; rfl; rfl; omega) hF rfl rfl G h w
      · exact take_L s hs o ho (bs x.text) (bs x.behind.text) ⟨#[]⟩ 2 (by decide) (off2 2) (fun i => by rcases i with _ | i <;> simp only [off2] <;> omega) (three x x.behind x.behind.behind) (fun i => by rcases i with _ | _ | i <;> simp only [three] <;> omega) (fun i hi => by rcases i with _ | _ | i; rfl; rfl; omega)
            (three (#[.int .i64 o, .string ⟨#[]⟩, .string ⟨#[]⟩, .string ⟨#[]⟩] : Array Value) #[.int .i64 o, .string (bs x.text), .string ⟨#[]⟩, .string ⟨#[]⟩] #[.int .i64 o, .string (bs x.text), .string (bs x.behind.text), .string ⟨#[]⟩]) (fun i => by rcases i with _ | _ | i <;> rfl) (fun i hi => by rcases i with _ | _ | i; rfl; rfl; omega)
            (fun g => #[pf g 1, pf g 2]) (fun _ => rfl) (fun g i hi => by rcases i with _ | _ | i; rfl; rfl; omega) hF rfl rfl G h h2 h3 w
      · exact take_N s hs o ho (bs x.text) (bs x.behind.text) ⟨#[]⟩ 2 (by decide) (off2 2) (fun i => by rcases i with _ | i <;> simp only [off2] <;> omega) (three x x.behind x.behind.behind) (fun i => by rcases i with _ | _ | i <;> simp only [three] <;> omega) (fun i hi => by rcases i with _ | _ | i; rfl; rfl; omega)
            (three (#[.int .i64 o, .string ⟨#[]⟩, .string ⟨#[]⟩, .string ⟨#[]⟩] : Array Value) #[.int .i64 o, .string (bs x.text), .string ⟨#[]⟩, .string ⟨#[]⟩] #[.int .i64 o, .string (bs x.text), .string (bs x.behind.text), .string ⟨#[]⟩]) (fun i => by rcases i with _ | _ | i <;> rfl) (fun i hi => by rcases i with _ | _ | i; rfl; rfl; omega)
            (fun g => #[pf g 1, pf g 2]) (fun _ => rfl) (fun g i hi => by rcases i with _ | _ | i; rfl; rfl; omega) hF rfl rfl G h h2 h3 hm w
      · exact take_Y s hs o ho (bs x.text) (bs x.behind.text) ⟨#[]⟩ 2 (by decide) (off2 2) (fun i => by rcases i with _ | i <;> simp only [off2] <;> omega) (three x x.behind x.behind.behind) (fun i => by rcases i with _ | _ | i <;> simp only [three] <;> omega) (fun i hi => by rcases i with _ | _ | i; rfl; rfl; omega)
            (three (#[.int .i64 o, .string ⟨#[]⟩, .string ⟨#[]⟩, .string ⟨#[]⟩] : Array Value) #[.int .i64 o, .string (bs x.text), .string ⟨#[]⟩, .string ⟨#[]⟩] #[.int .i64 o, .string (bs x.text), .string (bs x.behind.text), .string ⟨#[]⟩]) (fun i => by rcases i with _ | _ | i <;> rfl) (fun i hi => by rcases i with _ | _ | i; rfl; rfl; omega)
            (fun g => #[pf g 1, pf g 2]) (fun _ => rfl) (fun g i hi => by rcases i with _ | _ | i; rfl; rfl; omega) hF rfl rfl G h h2 h3 hm w
    rw [if_neg h3]
    refine fin_of s ⟨o, ⟨#[]⟩, ⟨#[]⟩, ⟨#[]⟩⟩ (x) he z0 w (fun h => ?_) (fun h h2 h3 => ?_) (fun h h2 h3 hm => ?_) (fun h h2 h3 hm hmay => ?_)
    · exact take_xE s hs o ho ⟨#[]⟩ ⟨#[]⟩ ⟨#[]⟩ 0 rfl (fun _ => x) (fun _ => hl) rfl rfl rfl (fun g w h => fields_x g o (by simp; omega) (by simp; omega) (by simp; omega) (by simp; omega) _ _ _ w h) G h w
    · exact take_xL s hs o ho ⟨#[]⟩ ⟨#[]⟩ ⟨#[]⟩ 0 rfl (fun _ => x) (fun _ => hl) rfl rfl rfl (fun g w h => fields_x g o (by simp; omega) (by simp; omega) (by simp; omega) (by simp; omega) _ _ _ w h) G h h2 h3 w
    · exact take_xN s hs o ho ⟨#[]⟩ ⟨#[]⟩ ⟨#[]⟩ 0 rfl (fun _ => x) (fun _ => hl) rfl rfl rfl (fun g w h => fields_x g o (by simp; omega) (by simp; omega) (by simp; omega) (by simp; omega) _ _ _ w h) G h h2 h3 hm w
    · exact absurd hmay (by unfold may; dsimp only; rw [show key (⟨#[]⟩ : ByteArray) = false from rfl, Bool.false_and]; simp)
end Go.Proofs.YthledgkjfjdjoaaGreat.Ms
