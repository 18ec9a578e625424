/- The metas of texts, by the program. Conditions: lengths below 2^40. -/
import Derived.Test.YthledgkjfjdjoaaGreatMtC
namespace Go.Proofs.YthledgkjfjdjoaaGreat.Mt
open Go.ChangeShapes Go.WideShapes Go.RowKit Go.Codec Go.Num Go.Mt
set_option maxRecDepth 100000
set_option linter.unusedSimpArgs false
/-- A reader of l from which n bytes were asked. -/
def rd (l : List UInt8) (n : Nat) : R := if n ≤ l.length then ⟨l.drop n, 0⟩ else ⟨[], 10⟩
def gt (l : List UInt8) (a b : Nat) : Nat := if b ≤ l.length then num l a b else 0
theorem bs_nil : bs [] = ⟨#[]⟩ := rfl
theorem rd_zero (l : List UInt8) : rd l 0 = ⟨l, 0⟩ := by simp [rd]
theorem rd_drop (l : List UInt8) (n m : Nat) (hm : 0 < m) : (rd l n).drop m = rd l (n + m) := by
  unfold rd R.drop
  by_cases h : n ≤ l.length
  · rw [if_pos h]
    by_cases h2 : n + m ≤ l.length
    · rw [if_pos h2, if_pos (by simp; omega)]
      simp
    · rw [if_neg h2, if_neg (by simp; omega)]
  · rw [if_neg h, if_neg (show ¬ n + m ≤ l.length by omega)]
    exact if_neg (by show ¬ m ≤ 0; omega)
theorem rd_take (l : List UInt8) (n m : Nat) (hm : 0 < m) : val ((rd l n).take m) = gt l n (n + m) := by
  unfold rd R.take gt num
  by_cases h : n ≤ l.length
  · rw [if_pos h]
    by_cases h2 : n + m ≤ l.length
    · rw [if_pos h2, if_pos (by simp; omega)]
      simp
    · rw [if_neg h2, if_neg (by simp; omega)]
      rfl
  · rw [if_neg h, if_neg (show ¬ n + m ≤ l.length by omega)]
    exact congrArg Codec.val (if_neg (by show ¬ m ≤ 0; omega))
theorem rd_len (l : List UInt8) (n : Nat) : (rd l n).rest.length ≤ l.length := by
  unfold rd; split <;> simp
theorem ru8_at (r : Nat) (l : List UInt8) (n m : Nat) (hm : m = n + 1) (hs : l.length ≤ 1099511627776) (w : World) (h : Rd w r (rd l n)) : Calls Tryz.prog 41 #[.pointer (some ⟨r, 0, none⟩)] w (Got .u8 r (gt l n m) (rd l m) w) := by
  subst hm
  have H := ru8_any r (rd l n) (by have := rd_len l n; omega) w h
  rw [rd_take l n 1 (by decide), rd_drop l n 1 (by decide)] at H
  exact H
theorem ru32_at (r : Nat) (l : List UInt8) (n m : Nat) (hm : m = n + 4) (hs : l.length ≤ 1099511627776) (w : World) (h : Rd w r (rd l n)) : Calls Tryz.prog 118 #[.pointer (some ⟨r, 0, none⟩)] w (Got .u32 r (gt l n m) (rd l m) w) := by
  subst hm
  have H := ru32_any r (rd l n) (by have := rd_len l n; omega) w h
  rw [rd_take l n 4 (by decide), rd_drop l n 4 (by decide)] at H
  exact H
theorem ru64_at (r : Nat) (l : List UInt8) (n m : Nat) (hm : m = n + 8) (hs : l.length ≤ 1099511627776) (w : World) (h : Rd w r (rd l n)) : Calls Tryz.prog 119 #[.pointer (some ⟨r, 0, none⟩)] w (Got .u64 r (gt l n m) (rd l m) w) := by
  subst hm
  have H := ru64_any r (rd l n) (by have := rd_len l n; omega) w h
  rw [rd_take l n 8 (by decide), rd_drop l n 8 (by decide)] at H
  exact H
/-- A boxed value, and a reader that was made behind it. -/
structure Rg (w : World) (t : TypeId) (arr : Array Value) (r : Nat) (x : R) (wx : World) : Prop where
  box : Box w t arr wx
  rd : Rd wx r x
  ne : w.heap.size < r
section
variable {w wx wy : World} {t : TypeId} {arr : Array Value} {r : Nat} {x y : R}
theorem Rg.new (h : Box w t arr wx) (hr : wx.heap.size ≤ r) (hd : Rd wy r x) (hb : Below wx.heap.size wx wy) : Rg w t arr r x wy :=
  ⟨h.later hb, hd, by have := h.one.lt; omega⟩
theorem Rg.step (h : Rg w t arr r x wx) (hw : Rd wy r y) (hg : wx.grownBy wy (some r)) : Rg w t arr r y wy :=
  ⟨⟨h.box.below.trans (below_of_grow hg h.box.below.size (by have := h.ne; omega)), h.box.one.kept hg (by have := h.ne; simp; omega)⟩, hw, h.ne⟩
theorem Rg.later (h : Rg w t arr r x wx) (hb : Below wx.heap.size wx wy) : Rg w t arr r x wy := ⟨h.box.later hb, Is.kept h.rd (grow_below hb none) (by simp), h.ne⟩
/-- What lies in a box behind four stores. -/
theorem Box.four {a b c d a' b' c' d' : Value} (h : Box w t #[a, b, c, d] wx) : Box w t #[a', b', c', d'] ((((wx.setCell ⟨w.heap.size, 0, none⟩ a').setCell ⟨w.heap.size, 1, none⟩ b').setCell ⟨w.heap.size, 2, none⟩ c').setCell ⟨w.heap.size, 3, none⟩ d') := by
  refine ⟨(((h.below.setCell (Nat.le_refl _) _).setCell (Nat.le_refl _) _).setCell (Nat.le_refl _) _).setCell (Nat.le_refl _) _, ?_⟩
  have h1 := (((h.one.put 0 a').put 1 b').put 2 c').put 3 d'
  simp at h1
  exact h1
end
set_option maxHeartbeats 4000000 in
theorem take_torn (s : ByteArray) (l : List UInt8) (h0 : s.data.toList = l) (hs : s.size ≤ 1099511627776) (hl : s.size < 21) (w : World) :
    Calls Tryz.prog 103 #[.string s] w fun e w' => e = .returned (.tuple #[.agg #[.int .u8 0, .int .u32 0, .int .u64 0, .int .u64 0], .int .i64 10]) ∧ Below w.heap.size w w' := by
  rw [Lib.size_eq, h0] at hl
  have HX := Lib.hid (Box.new w 89 #[.int .u8 0, .int .u32 0, .int .u64 0, .int .u64 0])
  go_enter Tryz.func103, Tryz.ntmps103
  go_wp2_with fail
  refine (new_any s (by omega) _).mono ?_; rintro e w1 ⟨r, rfl, hr, hd, hb⟩
  rw [h0, ← rd_zero] at hd
  have HR0 := Lib.hid (Rg.new HX.out hr hd hb)
  clear hr hd hb HX
  rw [Lib.size_eq, h0] at hs
  go_wp2_with fail
  refine (ru8_at r l 0 1 rfl hs _ HR0.out.rd).mono ?_; rintro e w2 ⟨rfl, h1, h2⟩
  have HR1 := Lib.hid (HR0.out.step h1 h2)
  clear h1 h2 HR0
  go_wp2_with fail
  refine (ru32_at r l 1 5 rfl hs _ HR1.out.rd).mono ?_; rintro e w2 ⟨rfl, h1, h2⟩
  have HR2 := Lib.hid (HR1.out.step h1 h2)
  clear h1 h2 HR1
  go_wp2_with fail
  refine (ru64_at r l 5 13 rfl hs _ HR2.out.rd).mono ?_; rintro e w2 ⟨rfl, h1, h2⟩
  have HR3 := Lib.hid (HR2.out.step h1 h2)
  clear h1 h2 HR2
  go_wp2_with fail
  refine (ru64_at r l 13 21 rfl hs _ HR3.out.rd).mono ?_; rintro e w2 ⟨rfl, h1, h2⟩
  have HR4 := Lib.hid (HR3.out.step h1 h2)
  clear h1 h2 HR3
  go_wp2_with fail
  have her : (rd l 21).er = 10 := by unfold rd; rw [if_neg (by omega)]
  have HA := Lib.hid (HR4.out.later (below_alloc (Below.refl _ _) (.cells #[.int .u8 (gt l 0 1 : Nat), .int .u32 (gt l 1 5 : Nat), .int .u64 (gt l 5 13 : Nat), .int .u64 (gt l 13 21 : Nat)] 89)))
  have HE := err_any r _ _ HA.out.rd
  rw [her] at HE
  refine HE.mono ?_; rintro e w3 ⟨rfl, rfl⟩
  clear HE
  obtain ⟨c0, c1, c2, c3⟩ := HA.out.box.cells
  have f0 := HA.out.box.one.frozen 0; have f1 := HA.out.box.one.frozen 1; have f2 := HA.out.box.one.frozen 2; have f3 := HA.out.box.one.frozen 3
  have hlt := HA.out.box.one.lt
  go_wp2_with fail
  have HF := Lib.hid (Box.four (a' := .int .u8 0) (b' := .int .u32 0) (c' := .int .u64 0) (d' := .int .u64 0) HA.out.box)
  obtain ⟨d0, d1, d2, d3⟩ := HF.out.cells
  exact bodyPost_ret (v := .tuple #[.agg #[.int .u8 0, .int .u32 0, .int .u64 0, .int .u64 0], .int .i64 10]) (by simp [results, Tryz.results103, go_sem, d0, d1, d2, d3, hlt]) rfl ⟨rfl, HF.out.below⟩
set_option maxHeartbeats 4000000 in
theorem take_long (s : ByteArray) (l : List UInt8) (h0 : s.data.toList = l) (hs : s.size ≤ 1099511627776) (hl : 21 < s.size) (w : World) :
    Calls Tryz.prog 103 #[.string s] w fun e w' => e = .returned (.tuple #[.agg #[.int .u8 0, .int .u32 0, .int .u64 0, .int .u64 0], .int .i64 4]) ∧ Below w.heap.size w w' := by
  rw [Lib.size_eq, h0] at hl
  have HX := Lib.hid (Box.new w 89 #[.int .u8 0, .int .u32 0, .int .u64 0, .int .u64 0])
  go_enter Tryz.func103, Tryz.ntmps103
  go_wp2_with fail
  refine (new_any s (by omega) _).mono ?_; rintro e w1 ⟨r, rfl, hr, hd, hb⟩
  rw [h0, ← rd_zero] at hd
  have HR0 := Lib.hid (Rg.new HX.out hr hd hb)
  clear hr hd hb HX
  rw [Lib.size_eq, h0] at hs
  go_wp2_with fail
  refine (ru8_at r l 0 1 rfl hs _ HR0.out.rd).mono ?_; rintro e w2 ⟨rfl, h1, h2⟩
  have HR1 := Lib.hid (HR0.out.step h1 h2)
  clear h1 h2 HR0
  go_wp2_with fail
  refine (ru32_at r l 1 5 rfl hs _ HR1.out.rd).mono ?_; rintro e w2 ⟨rfl, h1, h2⟩
  have HR2 := Lib.hid (HR1.out.step h1 h2)
  clear h1 h2 HR1
  go_wp2_with fail
  refine (ru64_at r l 5 13 rfl hs _ HR2.out.rd).mono ?_; rintro e w2 ⟨rfl, h1, h2⟩
  have HR3 := Lib.hid (HR2.out.step h1 h2)
  clear h1 h2 HR2
  go_wp2_with fail
  refine (ru64_at r l 13 21 rfl hs _ HR3.out.rd).mono ?_; rintro e w2 ⟨rfl, h1, h2⟩
  have HR4 := Lib.hid (HR3.out.step h1 h2)
  clear h1 h2 HR3
  go_wp2_with fail
  have her : (rd l 21).er = 0 := by unfold rd; rw [if_pos (by omega)]
  have hre : (rd l 21).rest = l.drop 21 := by unfold rd; rw [if_pos (by omega)]
  have HA := Lib.hid (HR4.out.later (below_alloc (Below.refl _ _) (.cells #[.int .u8 (gt l 0 1 : Nat), .int .u32 (gt l 1 5 : Nat), .int .u64 (gt l 5 13 : Nat), .int .u64 (gt l 13 21 : Nat)] 89)))
  have HE := err_any r _ _ HA.out.rd
  rw [her] at HE
  refine HE.mono ?_; rintro e w3 ⟨rfl, rfl⟩
  clear HE
  go_wp2_with fail
  have HE := rest_any r _ _ HA.out.rd
  rw [hre] at HE
  obtain ⟨T, hT⟩ : ∃ T, bs (l.drop 21) = T := ⟨_, rfl⟩
  have hTs : T.size = l.length - 21 := by rw [← hT, bs_size]; simp
  rw [hT] at HE
  have hne : T.toList.isEmpty = false := by
    rw [Lib.toList_data]
    rcases h : T.data.toList with _ | ⟨x, y⟩
    · rw [Lib.size_eq, h] at hTs; simp at hTs; omega
    · rfl
  clear hTs hT
  refine HE.mono ?_; rintro e w3 ⟨rfl, rfl⟩
  clear HE
  obtain ⟨c0, c1, c2, c3⟩ := HA.out.box.cells
  have f0 := HA.out.box.one.frozen 0; have f1 := HA.out.box.one.frozen 1; have f2 := HA.out.box.one.frozen 2; have f3 := HA.out.box.one.frozen 3
  have hlt := HA.out.box.one.lt
  go_wp2_with fail
  have HF := Lib.hid (Box.four (a' := .int .u8 0) (b' := .int .u32 0) (c' := .int .u64 0) (d' := .int .u64 0) HA.out.box)
  obtain ⟨d0, d1, d2, d3⟩ := HF.out.cells
  exact bodyPost_ret (v := .tuple #[.agg #[.int .u8 0, .int .u32 0, .int .u64 0, .int .u64 0], .int .i64 4]) (by simp [results, Tryz.results103, go_sem, d0, d1, d2, d3, hlt]) rfl ⟨rfl, HF.out.below⟩
set_option maxHeartbeats 4000000 in
theorem take_form (s : ByteArray) (l : List UInt8) (h0 : s.data.toList = l) (hs : s.size ≤ 1099511627776) (hl : s.size = 21) (w : World) (H : ∀ w, Calls Tryz.prog 120 #[.agg #[.int .u8 (gt l 0 1 : Nat), .int .u32 (gt l 1 5 : Nat), .int .u64 (gt l 5 13 : Nat), .int .u64 (gt l 13 21 : Nat)]] w fun e w' => e = .returned (.int .i64 4) ∧ Below w.heap.size w w') :
    Calls Tryz.prog 103 #[.string s] w fun e w' => e = .returned (.tuple #[.agg #[.int .u8 0, .int .u32 0, .int .u64 0, .int .u64 0], .int .i64 4]) ∧ Below w.heap.size w w' := by
  rw [Lib.size_eq, h0] at hl
  have HX := Lib.hid (Box.new w 89 #[.int .u8 0, .int .u32 0, .int .u64 0, .int .u64 0])
  go_enter Tryz.func103, Tryz.ntmps103
  go_wp2_with fail
  refine (new_any s (by omega) _).mono ?_; rintro e w1 ⟨r, rfl, hr, hd, hb⟩
  rw [h0, ← rd_zero] at hd
  have HR0 := Lib.hid (Rg.new HX.out hr hd hb)
  clear hr hd hb HX
  rw [Lib.size_eq, h0] at hs
  go_wp2_with fail
  refine (ru8_at r l 0 1 rfl hs _ HR0.out.rd).mono ?_; rintro e w2 ⟨rfl, h1, h2⟩
  have HR1 := Lib.hid (HR0.out.step h1 h2)
  clear h1 h2 HR0
  go_wp2_with fail
  refine (ru32_at r l 1 5 rfl hs _ HR1.out.rd).mono ?_; rintro e w2 ⟨rfl, h1, h2⟩
  have HR2 := Lib.hid (HR1.out.step h1 h2)
  clear h1 h2 HR1
  go_wp2_with fail
  refine (ru64_at r l 5 13 rfl hs _ HR2.out.rd).mono ?_; rintro e w2 ⟨rfl, h1, h2⟩
  have HR3 := Lib.hid (HR2.out.step h1 h2)
  clear h1 h2 HR2
  go_wp2_with fail
  refine (ru64_at r l 13 21 rfl hs _ HR3.out.rd).mono ?_; rintro e w2 ⟨rfl, h1, h2⟩
  have HR4 := Lib.hid (HR3.out.step h1 h2)
  clear h1 h2 HR3
  go_wp2_with fail
  have her : (rd l 21).er = 0 := by unfold rd; rw [if_pos (by omega)]
  have hre : (rd l 21).rest = [] := by unfold rd; rw [if_pos (by omega)]; simp; omega
  have HA := Lib.hid (HR4.out.later (below_alloc (Below.refl _ _) (.cells #[.int .u8 (gt l 0 1 : Nat), .int .u32 (gt l 1 5 : Nat), .int .u64 (gt l 5 13 : Nat), .int .u64 (gt l 13 21 : Nat)] 89)))
  have HE := err_any r _ _ HA.out.rd
  rw [her] at HE
  refine HE.mono ?_; rintro e w3 ⟨rfl, rfl⟩
  clear HE
  go_wp2_with fail
  have HE := rest_any r _ _ HA.out.rd
  rw [hre, bs_nil] at HE
  refine HE.mono ?_; rintro e w3 ⟨rfl, rfl⟩
  clear HE
  have HN := Lib.hid (Is.new w2 89 #[.int .u8 (gt l 0 1 : Nat), .int .u32 (gt l 1 5 : Nat), .int .u64 (gt l 5 13 : Nat), .int .u64 (gt l 13 21 : Nat)])
  go_wp2_with fail
  refine (H _).mono ?_; rintro e w4 ⟨rfl, hb⟩
  have HB := Lib.hid (HA.out.later hb)
  have HM := Lib.hid (HN.out.kept (grow_below hb none) (by simp))
  clear hb HN HA
  obtain ⟨c0, c1, c2, c3⟩ := HB.out.box.cells
  have f0 := HB.out.box.one.frozen 0; have f1 := HB.out.box.one.frozen 1; have f2 := HB.out.box.one.frozen 2; have f3 := HB.out.box.one.frozen 3
  have hlt := HB.out.box.one.lt
  go_wp2_with fail
  have HF := Lib.hid (Box.four (a' := .int .u8 0) (b' := .int .u32 0) (c' := .int .u64 0) (d' := .int .u64 0) HB.out.box)
  obtain ⟨d0, d1, d2, d3⟩ := HF.out.cells
  exact bodyPost_ret (v := .tuple #[.agg #[.int .u8 0, .int .u32 0, .int .u64 0, .int .u64 0], .int .i64 4]) (by simp [results, Tryz.results103, go_sem, d0, d1, d2, d3, hlt]) rfl ⟨rfl, HF.out.below⟩
set_option maxHeartbeats 4000000 in
theorem take_ok (s : ByteArray) (l : List UInt8) (h0 : s.data.toList = l) (hs : s.size ≤ 1099511627776) (hl : s.size = 21) (w : World) (H : ∀ w, Calls Tryz.prog 120 #[.agg #[.int .u8 (gt l 0 1 : Nat), .int .u32 (gt l 1 5 : Nat), .int .u64 (gt l 5 13 : Nat), .int .u64 (gt l 13 21 : Nat)]] w fun e w' => e = .returned (.int .i64 0) ∧ Below w.heap.size w w') :
    Calls Tryz.prog 103 #[.string s] w fun e w' => e = .returned (.tuple #[.agg #[.int .u8 (gt l 0 1 : Nat), .int .u32 (gt l 1 5 : Nat), .int .u64 (gt l 5 13 : Nat), .int .u64 (gt l 13 21 : Nat)], .int .i64 0]) ∧ Below w.heap.size w w' := by
  rw [Lib.size_eq, h0] at hl
  have HX := Lib.hid (Box.new w 89 #[.int .u8 0, .int .u32 0, .int .u64 0, .int .u64 0])
  go_enter Tryz.func103, Tryz.ntmps103
  go_wp2_with fail
  refine (new_any s (by omega) _).mono ?_; rintro e w1 ⟨r, rfl, hr, hd, hb⟩
  rw [h0, ← rd_zero] at hd
  have HR0 := Lib.hid (Rg.new HX.out hr hd hb)
  clear hr hd hb HX
  rw [Lib.size_eq, h0] at hs
  go_wp2_with fail
  refine (ru8_at r l 0 1 rfl hs _ HR0.out.rd).mono ?_; rintro e w2 ⟨rfl, h1, h2⟩
  have HR1 := Lib.hid (HR0.out.step h1 h2)
  clear h1 h2 HR0
  go_wp2_with fail
  refine (ru32_at r l 1 5 rfl hs _ HR1.out.rd).mono ?_; rintro e w2 ⟨rfl, h1, h2⟩
  have HR2 := Lib.hid (HR1.out.step h1 h2)
  clear h1 h2 HR1
  go_wp2_with fail
  refine (ru64_at r l 5 13 rfl hs _ HR2.out.rd).mono ?_; rintro e w2 ⟨rfl, h1, h2⟩
  have HR3 := Lib.hid (HR2.out.step h1 h2)
  clear h1 h2 HR2
  go_wp2_with fail
  refine (ru64_at r l 13 21 rfl hs _ HR3.out.rd).mono ?_; rintro e w2 ⟨rfl, h1, h2⟩
  have HR4 := Lib.hid (HR3.out.step h1 h2)
  clear h1 h2 HR3
  go_wp2_with fail
  have her : (rd l 21).er = 0 := by unfold rd; rw [if_pos (by omega)]
  have hre : (rd l 21).rest = [] := by unfold rd; rw [if_pos (by omega)]; simp; omega
  have HA := Lib.hid (HR4.out.later (below_alloc (Below.refl _ _) (.cells #[.int .u8 (gt l 0 1 : Nat), .int .u32 (gt l 1 5 : Nat), .int .u64 (gt l 5 13 : Nat), .int .u64 (gt l 13 21 : Nat)] 89)))
  have HE := err_any r _ _ HA.out.rd
  rw [her] at HE
  refine HE.mono ?_; rintro e w3 ⟨rfl, rfl⟩
  clear HE
  go_wp2_with fail
  have HE := rest_any r _ _ HA.out.rd
  rw [hre, bs_nil] at HE
  refine HE.mono ?_; rintro e w3 ⟨rfl, rfl⟩
  clear HE
  have HN := Lib.hid (Is.new w2 89 #[.int .u8 (gt l 0 1 : Nat), .int .u32 (gt l 1 5 : Nat), .int .u64 (gt l 5 13 : Nat), .int .u64 (gt l 13 21 : Nat)])
  go_wp2_with fail
  refine (H _).mono ?_; rintro e w4 ⟨rfl, hb⟩
  have HB := Lib.hid (HA.out.later hb)
  have HM := Lib.hid (HN.out.kept (grow_below hb none) (by simp))
  clear hb HN HA
  obtain ⟨c0, c1, c2, c3⟩ := HB.out.box.cells
  have f0 := HB.out.box.one.frozen 0; have f1 := HB.out.box.one.frozen 1; have f2 := HB.out.box.one.frozen 2; have f3 := HB.out.box.one.frozen 3
  have hlt := HB.out.box.one.lt
  have hm := HM.out.cell
  have m0 := hm 0; have m1 := hm 1; have m2 := hm 2; have m3 := hm 3
  simp at m0 m1 m2 m3
  have hltm := HM.out.lt
  clear hm
  go_wp2_with fail
  have HF := Lib.hid (Box.four (a' := .int .u8 (gt l 0 1 : Nat)) (b' := .int .u32 (gt l 1 5 : Nat)) (c' := .int .u64 (gt l 5 13 : Nat)) (d' := .int .u64 (gt l 13 21 : Nat)) HB.out.box)
  obtain ⟨d0, d1, d2, d3⟩ := HF.out.cells
  exact bodyPost_ret (v := .tuple #[.agg #[.int .u8 (gt l 0 1 : Nat), .int .u32 (gt l 1 5 : Nat), .int .u64 (gt l 5 13 : Nat), .int .u64 (gt l 13 21 : Nat)], .int .i64 0]) (by simp [results, Tryz.results103, go_sem, d0, d1, d2, d3, hlt]) rfl ⟨rfl, HF.out.below⟩
theorem gt_of (l : List UInt8) (a b : Nat) (h : b ≤ l.length) : gt l a b = num l a b := if_pos h
theorem num1 (l : List UInt8) (a : Nat) : num l a (a + 1) < 256 := by have := num_lt l a (a + 1); simpa using this
theorem num4 (l : List UInt8) : num l 1 5 < 4294967296 := by have := num_lt l 1 5; simpa using this
theorem num8 (l : List UInt8) (a : Nat) : num l a (a + 8) < 18446744073709551616 := by have := num_lt l a (a + 8); simpa using this
/-- What Take answers: the meta, if there is no error. -/
def okI (e n : Nat) : Nat := if e = 0 then n else 0
theorem take_any (s : ByteArray) (hs : s.size ≤ 1099511627776) (w : World) :
    Calls Tryz.prog 103 #[.string s] w fun e w' => e = .returned (.tuple #[.agg #[.int .u8 (okI (takeE s.data.toList) (num s.data.toList 0 1) : Nat), .int .u32 (okI (takeE s.data.toList) (num s.data.toList 1 5) : Nat), .int .u64 (okI (takeE s.data.toList) (num s.data.toList 5 13) : Nat), .int .u64 (okI (takeE s.data.toList) (num s.data.toList 13 21) : Nat)], .int .i64 (takeE s.data.toList : Nat)]) ∧ Below w.heap.size w w' := by
  have hz := Lib.size_eq s
  generalize hl : s.data.toList = l at *
  by_cases h1 : l.length < 21
  · have e : takeE l = 10 := by unfold takeE; rw [if_pos h1]
    rw [e]
    exact take_torn s l hl hs (by omega) w
  by_cases h2 : 21 < l.length
  · have e : takeE l = 4 := by unfold takeE; rw [if_neg h1, if_pos h2]
    rw [e]
    exact take_long s l hl hs (by omega) w
  have e : takeE l = ckM (num l 0 1) (num l 1 5) (num l 5 13) := by unfold takeE; rw [if_neg h1, if_neg h2]
  have H := check_any (num l 0 1) (num l 1 5) (num l 5 13) (num l 13 21) (num8 l 5)
  cases h : mayM (num l 0 1) (num l 1 5) (num l 5 13) with
  | true =>
    have e2 : ckM (num l 0 1) (num l 1 5) (num l 5 13) = 0 := by simp [ckM, h]
    rw [e, e2]
    rw [e2] at H
    have K := take_ok s l hl hs (by omega) w
    rw [gt_of l 0 1 (by omega), gt_of l 1 5 (by omega), gt_of l 5 13 (by omega), gt_of l 13 21 (by omega)] at K
    exact K H
  | false =>
    have e2 : ckM (num l 0 1) (num l 1 5) (num l 5 13) = 4 := by simp [ckM, h]
    rw [e, e2]
    rw [e2] at H
    have K := take_form s l hl hs (by omega) w
    rw [gt_of l 0 1 (by omega), gt_of l 1 5 (by omega), gt_of l 5 13 (by omega), gt_of l 13 21 (by omega)] at K
    exact K H
end Go.Proofs.YthledgkjfjdjoaaGreat.Mt
