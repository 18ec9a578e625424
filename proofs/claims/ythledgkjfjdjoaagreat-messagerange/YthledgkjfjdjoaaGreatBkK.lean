/- What a patch makes of a text, by the program. Conditions: lengths below 2^40. -/
import Derived.Test.YthledgkjfjdjoaaGreatBkI
import Derived.Test.YthledgkjfjdjoaaGreatShelf
namespace Go.Proofs.YthledgkjfjdjoaaGreat.Bk
open Go.ChangeShapes Go.WideShapes Go.RowKit Go.Codec Go.Blk
set_option maxRecDepth 100000
set_option linter.unusedSimpArgs false
set_option linter.unusedVariables false
theorem join_none (xs : List (List UInt8)) : Lib.join xs [] = xs.flatten := by
  cases xs with
  | nil => rfl
  | cons x r => rw [Lib.join_cons]; simp [Lib.joinTail]
theorem together_any (g : Nat) (xs : List ByteArray) (w : World) (hl : xs.length ≤ 100) (hx : (xs.map (·.data.toList)).flatten.length ≤ 1000000) (h : Is w g 9 (xs.map Value.string).toArray) :
    Calls Tryz.prog 127 #[.slice (some ⟨g, 0, none⟩) xs.length xs.length] w fun e w' => e = .returned (.string (bs (trim (xs.map (·.data.toList)).flatten))) ∧ Below w.heap.size w w' := by
  have K := Tryz.strings_Join g 0 xs.length xs ⟨#[]⟩ w (fun j x hj => by rw [Nat.zero_add, h.cell j]; simp [hj]) h.lt (by omega) (Nat.le_refl _) (by
    rw [show (⟨#[]⟩ : ByteArray).data.toList = [] from rfl, join_none]; omega)
  rw [show (⟨#[]⟩ : ByteArray).data.toList = [] from rfl, join_none] at K
  generalize (xs.map (·.data.toList)).flatten = L at *
  have T := fun wx => trim_any (bs L) (by rw [bs_size]; omega) wx
  rw [bs_list] at T
  have HK := Lib.hid K; have HT := Lib.hid T; clear K T h
  generalize xs.length = n at *
  go_enter Tryz.func127, Tryz.ntmps127
  go_wp2_with fail
  refine HK.out.mono ?_; rintro e w1 ⟨rfl, hb⟩
  have HB := Lib.hid hb; clear hb HK
  go_wp2_with fail
  refine (HT.out _).mono ?_; rintro e w2 ⟨rfl, hb⟩
  have HC := Lib.hid (HB.out.trans (hb.mono HB.out.size)); clear hb HB HT
  go_wp2_with fail
  go_ret
  exact ⟨rfl, HC.out⟩
theorem Box.sc {w wx : World} {t : TypeId} {a b c d : Value} (h : Box w t #[a, b, c, d] wx) : wx.cell? ⟨w.heap.size, 1, none⟩ = some b ∧ wx.cell? ⟨w.heap.size, 3, none⟩ = some d := ⟨h.one.cell 1, h.one.cell 3⟩
theorem Box.alloc {w wx : World} {t : TypeId} {a : Array Value} (h : Box w t a wx) (o : Obj) : Box w t a (wx.alloc o) := h.later (below_alloc (Below.refl _ _) _)
set_option maxHeartbeats 4000000 in
theorem apply_no (v v' s : ByteArray) (hv : v.extract 0 (min (v.size : Int) 64).toNat = v') (L : List UInt8) (c : Bool) (a n : Int) (w : World) (H : ∀ w, Calls Tryz.prog 126 #[.agg #[.bool c, .int .i64 a, .int .i64 n, .string s]] w fun e w' => e = .returned (.bool false) ∧ Below w.heap.size w w')
    (hT : ∀ wx, Box w 154 #[.bool c, .int .i64 a, .int .i64 n, .string s] wx → Calls Tryz.prog 127 #[.slice (some ⟨wx.heap.size, 0, none⟩) 1 1] (wx.alloc (.cells #[.string v'] 9)) fun e w' => e = .returned (.string (bs L)) ∧ Box w 154 #[.bool c, .int .i64 a, .int .i64 n, .string s] w') :
    Calls Tryz.prog 109 #[.string v, .agg #[.bool c, .int .i64 a, .int .i64 n, .string s]] w fun e w' => e = .returned (.string (bs L)) ∧ Below w.heap.size w w' := by
  have HX := Lib.hid (Box.new w 154 #[.bool c, .int .i64 a, .int .i64 n, .string s])
  have ChT := Lib.hid hT; clear hT
  go_enter Tryz.func109, Tryz.ntmps109
  go_wp2_with fail
  refine (H _).mono ?_; rintro e w1 ⟨rfl, hb⟩
  have HY := Lib.hid (HX.out.later hb)
  clear hb HX
  go_wp2_with fail
  refine (ChT.out _ HY.out).mono ?_; rintro e w2 ⟨rfl, hb⟩
  have HZ := Lib.hid hb; clear hb HY
  go_wp2_with fail
  go_ret
  exact ⟨rfl, HZ.out.below⟩
set_option maxHeartbeats 4000000 in
theorem apply_cut (v v' s : ByteArray) (hv : v.extract 0 (min (v.size : Int) 64).toNat = v') (L : List UInt8) (n : Int) (A : ByteArray) (w : World) (H : ∀ w, Calls Tryz.prog 126 #[.agg #[.bool true, .int .i64 0, .int .i64 n, .string s]] w fun e w' => e = .returned (.bool true) ∧ Below w.heap.size w w')
    (hA : ∀ wx, Box w 154 #[.bool true, .int .i64 0, .int .i64 n, .string s] wx → Calls Tryz.prog 128 #[.string v', .int .i64 0, .int .i64 n] wx fun e w' => e = .returned (.string A) ∧ Box w 154 #[.bool true, .int .i64 0, .int .i64 n, .string s] w')
    (hT : ∀ wx, Box w 154 #[.bool true, .int .i64 0, .int .i64 n, .string s] wx → Calls Tryz.prog 127 #[.slice (some ⟨wx.heap.size, 0, none⟩) 1 1] (wx.alloc (.cells #[.string A] 9)) fun e w' => e = .returned (.string (bs L)) ∧ Box w 154 #[.bool true, .int .i64 0, .int .i64 n, .string s] w') :
    Calls Tryz.prog 109 #[.string v, .agg #[.bool true, .int .i64 0, .int .i64 n, .string s]] w fun e w' => e = .returned (.string (bs L)) ∧ Below w.heap.size w w' := by
  have HX := Lib.hid (Box.new w 154 #[.bool true, .int .i64 0, .int .i64 n, .string s])
  have ChA := Lib.hid hA; clear hA
  have ChT := Lib.hid hT; clear hT
  go_enter Tryz.func109, Tryz.ntmps109
  go_wp2_with fail
  refine (H _).mono ?_; rintro e w1 ⟨rfl, hb⟩
  have HY := Lib.hid (HX.out.later hb)
  clear hb HX
  obtain ⟨c0, c1, c2, c3⟩ := HY.out.cells
  go_wp2_with fail
  refine (ChA.out _ HY.out).mono ?_; rintro e w2 ⟨rfl, hb⟩
  have HZ := Lib.hid hb; clear hb HY
  go_wp2_with fail
  refine (ChT.out _ HZ.out).mono ?_; rintro e w3 ⟨rfl, hb⟩
  have HU := Lib.hid hb; clear hb HZ
  go_wp2_with fail
  go_ret
  exact ⟨rfl, HU.out.below⟩
set_option maxHeartbeats 4000000 in
theorem apply_splice (v v' s : ByteArray) (hv : v.extract 0 (min (v.size : Int) 64).toNat = v') (L : List UInt8) (a E : Nat) (hE : (a : Int) + (s.size : Int) = (E : Int)) (hE2 : E ≤ 64) (A Z : ByteArray) (w : World) (H : ∀ w, Calls Tryz.prog 126 #[.agg #[.bool false, .int .i64 a, .int .i64 0, .string s]] w fun e w' => e = .returned (.bool true) ∧ Below w.heap.size w w')
    (hA : ∀ wx, Box w 154 #[.bool false, .int .i64 a, .int .i64 0, .string s] wx → Calls Tryz.prog 128 #[.string v', .int .i64 0, .int .i64 a] wx fun e w' => e = .returned (.string A) ∧ Box w 154 #[.bool false, .int .i64 a, .int .i64 0, .string s] w')
    (hZ : ∀ wx, Box w 154 #[.bool false, .int .i64 a, .int .i64 0, .string s] wx → Calls Tryz.prog 128 #[.string v', .int .i64 E, .int .i64 (IntKind.i64.wrap (64 - (E : Int)))] wx fun e w' => e = .returned (.string Z) ∧ Box w 154 #[.bool false, .int .i64 a, .int .i64 0, .string s] w')
    (hT : ∀ wx, Box w 154 #[.bool false, .int .i64 a, .int .i64 0, .string s] wx → Calls Tryz.prog 127 #[.slice (some ⟨wx.heap.size, 0, none⟩) 3 3] (wx.alloc (.cells #[.string A, .string s, .string Z] 9)) fun e w' => e = .returned (.string (bs L)) ∧ Box w 154 #[.bool false, .int .i64 a, .int .i64 0, .string s] w') :
    Calls Tryz.prog 109 #[.string v, .agg #[.bool false, .int .i64 a, .int .i64 0, .string s]] w fun e w' => e = .returned (.string (bs L)) ∧ Below w.heap.size w w' := by
  have HX := Lib.hid (Box.new w 154 #[.bool false, .int .i64 a, .int .i64 0, .string s])
  have ChA := Lib.hid hA; clear hA
  have ChZ := Lib.hid hZ; clear hZ
  have ChT := Lib.hid hT; clear hT
  go_enter Tryz.func109, Tryz.ntmps109
  go_wp2_with fail
  refine (H _).mono ?_; rintro e w1 ⟨rfl, hb⟩
  have HY := Lib.hid (HX.out.later hb)
  clear hb HX
  have hp := HY.out
  have hpd := Box.drew hp
  obtain ⟨c0, c1, c2, c3⟩ := HY.out.cells
  go_wp2_with fail
  go_region_held3 (fun wx => wx.cell? ⟨w.heap.size, 1, none⟩ = some (.int .i64 a) ∧ wx.cell? ⟨w.heap.size, 3, none⟩ = some (.string s))
    (first | (with_reducible exact Box.sc (by assumption)) | (with_reducible exact Box.sc (Box.alloc (by assumption) _)))
    (first
      | (with_reducible refine (ChA.out _ (by assumption)).mono ?_; rintro e w1 ⟨rfl, hp⟩)
      | (with_reducible refine (ChZ.out _ (by assumption)).mono ?_; rintro e w1 ⟨rfl, hp⟩)
      | (with_reducible refine (ChT.out _ (by assumption)).mono ?_; rintro e w1 ⟨rfl, hp⟩))
  all_goals
    go_wp2
    go_ret
    exact ⟨rfl, hp.below⟩
theorem tell_take {l : List UInt8} {f n : Nat} (h : f + n ≤ 64) : tell (l.take 64) f n = tell l f n := tell_ext fun i hi => by rw [byte_take, if_pos (by omega)]
theorem data_extract (v : ByteArray) (n : Nat) : (v.extract 0 n).data.toList = v.data.toList.take n := by
  rw [Lib.extract_eq]
  show ((v.data.toList.drop 0).take (n - 0)).toArray.toList = _
  simp
theorem first64 (v : ByteArray) : (v.extract 0 (min (v.size : Int) 64).toNat).data.toList = v.data.toList.take 64 := by
  rw [data_extract]
  by_cases h : v.size ≤ 64
  · rw [show (min (v.size : Int) 64).toNat = v.size by omega, Lib.size_eq, List.take_length, List.take_of_length_le (by rw [← Lib.size_eq]; exact h)]
  · rw [show (min (v.size : Int) 64).toNat = 64 by omega]
theorem Box.carry {w wx : World} {t : TypeId} {arr : Array Value} {f : Nat} {args : Array Value} {R : Ending → Prop} {wy : World} (h : Box w t arr wy) (hc : Calls Tryz.prog f args wy fun e w' => R e ∧ Below wy.heap.size wy w') : Calls Tryz.prog f args wy fun e w' => R e ∧ Box w t arr w' :=
  hc.mono fun e w' ⟨he, hb⟩ => ⟨he, h.later hb⟩
theorem apply_any (v : ByteArray) (c : Bool) (a n : Int) (s : ByteArray) (hv : v.size ≤ 1099511627776) (hs : s.size ≤ 1099511627776) (w : World) :
    Calls Tryz.prog 109 #[.string v, .agg #[.bool c, .int .i64 a, .int .i64 n, .string s]] w fun e w' => e = .returned (.string (bs (apl v.data.toList c a n s.data.toList))) ∧ Below w.heap.size w w' := by
  have H := mayBe_any c a n s hs
  have hd := first64 v
  obtain ⟨v', hv'⟩ : ∃ v', v.extract 0 (min (v.size : Int) 64).toNat = v' := ⟨_, rfl⟩
  rw [hv'] at hd
  have hvs : v'.size ≤ 64 := by rw [Lib.size_eq, hd]; simp; omega
  have hT : ∀ (xs : List ByteArray) (L : List UInt8), xs.length ≤ 100 → (xs.map (·.data.toList)).flatten.length ≤ 1000000 → trim (xs.map (·.data.toList)).flatten = L → ∀ wx, Box w 154 #[.bool c, .int .i64 a, .int .i64 n, .string s] wx →
      Calls Tryz.prog 127 #[.slice (some ⟨wx.heap.size, 0, none⟩) xs.length xs.length] (wx.alloc (.cells (xs.map Value.string).toArray 9)) fun e w' => e = .returned (.string (bs L)) ∧ Box w 154 #[.bool c, .int .i64 a, .int .i64 n, .string s] w' := by
    intro xs L h1 h2 h3 wx hx
    have K := together_any wx.heap.size xs (wx.alloc (.cells (xs.map Value.string).toArray 9)) h1 h2 (Is.new _ _ _)
    rw [h3] at K
    exact (hx.alloc _).carry (wx := wx) K
  have hA : ∀ (f k : Int) wx, Box w 154 #[.bool c, .int .i64 a, .int .i64 n, .string s] wx →
      Calls Tryz.prog 128 #[.string v', .int .i64 f, .int .i64 k] wx fun e w' => e = .returned (.string (bs (tell (v.data.toList.take 64) f.toNat (min k.toNat 64)))) ∧ Box w 154 #[.bool c, .int .i64 a, .int .i64 n, .string s] w' := by
    intro f k wx hx
    have K := at_any v' f k (by omega) wx
    rw [hd] at K
    exact hx.carry (wx := wx) K
  cases h : may c a n s.data.toList with
  | false =>
    rw [h] at H
    refine apply_no v v' s hv' _ c a n w H fun wx hx => hT [v'] _ (by simp) (by simp [hd]; omega) ?_ wx hx
    rw [apl_no h]
    simp [hd]
  | true =>
    rw [h] at H
    unfold apl
    rw [if_pos h]
    cases c with
    | true =>
      obtain ⟨h1, h2, h3, h4⟩ := may_cut.1 h
      subst h3
      rw [if_pos rfl]
      refine apply_cut v v' s hv' _ n _ w H (fun wx hx => hA 0 n wx hx) fun wx hx => hT [_] _ (by simp) ?_ ?_ wx hx
      · simp [bs_list, tell_len]; omega
      · simp only [List.map_cons, List.map_nil, List.flatten_cons, List.flatten_nil, List.append_nil, bs_list]
        rw [show (0 : Int).toNat = 0 from rfl, Nat.min_eq_left (by omega), tell_take (by omega)]
    | false =>
      obtain ⟨h1, h2, h3, h4⟩ := may_splice.1 h
      subst h4
      obtain ⟨k, rfl⟩ := Int.eq_ofNat_of_zero_le h2
      have hl : s.data.toList.length = s.size := (Lib.size_eq s).symm
      rw [if_neg (by simp)]
      have hw : IntKind.i64.wrap (64 - ((k + s.size : Nat) : Int)) = ((64 - (k + s.size) : Nat) : Int) := by rw [IntKind.wrap_i64]; omega
      refine apply_splice v v' s hv' _ k (k + s.size) (by omega) (by omega) _ _ w H (fun wx hx => hA 0 k wx hx) (fun wx hx => hA _ _ wx hx) fun wx hx => hT [_, s, _] _ (by simp) ?_ ?_ wx hx
      · simp [bs_list, tell_len]; omega
      · simp only [List.map_cons, List.map_nil, List.flatten_cons, List.flatten_nil, List.append_nil, bs_list]
        rw [hw, show (0 : Int).toNat = 0 from rfl, Int.toNat_natCast, Int.toNat_natCast, Int.toNat_natCast, Nat.min_eq_left (by omega), Nat.min_eq_left (by omega), tell_take (by omega), tell_take (by omega), hl, List.append_assoc]
end Go.Proofs.YthledgkjfjdjoaaGreat.Bk
