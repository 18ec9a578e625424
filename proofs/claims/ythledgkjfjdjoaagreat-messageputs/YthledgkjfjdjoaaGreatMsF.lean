/- Which messages may be, and their texts, by the document. Conditions: lengths below 2^40, or of at most 1000. -/
import Derived.Test.YthledgkjfjdjoaaGreatMsE
import Derived.Test.YthledgkjfjdjoaaGreatMtK
import Derived.Test.YthledgkjfjdjoaaGreatBkL
import Derived.Test.YthledgkjfjdjoaaGreatCodG
import Derived.Test.YthledgkjfjdjoaaGreatCodH
namespace Go.Proofs.YthledgkjfjdjoaaGreat.Ms
open Go.ChangeShapes Go.WideShapes Go.RowKit Go.Codec Go.Mt Go.Blk
set_option maxRecDepth 100000
set_option linter.unusedSimpArgs false
set_option linter.unusedVariables false
theorem hd_get (k : ByteArray) (h : 0 < k.size) : ((k[0]'h).toNat : Int) = ((hd k).toNat : Int) := by
  obtain ⟨⟨l⟩⟩ := k
  cases l with
  | nil => exact absurd h (by decide)
  | cons b l => rfl
theorem hd_ne {k : ByteArray} {c : UInt8} {n : Nat} (hc : c.toNat = n) (h : ¬ hd k = c) : (((hd k).toNat : Int) == (n : Int)) = false := by
  rw [beq_eq_false_iff_ne]
  intro e
  apply h
  apply UInt8.toNat_inj.1
  omega
theorem rvalue_any (k v : ByteArray) (h1 : 0 < k.size) (hv : v.size ≤ 1099511627776) (w : World) : Calls Tryz.prog 67 #[.string k, .string v] w fun e w' => e = .returned (.bool (okV k v)) ∧ Below w.heap.size w w' := by
  have h0 := hd_get k h1
  unfold okV
  by_cases hm : hd k = 109
  · rw [if_pos hm]
    have H := fun w => Mt.rtake_any v hv w
    rw [hm] at h0
    generalize (Mt.okI (takeE v.data.toList) (num v.data.toList 0 1)) = a at *
    generalize (Mt.okI (takeE v.data.toList) (num v.data.toList 1 5)) = b at *
    generalize (Mt.okI (takeE v.data.toList) (num v.data.toList 5 13)) = c at *
    generalize (Mt.okI (takeE v.data.toList) (num v.data.toList 13 21)) = d at *
    generalize takeE v.data.toList = E at *
    clear hm
    go_enter Tryz.func67, Tryz.ntmps67
    go_wp2_with fail
    refine (H _).mono ?_; rintro e w1 ⟨rfl, hb⟩
    have HB := Lib.hid (below_alloc2 hb); clear hb
    go_wp2_with fail
    go_ret
    exact ⟨Bk.ret_bool (Bool.eq_iff_iff.2 (by simp)), HB.out _⟩
  · rw [if_neg hm]
    have n1 := hd_ne (n := 109) rfl hm
    by_cases hb : hd k = 100
    · rw [if_pos hb]
      have H := Bk.rcheck_any (s := v) hv
      rw [hb] at h0
      generalize ckV v.data.toList = E at *
      clear hb hm n1
      go_enter Tryz.func67, Tryz.ntmps67
      go_wp2_with fail
      refine (H (w := _)).mono ?_; rintro e w1 ⟨rfl, rfl⟩
      go_wp2_with fail
      go_ret
      exact ⟨Bk.ret_bool (Bool.eq_iff_iff.2 (by simp)), Below.refl _ _⟩
    · rw [if_neg hb]
      have n2 := hd_ne (n := 100) rfl hb
      clear hm hb
      generalize (hd k).toNat = c at *
      go_enter Tryz.func67, Tryz.ntmps67
      go_wp2_with fail
      go_ret
      exact ⟨Bk.ret_bool (Bool.eq_iff_iff.2 (by simp; omega)), Below.refl _ _⟩
theorem rpatch_any (k v : ByteArray) (h1 : 0 < k.size) (hv : v.size ≤ 1099511627776) (w : World) : Calls Tryz.prog 68 #[.string k, .string v] w fun e w' => e = .returned (.bool (okP k v)) ∧ Below w.heap.size w w' := by
  have h0 := hd_get k h1
  unfold okP
  by_cases hm : hd k = 109
  · rw [if_pos hm]
    have H := fun w => Mt.rtakeChange_any v hv w
    rw [hm] at h0
    generalize (Mt.okI (takeCE v.data.toList) (num v.data.toList 0 1)) = a at *
    generalize (Mt.okI (takeCE v.data.toList) (cN v.data.toList (num v.data.toList 0 1))) = b at *
    generalize (Mt.okI (takeCE v.data.toList) (cOp v.data.toList (num v.data.toList 0 1))) = c at *
    generalize (Mt.okI (takeCE v.data.toList) (cBy v.data.toList (num v.data.toList 0 1))) = d at *
    generalize takeCE v.data.toList = E at *
    clear hm
    go_enter Tryz.func68, Tryz.ntmps68
    go_wp2_with fail
    refine (H _).mono ?_; rintro e w1 ⟨rfl, hb⟩
    have HB := Lib.hid (below_alloc2 hb); clear hb
    go_wp2_with fail
    go_ret
    exact ⟨Bk.ret_bool (Bool.eq_iff_iff.2 (by simp)), HB.out _⟩
  · rw [if_neg hm]
    have n1 := hd_ne (n := 109) rfl hm
    by_cases hb : hd k = 100
    · rw [if_pos hb]
      have H := fun w => Bk.rtake_any v hv w
      unfold Bk.pvT at H
      rw [hb] at h0
      generalize (tk v.data.toList).e = E at *
      generalize (tk v.data.toList).c = c at *
      generalize (tk v.data.toList).a = a at *
      generalize (tk v.data.toList).n = n at *
      generalize bs (tk v.data.toList).s = s at *
      clear hb hm n1
      go_enter Tryz.func68, Tryz.ntmps68
      go_wp2_with fail
      refine (H _).mono ?_; rintro e w1 ⟨rfl, hb⟩
      have HB := Lib.hid (below_alloc2 hb); clear hb
      go_wp2_with fail
      go_ret
      exact ⟨Bk.ret_bool (Bool.eq_iff_iff.2 (by simp)), HB.out _⟩
    · rw [if_neg hb]
      have n2 := hd_ne (n := 100) rfl hb
      clear hm hb
      generalize (hd k).toNat = c at *
      go_enter Tryz.func68, Tryz.ntmps68
      go_wp2_with fail
      go_ret
      exact ⟨rfl, Below.refl _ _⟩
section
variable (k t v : ByteArray) (o : Int) (w : World)
theorem rmay_n0 (h : k = ⟨#[]⟩) : Calls Tryz.prog 38 #[.agg #[.int .i64 o, .string k, .string t, .string v]] w fun e w' => e = .returned (.bool false) ∧ Below w.heap.size w w' := by
  have HX := Lib.hid (Bk.Box.new w 23 #[.int .i64 o, .string k, .string t, .string v])
  subst h
  go_enter Tryz.func38, Tryz.ntmps38
  go_wp2_with fail
  go_ret
  exact ⟨rfl, HX.out.below⟩
theorem rmay_n1 (h : 108 < k.size) : Calls Tryz.prog 38 #[.agg #[.int .i64 o, .string k, .string t, .string v]] w fun e w' => e = .returned (.bool false) ∧ Below w.heap.size w w' := by
  have HX := Lib.hid (Bk.Box.new w 23 #[.int .i64 o, .string k, .string t, .string v])
  have h1 : ¬ (k.size : Int) < 1 := by omega
  go_enter Tryz.func38, Tryz.ntmps38
  go_wp2_with fail
  go_ret
  exact ⟨rfl, HX.out.below⟩
theorem rmay_o (h1 : 1 ≤ k.size) (h2 : k.size ≤ 108) (h : o < 1 ∨ 4 < o) : Calls Tryz.prog 38 #[.agg #[.int .i64 o, .string k, .string t, .string v]] w fun e w' => e = .returned (.bool false) ∧ Below w.heap.size w w' := by
  have HX := Lib.hid (Bk.Box.new w 23 #[.int .i64 o, .string k, .string t, .string v])
  rcases h with h | h
  · go_enter Tryz.func38, Tryz.ntmps38
    go_wp2_with fail
    go_ret
    exact ⟨rfl, HX.out.below⟩
  · have h5 : ¬ o < 1 := by omega
    go_enter Tryz.func38, Tryz.ntmps38
    go_wp2_with fail
    go_ret
    exact ⟨rfl, HX.out.below⟩
theorem rmay_3v (h1 : 1 ≤ k.size) (h2 : k.size ≤ 108) (h3 : ¬ v.toList = []) (h4 : v.toList.isEmpty = false) : Calls Tryz.prog 38 #[.agg #[.int .i64 3, .string k, .string t, .string v]] w fun e w' => e = .returned (.bool false) ∧ Below w.heap.size w w' := by
  have HX := Lib.hid (Bk.Box.new w 23 #[.int .i64 3, .string k, .string t, .string v])
  go_enter Tryz.func38, Tryz.ntmps38
  go_wp2_with fail
  go_ret
  exact ⟨rfl, HX.out.below⟩
theorem rmay_3t (h1 : 1 ≤ k.size) (h2 : k.size ≤ 108) (h3 : v = ⟨#[]⟩) (h4 : 108 < t.size) : Calls Tryz.prog 38 #[.agg #[.int .i64 3, .string k, .string t, .string v]] w fun e w' => e = .returned (.bool false) ∧ Below w.heap.size w w' := by
  have HX := Lib.hid (Bk.Box.new w 23 #[.int .i64 3, .string k, .string t, .string v])
  subst h3
  go_enter Tryz.func38, Tryz.ntmps38
  go_wp2_with fail
  go_ret
  exact ⟨rfl, HX.out.below⟩
theorem rmay_3l (h1 : 1 ≤ k.size) (h2 : k.size ≤ 108) (h3 : v = ⟨#[]⟩) (h4 : t.size ≤ 108) (b : Bool) (h5 : (Op.bytesLess t.toList k.toList || t.toList == k.toList) = !b) : Calls Tryz.prog 38 #[.agg #[.int .i64 3, .string k, .string t, .string v]] w fun e w' => e = .returned (.bool b) ∧ Below w.heap.size w w' := by
  have HX := Lib.hid (Bk.Box.new w 23 #[.int .i64 3, .string k, .string t, .string v])
  subst h3
  cases b with
  | false =>
    go_enter Tryz.func38, Tryz.ntmps38
    go_wp2_with fail
    go_ret
    exact ⟨by simp, HX.out.below⟩
  | true =>
    go_enter Tryz.func38, Tryz.ntmps38
    go_wp2_with fail
    go_ret
    exact ⟨by simp, HX.out.below⟩
theorem rmay_t (h1 : 1 ≤ k.size) (h2 : k.size ≤ 108) (o1 : 1 ≤ o) (o4 : o ≤ 4) (o3 : (o == 3) = false) (h3 : ¬ t.toList = []) (h4 : t.toList.isEmpty = false) : Calls Tryz.prog 38 #[.agg #[.int .i64 o, .string k, .string t, .string v]] w fun e w' => e = .returned (.bool false) ∧ Below w.heap.size w w' := by
  have HX := Lib.hid (Bk.Box.new w 23 #[.int .i64 o, .string k, .string t, .string v])
  go_enter Tryz.func38, Tryz.ntmps38
  go_wp2_with fail
  go_ret
  exact ⟨rfl, HX.out.below⟩
theorem rmay_1 (h1 : 1 ≤ k.size) (h2 : k.size ≤ 108) (h3 : t = ⟨#[]⟩) (b : Bool) (H : ∀ w, Calls Tryz.prog 67 #[.string k, .string v] w fun e w' => e = .returned (.bool b) ∧ Below w.heap.size w w') : Calls Tryz.prog 38 #[.agg #[.int .i64 1, .string k, .string t, .string v]] w fun e w' => e = .returned (.bool b) ∧ Below w.heap.size w w' := by
  have HX := Lib.hid (Bk.Box.new w 23 #[.int .i64 1, .string k, .string t, .string v])
  subst h3
  go_enter Tryz.func38, Tryz.ntmps38
  go_wp2_with fail
  refine (H _).mono ?_; rintro e w1 ⟨rfl, hb⟩
  replace HX := Lib.hid (HX.out.later hb); clear hb
  go_wp2_with fail
  go_ret
  exact ⟨rfl, HX.out.below⟩
theorem rmay_4 (h1 : 1 ≤ k.size) (h2 : k.size ≤ 108) (h3 : t = ⟨#[]⟩) (b : Bool) (H : ∀ w, Calls Tryz.prog 68 #[.string k, .string v] w fun e w' => e = .returned (.bool b) ∧ Below w.heap.size w w') : Calls Tryz.prog 38 #[.agg #[.int .i64 4, .string k, .string t, .string v]] w fun e w' => e = .returned (.bool b) ∧ Below w.heap.size w w' := by
  have HX := Lib.hid (Bk.Box.new w 23 #[.int .i64 4, .string k, .string t, .string v])
  subst h3
  go_enter Tryz.func38, Tryz.ntmps38
  go_wp2_with fail
  refine (H _).mono ?_; rintro e w1 ⟨rfl, hb⟩
  replace HX := Lib.hid (HX.out.later hb); clear hb
  go_wp2_with fail
  go_ret
  exact ⟨rfl, HX.out.below⟩
theorem rmay_2 (h1 : 1 ≤ k.size) (h2 : k.size ≤ 108) (h3 : t = ⟨#[]⟩) (b : Bool) (h4 : v.toList.isEmpty = b) : Calls Tryz.prog 38 #[.agg #[.int .i64 2, .string k, .string t, .string v]] w fun e w' => e = .returned (.bool b) ∧ Below w.heap.size w w' := by
  have HX := Lib.hid (Bk.Box.new w 23 #[.int .i64 2, .string k, .string t, .string v])
  subst h3
  go_enter Tryz.func38, Tryz.ntmps38
  go_wp2_with fail
  go_ret
  exact ⟨rfl, HX.out.below⟩
end
theorem lt_some {a b : ByteArray} (h : lt a b = true) : 1 ≤ b.size := by
  by_cases hb : b.size = 0
  · have e := size_nil.1 hb
    subst e
    unfold lt at h
    have : ∀ x : List UInt8, Op.bytesLess x [] = false := fun x => by cases x <;> rfl
    rw [list_nil.2 (by rfl : (⟨#[]⟩ : ByteArray).size = 0), this] at h
    cases h
  · omega
theorem rmay_any (m : Msg) (hv : m.v.size ≤ 1099511627776) (w : World) : Calls Tryz.prog 38 #[m.val] w fun e w' => e = .returned (.bool (may m)) ∧ Below w.heap.size w w' := by
  obtain ⟨o, k, t, v⟩ := m
  unfold Msg.val may
  dsimp only at hv ⊢
  by_cases hk : key k = true
  · rw [hk, Bool.true_and]
    unfold key at hk
    simp only [decide_eq_true_eq] at hk
    obtain ⟨h1, h2⟩ := hk
    by_cases hr : o < 1 ∨ 4 < o
    · rw [if_neg (by omega), if_neg (by omega), if_neg (by omega), if_neg (by omega)]
      exact rmay_o k t v o w h1 h2 hr
    by_cases o3 : o = 3
    · subst o3
      rw [if_neg (by decide), if_neg (by decide), if_neg (by decide), if_pos (by decide)]
      by_cases hv0 : v.size = 0
      · rw [decide_eq_true hv0, Bool.and_true]
        by_cases ht : t.size ≤ 108
        · have e : (lt k t && key t) = lt k t := by
            cases h : lt k t with
            | false => rfl
            | true => have := lt_some h; unfold key; simp; omega
          rw [e]
          exact rmay_3l k t v w h1 h2 (size_nil.1 hv0) ht _ (le_bool t k)
        · have e : key t = false := by unfold key; simp; omega
          rw [e, Bool.and_false]
          exact rmay_3t k t v w h1 h2 (size_nil.1 hv0) (by omega)
      · rw [decide_eq_false hv0, Bool.and_false]
        exact rmay_3v k t v w h1 h2 (fun h => hv0 (list_nil.1 h)) (by rw [isEmpty_size, decide_eq_false hv0])
    by_cases ht : t.size = 0
    · rw [decide_eq_true ht, Bool.true_and, Bool.true_and, Bool.true_and]
      by_cases o1 : o = 1
      · subst o1
        rw [if_pos rfl]
        exact rmay_1 k t v w h1 h2 (size_nil.1 ht) _ (fun w => rvalue_any k v h1 hv w)
      rw [if_neg o1]
      by_cases o4 : o = 4
      · subst o4
        rw [if_pos rfl]
        exact rmay_4 k t v w h1 h2 (size_nil.1 ht) _ (fun w => rpatch_any k v h1 hv w)
      rw [if_neg o4]
      obtain rfl : o = 2 := by omega
      rw [if_pos rfl]
      exact rmay_2 k t v w h1 h2 (size_nil.1 ht) _ isEmpty_size
    · rw [decide_eq_false ht, Bool.false_and, Bool.false_and, Bool.false_and, if_neg o3, ite_self, ite_self, ite_self]
      exact rmay_t k t v o w h1 h2 (by omega) (by omega) (by simpa using o3) (fun h => ht (list_nil.1 h)) (by rw [isEmpty_size, decide_eq_false ht])
  · rw [Bool.not_eq_true] at hk
    rw [hk, Bool.false_and]
    unfold key at hk
    simp only [decide_eq_false_iff_not] at hk
    by_cases h0 : k.size = 0
    · exact rmay_n0 k t v o w (size_nil.1 h0)
    · exact rmay_n1 k t v o w (by omega)
theorem row_one (o : Nat) (ho : o < 256) (wx : World) : (convert 66 9 (.slice (some ⟨wx.heap.size, 0, none⟩) 1 1)).run Tryz.prog (wx.alloc (.cells #[.int .u8 o] 5)) = .ok (.string (bs (be 1 o))) (wx.alloc (.cells #[.int .u8 o] 5)) := Mt.byte_row ho (Is.new _ _ _)
theorem rput_no (o : Int) (k t v : ByteArray) (H : ∀ w, Calls Tryz.prog 38 #[.agg #[.int .i64 o, .string k, .string t, .string v]] w fun e w' => e = .returned (.bool false) ∧ Below w.heap.size w w') (w : World) :
    Calls Tryz.prog 13 #[.agg #[.int .i64 o, .string k, .string t, .string v]] w fun e w' => e = .returned (.tuple #[.string (bs []), .int .i64 4]) ∧ Below w.heap.size w w' := by
  have HX := Lib.hid (Bk.Box.new w 23 #[.int .i64 o, .string k, .string t, .string v])
  go_enter Tryz.func13, Tryz.ntmps13
  go_wp2_with fail
  refine (H _).mono ?_; rintro e w1 ⟨rfl, hb⟩
  replace HX := Lib.hid (HX.out.later hb); clear hb
  go_wp2_with fail
  go_ret2
  exact ⟨rfl, HX.out.below⟩
theorem rput_1 (k t v T0 Tk Tt Tv : ByteArray) (hs1 : ¬ 9223372036854775807 < T0.size + Tk.size) (hs2 : ¬ 9223372036854775807 < T0.size + Tk.size + Tv.size) (hs3 : ¬ 9223372036854775807 < T0.size + Tk.size + Tt.size)
    (HR : ∀ wx : World, (convert 66 9 (.slice (some ⟨wx.heap.size, 0, none⟩) 1 1)).run Tryz.prog (wx.alloc (.cells #[.int .u8 1] 5)) = .ok (.string T0) (wx.alloc (.cells #[.int .u8 1] 5)))
    (H : ∀ w, Calls Tryz.prog 38 #[.agg #[.int .i64 1, .string k, .string t, .string v]] w fun e w' => e = .returned (.bool true) ∧ Below w.heap.size w w')
    (Hk : ∀ w, Calls Tryz.prog 39 #[.string k] w fun e w' => e = .returned (.tuple #[.string Tk, .bool true]) ∧ Below w.heap.size w w')
    (Ht : ∀ w, Calls Tryz.prog 39 #[.string t] w fun e w' => e = .returned (.tuple #[.string Tt, .bool true]) ∧ Below w.heap.size w w')
    (Hv : ∀ w, Calls Tryz.prog 39 #[.string v] w fun e w' => e = .returned (.tuple #[.string Tv, .bool true]) ∧ Below w.heap.size w w') (w : World) :
    Calls Tryz.prog 13 #[.agg #[.int .i64 1, .string k, .string t, .string v]] w fun e w' => e = .returned (.tuple #[.string (T0 ++ Tk ++ Tv), .int .i64 0]) ∧ Below w.heap.size w w' := by
  have HX := Lib.hid (Bk.Box.new w 23 #[.int .i64 1, .string k, .string t, .string v])
  go_enter Tryz.func13, Tryz.ntmps13
  go_wp2_with fail
  refine (H _).mono ?_; rintro e w1 ⟨rfl, hb⟩
  replace HX := Lib.hid (HX.out.later hb); clear hb
  obtain ⟨c0, c1, c2, c3⟩ := HX.out.cells
  go_wp2_with fail
  refine (Hk _).mono ?_; rintro e w2 ⟨rfl, hb⟩
  replace HX := Lib.hid (HX.out.later hb); clear hb c0 c1 c2 c3
  obtain ⟨c0, c1, c2, c3⟩ := HX.out.cells
  go_wp2_with fail
  refine (Hv _).mono ?_; rintro e w3 ⟨rfl, hb⟩
  replace HX := Lib.hid (HX.out.later hb); clear hb c0 c1 c2 c3
  obtain ⟨c0, c1, c2, c3⟩ := HX.out.cells
  go_wp2_with fail
  refine (Ht _).mono ?_; rintro e w4 ⟨rfl, hb⟩
  replace HX := Lib.hid (HX.out.later hb); clear hb c0 c1 c2 c3
  obtain ⟨c0, c1, c2, c3⟩ := HX.out.cells
  have HY := Lib.hid (Bk.Box.alloc HX.out (.cells #[.int .u8 1] 5))
  obtain ⟨d0, d1, d2, d3⟩ := HY.out.cells
  go_wp2_with fail
  go_ret2
  exact ⟨rfl, HY.out.below⟩
theorem rput_4 (k t v T0 Tk Tt Tv : ByteArray) (hs1 : ¬ 9223372036854775807 < T0.size + Tk.size) (hs2 : ¬ 9223372036854775807 < T0.size + Tk.size + Tv.size) (hs3 : ¬ 9223372036854775807 < T0.size + Tk.size + Tt.size)
    (HR : ∀ wx : World, (convert 66 9 (.slice (some ⟨wx.heap.size, 0, none⟩) 1 1)).run Tryz.prog (wx.alloc (.cells #[.int .u8 4] 5)) = .ok (.string T0) (wx.alloc (.cells #[.int .u8 4] 5)))
    (H : ∀ w, Calls Tryz.prog 38 #[.agg #[.int .i64 4, .string k, .string t, .string v]] w fun e w' => e = .returned (.bool true) ∧ Below w.heap.size w w')
    (Hk : ∀ w, Calls Tryz.prog 39 #[.string k] w fun e w' => e = .returned (.tuple #[.string Tk, .bool true]) ∧ Below w.heap.size w w')
    (Ht : ∀ w, Calls Tryz.prog 39 #[.string t] w fun e w' => e = .returned (.tuple #[.string Tt, .bool true]) ∧ Below w.heap.size w w')
    (Hv : ∀ w, Calls Tryz.prog 39 #[.string v] w fun e w' => e = .returned (.tuple #[.string Tv, .bool true]) ∧ Below w.heap.size w w') (w : World) :
    Calls Tryz.prog 13 #[.agg #[.int .i64 4, .string k, .string t, .string v]] w fun e w' => e = .returned (.tuple #[.string (T0 ++ Tk ++ Tv), .int .i64 0]) ∧ Below w.heap.size w w' := by
  have HX := Lib.hid (Bk.Box.new w 23 #[.int .i64 4, .string k, .string t, .string v])
  go_enter Tryz.func13, Tryz.ntmps13
  go_wp2_with fail
  refine (H _).mono ?_; rintro e w1 ⟨rfl, hb⟩
  replace HX := Lib.hid (HX.out.later hb); clear hb
  obtain ⟨c0, c1, c2, c3⟩ := HX.out.cells
  go_wp2_with fail
  refine (Hk _).mono ?_; rintro e w2 ⟨rfl, hb⟩
  replace HX := Lib.hid (HX.out.later hb); clear hb c0 c1 c2 c3
  obtain ⟨c0, c1, c2, c3⟩ := HX.out.cells
  go_wp2_with fail
  refine (Hv _).mono ?_; rintro e w3 ⟨rfl, hb⟩
  replace HX := Lib.hid (HX.out.later hb); clear hb c0 c1 c2 c3
  obtain ⟨c0, c1, c2, c3⟩ := HX.out.cells
  go_wp2_with fail
  refine (Ht _).mono ?_; rintro e w4 ⟨rfl, hb⟩
  replace HX := Lib.hid (HX.out.later hb); clear hb c0 c1 c2 c3
  obtain ⟨c0, c1, c2, c3⟩ := HX.out.cells
  have HY := Lib.hid (Bk.Box.alloc HX.out (.cells #[.int .u8 4] 5))
  obtain ⟨d0, d1, d2, d3⟩ := HY.out.cells
  go_wp2_with fail
  go_ret2
  exact ⟨rfl, HY.out.below⟩
theorem rput_2 (k t v T0 Tk Tt Tv : ByteArray) (hs1 : ¬ 9223372036854775807 < T0.size + Tk.size) (hs2 : ¬ 9223372036854775807 < T0.size + Tk.size + Tv.size) (hs3 : ¬ 9223372036854775807 < T0.size + Tk.size + Tt.size)
    (HR : ∀ wx : World, (convert 66 9 (.slice (some ⟨wx.heap.size, 0, none⟩) 1 1)).run Tryz.prog (wx.alloc (.cells #[.int .u8 2] 5)) = .ok (.string T0) (wx.alloc (.cells #[.int .u8 2] 5)))
    (H : ∀ w, Calls Tryz.prog 38 #[.agg #[.int .i64 2, .string k, .string t, .string v]] w fun e w' => e = .returned (.bool true) ∧ Below w.heap.size w w')
    (Hk : ∀ w, Calls Tryz.prog 39 #[.string k] w fun e w' => e = .returned (.tuple #[.string Tk, .bool true]) ∧ Below w.heap.size w w')
    (Ht : ∀ w, Calls Tryz.prog 39 #[.string t] w fun e w' => e = .returned (.tuple #[.string Tt, .bool true]) ∧ Below w.heap.size w w')
    (Hv : ∀ w, Calls Tryz.prog 39 #[.string v] w fun e w' => e = .returned (.tuple #[.string Tv, .bool true]) ∧ Below w.heap.size w w') (w : World) :
    Calls Tryz.prog 13 #[.agg #[.int .i64 2, .string k, .string t, .string v]] w fun e w' => e = .returned (.tuple #[.string (T0 ++ Tk), .int .i64 0]) ∧ Below w.heap.size w w' := by
  have HX := Lib.hid (Bk.Box.new w 23 #[.int .i64 2, .string k, .string t, .string v])
  go_enter Tryz.func13, Tryz.ntmps13
  go_wp2_with fail
  refine (H _).mono ?_; rintro e w1 ⟨rfl, hb⟩
  replace HX := Lib.hid (HX.out.later hb); clear hb
  obtain ⟨c0, c1, c2, c3⟩ := HX.out.cells
  go_wp2_with fail
  refine (Hk _).mono ?_; rintro e w2 ⟨rfl, hb⟩
  replace HX := Lib.hid (HX.out.later hb); clear hb c0 c1 c2 c3
  obtain ⟨c0, c1, c2, c3⟩ := HX.out.cells
  go_wp2_with fail
  refine (Hv _).mono ?_; rintro e w3 ⟨rfl, hb⟩
  replace HX := Lib.hid (HX.out.later hb); clear hb c0 c1 c2 c3
  obtain ⟨c0, c1, c2, c3⟩ := HX.out.cells
  go_wp2_with fail
  refine (Ht _).mono ?_; rintro e w4 ⟨rfl, hb⟩
  replace HX := Lib.hid (HX.out.later hb); clear hb c0 c1 c2 c3
  obtain ⟨c0, c1, c2, c3⟩ := HX.out.cells
  have HY := Lib.hid (Bk.Box.alloc HX.out (.cells #[.int .u8 2] 5))
  obtain ⟨d0, d1, d2, d3⟩ := HY.out.cells
  go_wp2_with fail
  go_ret2
  exact ⟨rfl, HY.out.below⟩
theorem rput_3 (k t v T0 Tk Tt Tv : ByteArray) (hs1 : ¬ 9223372036854775807 < T0.size + Tk.size) (hs2 : ¬ 9223372036854775807 < T0.size + Tk.size + Tv.size) (hs3 : ¬ 9223372036854775807 < T0.size + Tk.size + Tt.size)
    (HR : ∀ wx : World, (convert 66 9 (.slice (some ⟨wx.heap.size, 0, none⟩) 1 1)).run Tryz.prog (wx.alloc (.cells #[.int .u8 3] 5)) = .ok (.string T0) (wx.alloc (.cells #[.int .u8 3] 5)))
    (H : ∀ w, Calls Tryz.prog 38 #[.agg #[.int .i64 3, .string k, .string t, .string v]] w fun e w' => e = .returned (.bool true) ∧ Below w.heap.size w w')
    (Hk : ∀ w, Calls Tryz.prog 39 #[.string k] w fun e w' => e = .returned (.tuple #[.string Tk, .bool true]) ∧ Below w.heap.size w w')
    (Ht : ∀ w, Calls Tryz.prog 39 #[.string t] w fun e w' => e = .returned (.tuple #[.string Tt, .bool true]) ∧ Below w.heap.size w w')
    (Hv : ∀ w, Calls Tryz.prog 39 #[.string v] w fun e w' => e = .returned (.tuple #[.string Tv, .bool true]) ∧ Below w.heap.size w w') (w : World) :
    Calls Tryz.prog 13 #[.agg #[.int .i64 3, .string k, .string t, .string v]] w fun e w' => e = .returned (.tuple #[.string (T0 ++ Tk ++ Tt), .int .i64 0]) ∧ Below w.heap.size w w' := by
  have HX := Lib.hid (Bk.Box.new w 23 #[.int .i64 3, .string k, .string t, .string v])
  go_enter Tryz.func13, Tryz.ntmps13
  go_wp2_with fail
  refine (H _).mono ?_; rintro e w1 ⟨rfl, hb⟩
  replace HX := Lib.hid (HX.out.later hb); clear hb
  obtain ⟨c0, c1, c2, c3⟩ := HX.out.cells
  go_wp2_with fail
  refine (Hk _).mono ?_; rintro e w2 ⟨rfl, hb⟩
  replace HX := Lib.hid (HX.out.later hb); clear hb c0 c1 c2 c3
  obtain ⟨c0, c1, c2, c3⟩ := HX.out.cells
  go_wp2_with fail
  refine (Hv _).mono ?_; rintro e w3 ⟨rfl, hb⟩
  replace HX := Lib.hid (HX.out.later hb); clear hb c0 c1 c2 c3
  obtain ⟨c0, c1, c2, c3⟩ := HX.out.cells
  go_wp2_with fail
  refine (Ht _).mono ?_; rintro e w4 ⟨rfl, hb⟩
  replace HX := Lib.hid (HX.out.later hb); clear hb c0 c1 c2 c3
  obtain ⟨c0, c1, c2, c3⟩ := HX.out.cells
  have HY := Lib.hid (Bk.Box.alloc HX.out (.cells #[.int .u8 3] 5))
  obtain ⟨d0, d1, d2, d3⟩ := HY.out.cells
  go_wp2_with fail
  go_ret2
  exact ⟨rfl, HY.out.below⟩
theorem tx_size (s : ByteArray) (h : s.size ≤ 1000) : (tx s).length ≤ 1002 := by
  rw [tx, List.length_append, be_length, ← Lib.size_eq]; omega
theorem rput_any (m : Msg) (hk : m.k.size ≤ 1000) (ht : m.t.size ≤ 1000) (hv : m.v.size ≤ 1000) (w : World) :
    Calls Tryz.prog 13 #[m.val] w fun e w' => e = .returned (.tuple #[.string (bs (put m)), .int .i64 (ck m : Nat)]) ∧ Below w.heap.size w w' := by
  have H := rmay_any m (by omega)
  have T : ∀ s : ByteArray, s.size ≤ 1000 → ∀ w, Calls Tryz.prog 39 #[.string s] w fun e w' => e = .returned (.tuple #[.string (bs (tx s)), .bool true]) ∧ Below w.heap.size w w' := fun s hs w => by
    have h := rtextof_short s (by omega) w
    rw [Lib.size_eq] at h
    exact h
  unfold put ck
  cases hm : may m with
  | false =>
    rw [hm] at H
    rw [if_neg (by simp), if_neg (by simp)]
    obtain ⟨o, k, t, v⟩ := m
    exact rput_no o k t v H w
  | true =>
    rw [hm] at H
    rw [if_pos rfl, if_pos rfl]
    have ho := may_ops hm
    obtain ⟨o, k, t, v⟩ := m
    unfold Msg.val at H ⊢
    dsimp only at ho hk ht hv H ⊢
    unfold text
    dsimp only
    have l1 := tx_size k hk
    have l2 := tx_size t ht
    have l3 := tx_size v hv
    have b1 : ∀ n, (be 1 n).length = 1 := fun n => be_length 1 n
    rcases ho with rfl | rfl | rfl | rfl
    · have h := rput_1 k t v _ _ _ _ (by simp only [bs_size, b1]; omega) (by simp only [bs_size, b1]; omega) (by simp only [bs_size, b1]; omega) (row_one 1 (by decide)) H (T k hk) (T t ht) (T v hv) w
      simpa [bs_append] using h
    · have h := rput_4 k t v _ _ _ _ (by simp only [bs_size, b1]; omega) (by simp only [bs_size, b1]; omega) (by simp only [bs_size, b1]; omega) (row_one 4 (by decide)) H (T k hk) (T t ht) (T v hv) w
      simpa [bs_append] using h
    · have h := rput_2 k t v _ _ _ _ (by simp only [bs_size, b1]; omega) (by simp only [bs_size, b1]; omega) (by simp only [bs_size, b1]; omega) (row_one 2 (by decide)) H (T k hk) (T t ht) (T v hv) w
      simpa [bs_append] using h
    · have h := rput_3 k t v _ _ _ _ (by simp only [bs_size, b1]; omega) (by simp only [bs_size, b1]; omega) (by simp only [bs_size, b1]; omega) (row_one 3 (by decide)) H (T k hk) (T t ht) (T v hv) w
      simpa [bs_append] using h
end Go.Proofs.YthledgkjfjdjoaaGreat.Ms
