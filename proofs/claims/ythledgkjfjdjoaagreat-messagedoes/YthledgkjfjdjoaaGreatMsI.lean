/- What a message makes of a key and a value, by the document. Conditions: lengths below 2^40. -/
import Derived.Test.YthledgkjfjdjoaaGreatMsH
import Derived.Test.YthledgkjfjdjoaaGreatMsX
namespace Go.Proofs.YthledgkjfjdjoaaGreat.Ms
open Go.ChangeShapes Go.WideShapes Go.RowKit Go.Codec Go.Mt Go.Blk
set_option maxRecDepth 100000
set_option linter.unusedSimpArgs false
set_option linter.unusedVariables false
theorem rapply_not (o : Int) (k t v q x x' : ByteArray) (th : Bool) (hx : th = true ∧ x = x' ∨ th = false ∧ ⟨#[]⟩ = x')
    (H : ∀ w, Calls Tryz.prog 21 #[.agg #[.int .i64 o, .string k, .string t, .string v], .string q] w fun e w' => e = .returned (.bool false) ∧ Below w.heap.size w w') (w : World) :
    Calls Tryz.prog 23 #[.agg #[.int .i64 o, .string k, .string t, .string v], .string q, .string x, .bool th] w fun e w' => e = .returned (.tuple #[.string x', .bool th]) ∧ Below w.heap.size w w' := by
  have HX := Lib.hid (Bk.Box.new w 23 #[.int .i64 o, .string k, .string t, .string v])
  rcases hx with ⟨rfl, rfl⟩ | ⟨rfl, rfl⟩
  all_goals
    go_enter Tryz.func23, Tryz.ntmps23
    go_wp2_with fail
    refine (H _).mono ?_; rintro e w1 ⟨rfl, hb⟩
    replace HX := Lib.hid (HX.out.later hb); clear hb
    go_wp2_with fail
    go_ret2
    exact ⟨rfl, HX.out.below⟩
theorem rapply_1 (k t v q x : ByteArray) (th : Bool)
    (H : ∀ w, Calls Tryz.prog 21 #[.agg #[.int .i64 1, .string k, .string t, .string v], .string q] w fun e w' => e = .returned (.bool true) ∧ Below w.heap.size w w') (w : World) :
    Calls Tryz.prog 23 #[.agg #[.int .i64 1, .string k, .string t, .string v], .string q, .string x, .bool th] w fun e w' => e = .returned (.tuple #[.string v, .bool true]) ∧ Below w.heap.size w w' := by
  have HX := Lib.hid (Bk.Box.new w 23 #[.int .i64 1, .string k, .string t, .string v])
  cases th
  all_goals
    go_enter Tryz.func23, Tryz.ntmps23
    go_wp2_with fail
    refine (H _).mono ?_; rintro e w1 ⟨rfl, hb⟩
    replace HX := Lib.hid (HX.out.later hb); clear hb
    obtain ⟨c0, c1, c2, c3⟩ := HX.out.cells
    go_wp2_with fail
    go_ret2
    exact ⟨rfl, HX.out.below⟩
theorem rapply_23 (o : Int) (h1 : (o == 1) = false) (h4 : (o != 4) = true) (k t v q x : ByteArray) (th : Bool)
    (H : ∀ w, Calls Tryz.prog 21 #[.agg #[.int .i64 o, .string k, .string t, .string v], .string q] w fun e w' => e = .returned (.bool true) ∧ Below w.heap.size w w') (w : World) :
    Calls Tryz.prog 23 #[.agg #[.int .i64 o, .string k, .string t, .string v], .string q, .string x, .bool th] w fun e w' => e = .returned (.tuple #[.string ⟨#[]⟩, .bool false]) ∧ Below w.heap.size w w' := by
  have HX := Lib.hid (Bk.Box.new w 23 #[.int .i64 o, .string k, .string t, .string v])
  cases th
  all_goals
    go_enter Tryz.func23, Tryz.ntmps23
    go_wp2_with fail
    refine (H _).mono ?_; rintro e w1 ⟨rfl, hb⟩
    replace HX := Lib.hid (HX.out.later hb); clear hb
    obtain ⟨c0, c1, c2, c3⟩ := HX.out.cells
    go_wp2_with fail
    go_ret2
    exact ⟨rfl, HX.out.below⟩
theorem rapply_d (k t v q x x' A : ByteArray) (th : Bool) (hx : th = true ∧ x = x' ∨ th = false ∧ ⟨#[]⟩ = x') (h0 : 0 < q.size) (hc : ((q[0]'h0).toNat : Int) = 100) (c : Bool) (a n : Int) (s : ByteArray) (E : Int) (e : Bool) (he : A.toList.isEmpty = e)
    (H : ∀ w, Calls Tryz.prog 21 #[.agg #[.int .i64 4, .string k, .string t, .string v], .string q] w fun e w' => e = .returned (.bool true) ∧ Below w.heap.size w w')
    (H2 : ∀ w, Calls Tryz.prog 50 #[.string v] w fun e w' => e = .returned (.tuple #[.agg #[.bool c, .int .i64 a, .int .i64 n, .string s], .int .i64 E]) ∧ Below w.heap.size w w')
    (H3 : ∀ w, Calls Tryz.prog 51 #[.string x', .agg #[.bool c, .int .i64 a, .int .i64 n, .string s]] w fun e w' => e = .returned (.string A) ∧ Below w.heap.size w w') (w : World) :
    Calls Tryz.prog 23 #[.agg #[.int .i64 4, .string k, .string t, .string v], .string q, .string x, .bool th] w fun e w' => e = .returned (.tuple #[.string A, .bool (!decide (A.size = 0))]) ∧ Below w.heap.size w w' := by
  have HX := Lib.hid (fr1 w #[.int .i64 4, .string k, .string t, .string v])
  rw [← isEmpty_size, he]
  have he2 : A.toList = [] ↔ e = true := by rw [← he]; simp
  rcases hx with ⟨rfl, rfl⟩ | ⟨rfl, rfl⟩
  all_goals
    go_enter Tryz.func23, Tryz.ntmps23
    go_wp2_with fail
    refine (H _).mono ?_; rintro e w1 ⟨rfl, hb⟩
    replace HX := Lib.hid (HX.out.later hb); clear hb
    obtain ⟨c0, c1, c2, c3⟩ := HX.out.c4 0 rfl
    go_wp2_with fail
    refine (H2 _).mono ?_; rintro e w2 ⟨rfl, hb⟩
    replace HX := Lib.hid ((HX.out.later hb).new 82 #[.bool c, .int .i64 a, .int .i64 n, .string s]); clear hb c0 c1 c2 c3
    obtain ⟨c0, c1, c2, c3⟩ := HX.out.c4 1 rfl
    go_wp2_with fail
    refine (H3 _).mono ?_; rintro e w3 ⟨rfl, hb⟩
    replace HX := Lib.hid (HX.out.later hb); clear hb c0 c1 c2 c3
    go_wp2_with fail
    go_ret2
    refine ⟨?_, HX.out.below⟩
    first
      | rfl
      | (cases e <;> simp_all)
theorem rapply_m0 (k t v q x : ByteArray) (h0 : 0 < q.size) (hc : ((q[0]'h0).toNat : Int) = 109) (a b c d : Int) (E : Int)
    (H : ∀ w, Calls Tryz.prog 21 #[.agg #[.int .i64 4, .string k, .string t, .string v], .string q] w fun e w' => e = .returned (.bool true) ∧ Below w.heap.size w w')
    (H2 : ∀ w, Calls Tryz.prog 52 #[.string ⟨#[]⟩] w fun e w' => e = .returned (.tuple #[.agg #[.int .u8 a, .int .u32 b, .int .u64 c, .int .u64 d], .int .i64 E]) ∧ Below w.heap.size w w') (w : World) :
    Calls Tryz.prog 23 #[.agg #[.int .i64 4, .string k, .string t, .string v], .string q, .string x, .bool false] w fun e w' => e = .returned (.tuple #[.string ⟨#[]⟩, .bool false]) ∧ Below w.heap.size w w' := by
  have HX := Lib.hid (fr1 w #[.int .i64 4, .string k, .string t, .string v])
  go_enter Tryz.func23, Tryz.ntmps23
  go_wp2_with fail
  refine (H _).mono ?_; rintro e w1 ⟨rfl, hb⟩
  replace HX := Lib.hid (HX.out.later hb); clear hb
  obtain ⟨c0, c1, c2, c3⟩ := HX.out.c4 0 rfl
  go_wp2_with fail
  refine (H2 _).mono ?_; rintro e w2 ⟨rfl, hb⟩
  replace HX := Lib.hid ((HX.out.later hb).new 89 #[.int .u8 a, .int .u32 b, .int .u64 c, .int .u64 d]); clear hb c0 c1 c2 c3
  go_wp2_with fail
  go_ret2
  exact ⟨rfl, HX.out.below⟩
theorem rapply_mn (k t v q x : ByteArray) (h0 : 0 < q.size) (hc : ((q[0]'h0).toNat : Int) = 109) (a b c d : Int) (E : Int) (hE : ¬ E = 0) (hE2 : (E == 0) = false) (hE3 : (E != 0) = true)
    (H : ∀ w, Calls Tryz.prog 21 #[.agg #[.int .i64 4, .string k, .string t, .string v], .string q] w fun e w' => e = .returned (.bool true) ∧ Below w.heap.size w w')
    (H2 : ∀ w, Calls Tryz.prog 52 #[.string x] w fun e w' => e = .returned (.tuple #[.agg #[.int .u8 a, .int .u32 b, .int .u64 c, .int .u64 d], .int .i64 E]) ∧ Below w.heap.size w w') (w : World) :
    Calls Tryz.prog 23 #[.agg #[.int .i64 4, .string k, .string t, .string v], .string q, .string x, .bool true] w fun e w' => e = .returned (.tuple #[.string x, .bool true]) ∧ Below w.heap.size w w' := by
  have HX := Lib.hid (fr1 w #[.int .i64 4, .string k, .string t, .string v])
  go_enter Tryz.func23, Tryz.ntmps23
  go_wp2_with fail
  refine (H _).mono ?_; rintro e w1 ⟨rfl, hb⟩
  replace HX := Lib.hid (HX.out.later hb); clear hb
  obtain ⟨c0, c1, c2, c3⟩ := HX.out.c4 0 rfl
  go_wp2_with fail
  refine (H2 _).mono ?_; rintro e w2 ⟨rfl, hb⟩
  replace HX := Lib.hid ((HX.out.later hb).new 89 #[.int .u8 a, .int .u32 b, .int .u64 c, .int .u64 d]); clear hb c0 c1 c2 c3
  go_wp2_with fail
  go_ret2
  exact ⟨rfl, HX.out.below⟩
theorem rapply_my (k t v q x T : ByteArray) (h0 : 0 < q.size) (hc : ((q[0]'h0).toNat : Int) = 109) (a b c d p1 p2 p3 p4 a3 b3 c3 d3 F G : Int)
    (H : ∀ w, Calls Tryz.prog 21 #[.agg #[.int .i64 4, .string k, .string t, .string v], .string q] w fun e w' => e = .returned (.bool true) ∧ Below w.heap.size w w')
    (H2 : ∀ w, Calls Tryz.prog 52 #[.string x] w fun e w' => e = .returned (.tuple #[.agg #[.int .u8 a, .int .u32 b, .int .u64 c, .int .u64 d], .int .i64 0]) ∧ Below w.heap.size w w')
    (H3 : ∀ w, Calls Tryz.prog 53 #[.string v] w fun e w' => e = .returned (.tuple #[.agg #[.int .u8 p1, .int .u64 p2, .int .u8 p3, .int .u64 p4], .int .i64 F]) ∧ Below w.heap.size w w')
    (H4 : ∀ w, Calls Tryz.prog 55 #[.agg #[.int .u8 a, .int .u32 b, .int .u64 c, .int .u64 d], .agg #[.int .u8 p1, .int .u64 p2, .int .u8 p3, .int .u64 p4]] w fun e w' => e = .returned (.agg #[.int .u8 a3, .int .u32 b3, .int .u64 c3, .int .u64 d3]) ∧ Below w.heap.size w w')
    (H5 : ∀ w, Calls Tryz.prog 54 #[.agg #[.int .u8 a3, .int .u32 b3, .int .u64 c3, .int .u64 d3]] w fun e w' => e = .returned (.tuple #[.string T, .int .i64 G]) ∧ Below w.heap.size w w') (w : World) :
    Calls Tryz.prog 23 #[.agg #[.int .i64 4, .string k, .string t, .string v], .string q, .string x, .bool true] w fun e w' => e = .returned (.tuple #[.string T, .bool true]) ∧ Below w.heap.size w w' := by
  have HX := Lib.hid (fr1 w #[.int .i64 4, .string k, .string t, .string v])
  go_enter Tryz.func23, Tryz.ntmps23
  go_wp2_with fail
  refine (H _).mono ?_; rintro e w1 ⟨rfl, hb⟩
  replace HX := Lib.hid (HX.out.later hb); clear hb
  obtain ⟨c0, c1, c2, c3⟩ := HX.out.c4 0 rfl
  go_wp2_with fail
  refine (H2 _).mono ?_; rintro e w2 ⟨rfl, hb⟩
  replace HX := Lib.hid ((HX.out.later hb).new 89 #[.int .u8 a, .int .u32 b, .int .u64 c, .int .u64 d]); clear hb c0 c1 c2 c3
  obtain ⟨c0, c1, c2, c3⟩ := HX.out.c4 0 rfl
  go_wp2_with fail
  refine (H3 _).mono ?_; rintro e w3 ⟨rfl, hb⟩
  replace HX := Lib.hid ((HX.out.later hb).new 93 #[.int .u8 p1, .int .u64 p2, .int .u8 p3, .int .u64 p4]); clear hb c0 c1 c2 c3
  obtain ⟨c0, c1, c2, c3⟩ := HX.out.c4 1 rfl
  obtain ⟨d0, d1, d2, d3⟩ := HX.out.c4 2 rfl
  go_wp2_with fail
  refine (H4 _).mono ?_; rintro e w4 ⟨rfl, hb⟩
  replace HX := Lib.hid (HX.out.later hb); clear hb c0 c1 c2 c3
  go_wp2_with fail
  refine (H5 _).mono ?_; rintro e w5 ⟨rfl, hb⟩
  replace HX := Lib.hid (HX.out.later hb); clear hb
  go_wp2_with fail
  go_ret2
  exact ⟨rfl, HX.out.below⟩
theorem take_nil : takeE (⟨#[]⟩ : ByteArray).data.toList = 10 := by decide
theorem hd_is {k : ByteArray} {c : UInt8} {n : Nat} (hc : c.toNat = n) (h : hd k = c) (h0 : 0 < k.size) : ((k[0]'h0).toNat : Int) = (n : Int) := by rw [hd_get, h, hc]
/-- A change of what was taken is of that size. -/
theorem aSz_lt (k sz mk wh n op b : Nat) (h : sz < 4294967296) : Mt.aSz k sz mk wh n op b < 4294967296 := by
  unfold Mt.aSz
  split
  · rename_i hb
    unfold Mt.both at hb
    rw [Bool.and_eq_true] at hb
    have h2 := (Mt.mayC_eq wh n op b).1 hb.2
    unfold Mt.apSz
    split
    · rw [Nat.max_def]; split <;> omega
    · split <;> omega
  · exact h
theorem cN_lt (c : List UInt8) (wh : Nat) : cN c wh < 18446744073709551616 := by
  unfold cN; split
  · decide
  · have h := num_lt c 1 (long wh)
    have : 256 ^ (long wh - 1) ≤ 256 ^ 8 := Nat.pow_le_pow_right (by decide) (by unfold long; split <;> (try split) <;> omega)
    omega
theorem aSt_lt (k sz mk st wh n op b : Nat) (h : st < 18446744073709551616) (hn : n < 18446744073709551616) : Mt.aSt k sz mk st wh n op b < 18446744073709551616 := by
  unfold Mt.aSt Mt.apSt
  split
  · split <;> assumption
  · exact h
theorem rapply_any (m : Msg) (q x : ByteArray) (th : Bool) (hv : m.v.size ≤ 1099511627776) (hx : x.size ≤ 1099511627776) (w : World) :
    Calls Tryz.prog 23 #[m.val, .string q, .string x, .bool th] w fun e w' => e = .returned (.tuple #[.string (doV m q x th).1, .bool (doV m q x th).2]) ∧ Below w.heap.size w w' := by
  have H := rtouches_any m q hv
  have hx0 := val0_size th hx
  have hor := val0_or x th
  unfold doV
  cases ht : tch m q with
  | false =>
    rw [ht] at H
    rw [if_pos rfl]
    obtain ⟨o, k, t, v⟩ := m
    exact rapply_not o k t v q x _ th hor H w
  | true =>
    rw [ht] at H
    rw [if_neg (by simp)]
    have hm : may m = true := by unfold tch at ht; simp only [Bool.and_eq_true] at ht; exact ht.1
    obtain ⟨o, k, t, v⟩ := m
    dsimp only at hv ⊢
    have ho := may_ops hm
    dsimp only at ho
    rcases ho with rfl | rfl | rfl | rfl
    · rw [if_pos rfl]
      exact rapply_1 k t v q x th H w
    · rw [if_neg (by decide), if_pos rfl]
      have hk := may_4k hm
      have hkq : k = q := by
        unfold tch at ht
        simp only [Bool.and_eq_true] at ht
        rw [if_neg (by decide)] at ht
        simpa using ht.2
      subst hkq
      obtain ⟨h1, ⟨h2, h3⟩ | ⟨h2, h3, h4⟩⟩ := hk
      · rw [if_pos h2]
        have hc := hd_is (n := 109) rfl h2 h1
        cases th with
        | false =>
          have e : val0 x false = ⟨#[]⟩ := rfl
          rw [e, take_nil, if_neg (by decide)]
          exact rapply_m0 k t v k x h1 hc _ _ _ _ _ H (fun w => Mt.rtake_any ⟨#[]⟩ (by decide) w) w
        | true =>
          have e : val0 x true = x := rfl
          rw [e]
          have H2 := fun w => Mt.rtake_any x hx w
          by_cases h0 : takeE x.data.toList = 0
          · rw [if_pos h0]
            have H3 := fun w => Mt.rtakeChange_any v hv w
            rw [h0] at H2
            rw [h3] at H3
            simp only [Mt.okI, if_true] at H2 H3
            refine rapply_my k t v k x _ h1 hc _ _ _ _ _ _ _ _ _ _ _ _ _ ((ckM (num x.data.toList 0 1) (chgK x.data.toList v.data.toList) (chgM x.data.toList v.data.toList) : Nat) : Int) H H2 H3 (fun w => Mt.rapply_any _ _ _ _ _ _ _ _ (Mt.num8 _ _) (cBy_lt _ _) w) (fun w => ?_) w
            exact Mt.rput_any _ _ _ _ (Mt.num1 _ _) (aSz_lt _ _ _ _ _ _ _ (Mt.num4 _)) (Mt.aMk_lt (Mt.num8 _ _) (cBy_lt _ _)) (aSt_lt _ _ _ _ _ _ _ _ (Mt.num8 _ _) (cN_lt _ _)) w
          · rw [if_neg h0]
            generalize takeE x.data.toList = E at *
            exact rapply_mn k t v k x h1 hc _ _ _ _ _ (by omega) (by simpa using h0) (by simpa using h0) H H2 w
      · rw [if_neg h2]
        have hc := hd_is (n := 100) rfl h3 h1
        refine rapply_d k t v k x _ _ th hor h1 hc _ _ _ _ _ _ rfl H (fun w => Bk.rtake_any v hv w) (fun w => ?_) w
        exact Bk.rapply_any _ _ _ _ _ hx0 (by rw [bs_size]; have := tk_s v.data.toList; have := Lib.size_eq v; omega) w
    · rw [if_neg (by decide), if_neg (by decide)]
      exact rapply_23 2 rfl rfl k t v q x th H w
    · rw [if_neg (by decide), if_neg (by decide)]
      exact rapply_23 3 rfl rfl k t v q x th H w
end Go.Proofs.YthledgkjfjdjoaaGreat.Ms
