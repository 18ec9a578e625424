/- What is put is taken, a beginning of it is torn, what is taken has that text: walked. Conditions: none. -/
import Derived.Test.YtadfccgoooafoaaBkN
namespace Go.Proofs.Ytadfccgoooafoaa
open Go.ChangeShapes Go.WideShapes Go.RowKit Go.Codec Go.Blk
set_option maxRecDepth 100000
set_option linter.unusedSimpArgs false
set_option linter.unusedVariables false
set_option maxHeartbeats 4000000 in
theorem back_YE (c : Bool) (a n : Int) (t s T : ByteArray) (k : Nat) (hk : k < 256) (c' : Bool) (a' n' : Int) (S : ByteArray) (ht : t.size ≤ 3000) (hs : s.size ≤ 3000) (w : World)
    (H1 : ∀ w, Calls Try.prog 16 #[.agg #[.bool c, .int .i64 a, .int .i64 n, .string t]] w fun e w' => e = .returned (.tuple #[.string T, .int .i64 0]) ∧ Below w.heap.size w w')
    (H2 : ∀ w, Calls Try.prog 18 #[.string T] w fun e w' => e = .returned (.tuple #[.agg #[.bool c, .int .i64 a, .int .i64 n, .string t], .int .i64 0]) ∧ Below w.heap.size w w') (hT : 0 < T.size) (hT2 : T.size ≤ 1000) (K : Nat) (hK : (k : Int) % (T.size : Int) = (K : Int)) (hK2 : (k : Int).tmod (T.size : Int) = (K : Int)) (hK3 : K ≤ T.size) (U : ByteArray) (hU : T.extract 0 K = U)
    (H3 : ∀ w, Calls Try.prog 22 #[.string U, .int .i64 10] w fun e w' => e = .returned (.bool true) ∧ Below w.heap.size w w')
    (E : Nat) (hE : ((E : Int) != 0) = true)
    (H4 : ∀ w, Calls Try.prog 18 #[.string s] w fun e w' => e = .returned (.tuple #[.agg #[.bool c', .int .i64 a', .int .i64 n', .string S], .int .i64 E]) ∧ Below w.heap.size w w')
    (H5 : ∀ w, Calls Try.prog 22 #[.string s, .int .i64 E] w fun e w' => e = .returned (.bool true) ∧ Below w.heap.size w w') :
    Calls Try.prog 6 #[.agg #[.bool c, .int .i64 a, .int .i64 n, .string t], .string s, .int .u8 k] w fun e w' => e = .returned (.bool true) ∧ Below w.heap.size w w' := by
  have HX := Lib.hid (Box.new w 30 #[.bool c, .int .i64 a, .int .i64 n, .string t])
  have hN := neP
  go_enter Try.func6, Try.ntmps6
  go_wp2_with fail
  refine (H1 _).mono ?_; rintro e w1 ⟨rfl, hb⟩
  replace HX := Lib.hid (HX.out.later hb); clear hb H1
  have hTn : ((T.size : Int) == 0) = false := beq_eq_false_iff_ne.2 (by omega)
  go_wp2_with fail
  refine (H2 _).mono ?_; rintro e w2 ⟨rfl, hb⟩
  replace HX := Lib.hid (HX.out.later hb); clear hb H2
  have HX2 := Lib.hid (HX.out.alloc (.cells #[.bool c, .int .i64 a, .int .i64 n, .string t] 30))
  obtain ⟨c0, c1, c2, c3⟩ := HX.out.cells
  obtain ⟨d0, d1, d2, d3⟩ := HX2.out.cells
  go_wp2_with fail
  refine (H3 _).mono ?_; rintro e w3 ⟨rfl, hb⟩
  replace HX := Lib.hid (HX2.out.later hb); clear hb H3 HX2 c0 c1 c2 c3 d0 d1 d2 d3
  go_wp2_with fail
  refine (H4 _).mono ?_; rintro e w4 ⟨rfl, hb⟩
  replace HX := Lib.hid (HX.out.later hb); clear hb H4
  have HQ := Lib.hid (Box.new w4 30 #[.bool c', .int .i64 a', .int .i64 n', .string S])
  replace HX := Lib.hid (HX.out.alloc (.cells #[.bool c', .int .i64 a', .int .i64 n', .string S] 30))
  go_wp2_with fail
  refine (H5 _).mono ?_; rintro e w5 ⟨rfl, hb⟩
  replace HX := Lib.hid (HX.out.later hb); clear hb H5
  go_wp2_with fail
  refine (works_any _).mono ?_; rintro e w6 ⟨rfl, hb⟩
  replace HX := Lib.hid (HX.out.later hb); clear hb
  go_wp2_with fail
  go_ret
  exact ⟨rfl, HX.out.below⟩
set_option maxHeartbeats 4000000 in
theorem back_YO (c : Bool) (a n : Int) (t s T : ByteArray) (k : Nat) (hk : k < 256) (c' : Bool) (a' n' : Int) (S : ByteArray) (ht : t.size ≤ 3000) (hs : s.size ≤ 3000) (w : World)
    (H1 : ∀ w, Calls Try.prog 16 #[.agg #[.bool c, .int .i64 a, .int .i64 n, .string t]] w fun e w' => e = .returned (.tuple #[.string T, .int .i64 0]) ∧ Below w.heap.size w w')
    (H2 : ∀ w, Calls Try.prog 18 #[.string T] w fun e w' => e = .returned (.tuple #[.agg #[.bool c, .int .i64 a, .int .i64 n, .string t], .int .i64 0]) ∧ Below w.heap.size w w') (hT : 0 < T.size) (hT2 : T.size ≤ 1000) (K : Nat) (hK : (k : Int) % (T.size : Int) = (K : Int)) (hK2 : (k : Int).tmod (T.size : Int) = (K : Int)) (hK3 : K ≤ T.size) (U : ByteArray) (hU : T.extract 0 K = U)
    (H3 : ∀ w, Calls Try.prog 22 #[.string U, .int .i64 10] w fun e w' => e = .returned (.bool true) ∧ Below w.heap.size w w')
    (H4 : ∀ w, Calls Try.prog 18 #[.string s] w fun e w' => e = .returned (.tuple #[.agg #[.bool c', .int .i64 a', .int .i64 n', .string S], .int .i64 0]) ∧ Below w.heap.size w w')
    (H5 : ∀ w, Calls Try.prog 16 #[.agg #[.bool c', .int .i64 a', .int .i64 n', .string S]] w fun e w' => e = .returned (.tuple #[.string s, .int .i64 0]) ∧ Below w.heap.size w w') :
    Calls Try.prog 6 #[.agg #[.bool c, .int .i64 a, .int .i64 n, .string t], .string s, .int .u8 k] w fun e w' => e = .returned (.bool true) ∧ Below w.heap.size w w' := by
  have HX := Lib.hid (Box.new w 30 #[.bool c, .int .i64 a, .int .i64 n, .string t])
  have hN := neP
  go_enter Try.func6, Try.ntmps6
  go_wp2_with fail
  refine (H1 _).mono ?_; rintro e w1 ⟨rfl, hb⟩
  replace HX := Lib.hid (HX.out.later hb); clear hb H1
  have hTn : ((T.size : Int) == 0) = false := beq_eq_false_iff_ne.2 (by omega)
  go_wp2_with fail
  refine (H2 _).mono ?_; rintro e w2 ⟨rfl, hb⟩
  replace HX := Lib.hid (HX.out.later hb); clear hb H2
  have HX2 := Lib.hid (HX.out.alloc (.cells #[.bool c, .int .i64 a, .int .i64 n, .string t] 30))
  obtain ⟨c0, c1, c2, c3⟩ := HX.out.cells
  obtain ⟨d0, d1, d2, d3⟩ := HX2.out.cells
  go_wp2_with fail
  refine (H3 _).mono ?_; rintro e w3 ⟨rfl, hb⟩
  replace HX := Lib.hid (HX2.out.later hb); clear hb H3 HX2 c0 c1 c2 c3 d0 d1 d2 d3
  go_wp2_with fail
  refine (H4 _).mono ?_; rintro e w4 ⟨rfl, hb⟩
  replace HX := Lib.hid (HX.out.later hb); clear hb H4
  have HQ := Lib.hid (Box.new w4 30 #[.bool c', .int .i64 a', .int .i64 n', .string S])
  replace HX := Lib.hid (HX.out.alloc (.cells #[.bool c', .int .i64 a', .int .i64 n', .string S] 30))
  go_wp2_with fail
  refine (H5 _).mono ?_; rintro e w5 ⟨rfl, hb⟩
  replace HX := Lib.hid (HX.out.later hb); clear hb H5
  go_wp2_with fail
  refine (works_any _).mono ?_; rintro e w6 ⟨rfl, hb⟩
  replace HX := Lib.hid (HX.out.later hb); clear hb
  go_wp2_with fail
  go_ret
  exact ⟨rfl, HX.out.below⟩
set_option maxHeartbeats 4000000 in
theorem back_NE (c : Bool) (a n : Int) (t s T : ByteArray) (k : Nat) (hk : k < 256) (c' : Bool) (a' n' : Int) (S : ByteArray) (ht : t.size ≤ 3000) (hs : s.size ≤ 3000) (w : World)
    (H1 : ∀ w, Calls Try.prog 16 #[.agg #[.bool c, .int .i64 a, .int .i64 n, .string t]] w fun e w' => e = .returned (.tuple #[.string T, .int .i64 4]) ∧ Below w.heap.size w w')
    (E : Nat) (hE : ((E : Int) != 0) = true)
    (H4 : ∀ w, Calls Try.prog 18 #[.string s] w fun e w' => e = .returned (.tuple #[.agg #[.bool c', .int .i64 a', .int .i64 n', .string S], .int .i64 E]) ∧ Below w.heap.size w w')
    (H5 : ∀ w, Calls Try.prog 22 #[.string s, .int .i64 E] w fun e w' => e = .returned (.bool true) ∧ Below w.heap.size w w') :
    Calls Try.prog 6 #[.agg #[.bool c, .int .i64 a, .int .i64 n, .string t], .string s, .int .u8 k] w fun e w' => e = .returned (.bool true) ∧ Below w.heap.size w w' := by
  have HX := Lib.hid (Box.new w 30 #[.bool c, .int .i64 a, .int .i64 n, .string t])
  have hN := neP
  go_enter Try.func6, Try.ntmps6
  go_wp2_with fail
  refine (H1 _).mono ?_; rintro e w1 ⟨rfl, hb⟩
  replace HX := Lib.hid (HX.out.later hb); clear hb H1
  go_wp2_with fail
  refine (H4 _).mono ?_; rintro e w4 ⟨rfl, hb⟩
  replace HX := Lib.hid (HX.out.later hb); clear hb H4
  have HQ := Lib.hid (Box.new w4 30 #[.bool c', .int .i64 a', .int .i64 n', .string S])
  replace HX := Lib.hid (HX.out.alloc (.cells #[.bool c', .int .i64 a', .int .i64 n', .string S] 30))
  go_wp2_with fail
  refine (H5 _).mono ?_; rintro e w5 ⟨rfl, hb⟩
  replace HX := Lib.hid (HX.out.later hb); clear hb H5
  go_wp2_with fail
  refine (works_any _).mono ?_; rintro e w6 ⟨rfl, hb⟩
  replace HX := Lib.hid (HX.out.later hb); clear hb
  go_wp2_with fail
  go_ret
  exact ⟨rfl, HX.out.below⟩
set_option maxHeartbeats 4000000 in
theorem back_NO (c : Bool) (a n : Int) (t s T : ByteArray) (k : Nat) (hk : k < 256) (c' : Bool) (a' n' : Int) (S : ByteArray) (ht : t.size ≤ 3000) (hs : s.size ≤ 3000) (w : World)
    (H1 : ∀ w, Calls Try.prog 16 #[.agg #[.bool c, .int .i64 a, .int .i64 n, .string t]] w fun e w' => e = .returned (.tuple #[.string T, .int .i64 4]) ∧ Below w.heap.size w w')
    (H4 : ∀ w, Calls Try.prog 18 #[.string s] w fun e w' => e = .returned (.tuple #[.agg #[.bool c', .int .i64 a', .int .i64 n', .string S], .int .i64 0]) ∧ Below w.heap.size w w')
    (H5 : ∀ w, Calls Try.prog 16 #[.agg #[.bool c', .int .i64 a', .int .i64 n', .string S]] w fun e w' => e = .returned (.tuple #[.string s, .int .i64 0]) ∧ Below w.heap.size w w') :
    Calls Try.prog 6 #[.agg #[.bool c, .int .i64 a, .int .i64 n, .string t], .string s, .int .u8 k] w fun e w' => e = .returned (.bool true) ∧ Below w.heap.size w w' := by
  have HX := Lib.hid (Box.new w 30 #[.bool c, .int .i64 a, .int .i64 n, .string t])
  have hN := neP
  go_enter Try.func6, Try.ntmps6
  go_wp2_with fail
  refine (H1 _).mono ?_; rintro e w1 ⟨rfl, hb⟩
  replace HX := Lib.hid (HX.out.later hb); clear hb H1
  go_wp2_with fail
  refine (H4 _).mono ?_; rintro e w4 ⟨rfl, hb⟩
  replace HX := Lib.hid (HX.out.later hb); clear hb H4
  have HQ := Lib.hid (Box.new w4 30 #[.bool c', .int .i64 a', .int .i64 n', .string S])
  replace HX := Lib.hid (HX.out.alloc (.cells #[.bool c', .int .i64 a', .int .i64 n', .string S] 30))
  go_wp2_with fail
  refine (H5 _).mono ?_; rintro e w5 ⟨rfl, hb⟩
  replace HX := Lib.hid (HX.out.later hb); clear hb H5
  go_wp2_with fail
  refine (works_any _).mono ?_; rintro e w6 ⟨rfl, hb⟩
  replace HX := Lib.hid (HX.out.later hb); clear hb
  go_wp2_with fail
  go_ret
  exact ⟨rfl, HX.out.below⟩
set_option maxHeartbeats 4000000 in
theorem back_long (c : Bool) (a n : Int) (t s : ByteArray) (k : Nat) (h : 3000 < t.size ∨ t.size ≤ 3000 ∧ 3000 < s.size) (w : World) :
    Calls Try.prog 6 #[.agg #[.bool c, .int .i64 a, .int .i64 n, .string t], .string s, .int .u8 k] w fun e w' => e = .returned (.bool true) ∧ Below w.heap.size w w' := by
  have HX := Lib.hid (Box.new w 30 #[.bool c, .int .i64 a, .int .i64 n, .string t])
  rcases h with h | ⟨h1, h2⟩
  all_goals
    go_enter Try.func6, Try.ntmps6
    go_wp2_with fail
    refine (works_any _).mono ?_; rintro e w1 ⟨rfl, hb⟩
    replace HX := Lib.hid (HX.out.later hb); clear hb
    go_wp2_with fail
    go_ret
    exact ⟨rfl, HX.out.below⟩
theorem blockback_any (c : Bool) (a n : Int) (t s : ByteArray) (k : Nat) (hk : k < 256) (w : World) :
    Calls Try.prog 6 #[.agg #[.bool c, .int .i64 a, .int .i64 n, .string t], .string s, .int .u8 k] w fun e w' => e = .returned (.bool true) ∧ Below w.heap.size w w' := by
  by_cases ht : 3000 < t.size
  · exact back_long c a n t s k (.inl ht) w
  by_cases hs : 3000 < s.size
  · exact back_long c a n t s k (.inr ⟨by omega, hs⟩) w
  have ht' : t.size ≤ 3000 := by omega
  have hs' : s.size ≤ 3000 := by omega
  have H1 := fun w => put_any c a n t (by omega) w
  have H4 := fun w => take_any s (by omega) w
  obtain ⟨p, hp⟩ : ∃ p, tk s.data.toList = p := ⟨_, rfl⟩
  have HB : p.e = 0 → ∀ w, Calls Try.prog 16 #[.agg #[.bool p.c, .int .i64 (p.a : Nat), .int .i64 (p.n : Nat), .string (bs p.s)]] w fun e w' => e = .returned (.tuple #[.string s, .int .i64 0]) ∧ Below w.heap.size w w' := by
    intro he w
    have hb := tk_back s.data.toList (by rw [hp]; exact he)
    rw [hp] at hb
    have hl : (bs p.s).size ≤ 1099511627776 := by
      have h1 := (tk_ok s.data.toList (by rw [hp]; exact he)).2
      rw [hp] at h1
      have h2 := congrArg List.length h1
      rw [← Lib.size_eq] at h2
      rw [bs_size]
      rcases hc : p.c
      · rw [hc, textP_splice] at h2; simp only [List.length_cons] at h2; omega
      · have h3 := (tk_ok s.data.toList (by rw [hp]; exact he)).1
        rw [hp, hc] at h3
        rw [(may_cut.1 h3).2.2.2]; simp
    have H := put_any p.c (p.a : Nat) (p.n : Nat) (bs p.s) hl w
    rw [bs_list, hb.1, hb.2, list_bs] at H
    exact H
  have HF : p.e ≠ 0 → ∀ w, Calls Try.prog 22 #[.string s, .int .i64 (p.e : Nat)] w fun e w' => e = .returned (.bool true) ∧ Below w.heap.size w w' := by
    intro he w
    have h1 := (tk_err s.data.toList (by rw [hp]; exact he)).1
    rw [hp] at h1
    exact fails_any s p.e (by omega) (by rw [hp]; exact h1) w
  rw [hp] at H4
  have H4' : ∀ w, Calls Try.prog 18 #[.string s] w fun e w' => e = .returned (.tuple #[.agg #[.bool p.c, .int .i64 (p.a : Nat), .int .i64 (p.n : Nat), .string (bs p.s)], .int .i64 (p.e : Nat)]) ∧ Below w.heap.size w w' := H4
  have hne : p.e ≠ 0 → ((p.e : Int) != 0) = true := fun h => by simp; omega
  clear H4
  cases hm : may c a n t.data.toList with
  | false =>
    rw [show ckP c a n t.data.toList = 4 by simp [ckP, hm]] at H1
    by_cases he : p.e = 0
    · rw [he] at H4'
      exact back_NO c a n t s _ k hk _ _ _ _ ht' hs' w H1 H4' (HB he)
    · exact back_NE c a n t s _ k hk _ _ _ _ ht' hs' w H1 _ (hne he) H4' (HF he)
  | true =>
    have e1 : putP c a n t.data.toList = textP c a.toNat n.toNat t.data.toList := by simp [putP, hm]
    rw [show ckP c a n t.data.toList = 0 by simp [ckP, hm], e1] at H1
    have hTl := textP_pos c a.toNat n.toNat t.data.toList
    have hTu := textP_len c a.toNat n.toNat t.data.toList
    have hpos : 0 ≤ a ∧ 0 ≤ n ∧ t.data.toList.length ≤ 64 := by
      cases c with
      | true => obtain ⟨h1, h2, h3, h4⟩ := may_cut.1 hm; rw [h4]; simp; omega
      | false => obtain ⟨h1, h2, h3, h4⟩ := may_splice.1 hm; omega
    have H2 := fun w => take_any (bs (textP c a.toNat n.toNat t.data.toList)) (by rw [bs_size]; omega) w
    have H3 := fun w => fails_any (bs ((textP c a.toNat n.toNat t.data.toList).take (k % (textP c a.toNat n.toNat t.data.toList).length))) 10 (by rw [bs_size, List.length_take]; omega) (by rw [bs_list]; exact tk_torn hm (Nat.mod_lt _ hTl)) w
    rw [bs_list, tk_put hm] at H2
    have H2' : ∀ w, Calls Try.prog 18 #[.string (bs (textP c a.toNat n.toNat t.data.toList))] w fun e w' => e = .returned (.tuple #[.agg #[.bool c, .int .i64 a, .int .i64 n, .string t], .int .i64 0]) ∧ Below w.heap.size w w' := by
      have e : pvT ⟨c, a.toNat, n.toNat, t.data.toList, 0⟩ = .tuple #[.agg #[.bool c, .int .i64 a, .int .i64 n, .string t], .int .i64 0] := by
        unfold pvT
        rw [list_bs, Int.toNat_of_nonneg hpos.1, Int.toNat_of_nonneg hpos.2.1]
        rfl
      rw [e] at H2
      exact H2
    have hz : (bs (textP c a.toNat n.toNat t.data.toList)).size = (textP c a.toNat n.toNat t.data.toList).length := bs_size _
    have hx : (bs (textP c a.toNat n.toNat t.data.toList)).extract 0 (k % (textP c a.toNat n.toNat t.data.toList).length) = bs ((textP c a.toNat n.toNat t.data.toList).take (k % (textP c a.toNat n.toNat t.data.toList).length)) := by
      rw [bs_extract]; simp
    generalize textP c a.toNat n.toNat t.data.toList = X at *
    have hmod := Nat.mod_lt k hTl
    have hK : (k : Int) % ((bs X).size : Int) = ((k % X.length : Nat) : Int) := by rw [hz]; exact (Int.natCast_emod _ _).symm
    have hK2 : (k : Int).tmod ((bs X).size : Int) = ((k % X.length : Nat) : Int) := by rw [hz]; exact (Int.ofNat_tmod _ _).symm
    by_cases he : p.e = 0
    · rw [he] at H4'
      exact back_YO c a n t s _ k hk _ _ _ _ ht' hs' w H1 H2' (by omega) (by omega) _ hK hK2 (by omega) _ hx H3 H4' (HB he)
    · exact back_YE c a n t s _ k hk _ _ _ _ ht' hs' w H1 H2' (by omega) (by omega) _ hK hK2 (by omega) _ hx H3 _ (hne he) H4' (HF he)
end Go.Proofs.Ytadfccgoooafoaa
