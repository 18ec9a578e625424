/- A superblock's text is read as it; what is read of any text has that text. Conditions: numbers of 64 bits. -/
import Derived.Test.YtlidieffaaicaaaSuI
namespace Go.Proofs.Ytlidieffaaicaaa
open Go.ChangeShapes Go.WideShapes Go.RowKit Go.Codec Go.Super
set_option maxRecDepth 100000
set_option linter.unusedSimpArgs false
theorem back_long (g c : Nat) (r i n : Int) (t : ByteArray) (ht : 5000 < t.size) (w : World) : Calls Try.prog 4 #[.agg #[.int .u64 g, .int .u64 c, .int .i64 r, .int .i64 i, .int .i64 n], .string t] w fun e w' => e = .returned (.bool true) ∧ Below w.heap.size w w' := by
  have HW := Lib.hid works_c
  have h1 : (5000 : Int) < (t.size : Int) := by omega
  have HX := Lib.hid (Box.new w 24 #[.int .u64 g, .int .u64 c, .int .i64 r, .int .i64 i, .int .i64 n])
  go_enter Try.func4, Try.ntmps4
  go_wp2_with fail
  refine (HW.out _).mono ?_; rintro e w1 ⟨rfl, hb⟩
  have HA := Lib.hid (HX.out.later hb)
  clear hb
  go_wp2_with fail
  go_ret
  exact ⟨rfl, HA.out.below⟩
/-- The second half: what is read of the text has that text, or it is none. -/
structure Half (w : World) (a : Array Value) (t : ByteArray) (y : Int) (z0 z1 : Nat) (z2 z3 z4 : Int) : Prop where
  take : ∀ wx, Calls Try.prog 8 #[.string t] wx fun e w' => e = .returned (.tuple #[.agg #[.int .u64 z0, .int .u64 z1, .int .i64 z2, .int .i64 z3, .int .i64 z4], .int .i64 y]) ∧ Below wx.heap.size wx w'
  none : ¬ y = 0 → ∀ wx, Calls Try.prog 13 #[.string t, .int .i64 y] wx fun e w' => e = .returned (.bool true) ∧ Below wx.heap.size wx w'
  text : y = 0 → ∀ wx, Calls Try.prog 14 #[.agg #[.int .u64 z0, .int .u64 z1, .int .i64 z2, .int .i64 z3, .int .i64 z4]] wx fun e w' => e = .returned (.string t) ∧ Below wx.heap.size wx w'
theorem half_any (w : World) (a : Array Value) (t : ByteArray) (ht : t.size ≤ 5000) : Half w a t (tk t.data.toList).2 (tk t.data.toList).1.gen (tk t.data.toList).1.calls (tk t.data.toList).1.root (tk t.data.toList).1.table (tk t.data.toList).1.secs := by
  refine ⟨fun wx => take_c t (by omega) wx, fun h wx => fails_true t (by omega) _ (Prod.ext (tk_none _ h) rfl) wx, fun h wx => ?_⟩
  have := text_c (tk t.data.toList).1 wx
  rw [put_tk _ h] at this
  rwa [show bs t.data.toList = t from rfl] at this
set_option maxHeartbeats 4000000 in
theorem back_not (g c : Nat) (r i n : Int) (t : ByteArray) (ht : t.size ≤ 5000) (hok : ¬ S.Ok ⟨g, c, r, i, n⟩) (w : World) : Calls Try.prog 4 #[.agg #[.int .u64 g, .int .u64 c, .int .i64 r, .int .i64 i, .int .i64 n], .string t] w fun e w' => e = .returned (.bool true) ∧ Below w.heap.size w w' := by
  have HW := Lib.hid works_c
  have h1 : ¬ (5000 : Int) < (t.size : Int) := by omega
  have H1 := Lib.hid (fun w' => put_c ⟨g, c, r, i, n⟩ w')
  have e1 : put ⟨g, c, r, i, n⟩ = ([], 4) := if_neg hok
  rw [e1] at H1
  simp only at H1
  have H2 := Lib.hid (fun w' => refused_true ⟨g, c, r, i, n⟩ hok w')
  simp only at H2
  have HH := Lib.hid (half_any w #[] t ht)
  generalize (tk t.data.toList).2 = y at *
  generalize (tk t.data.toList).1 = z at *
  obtain ⟨z0, z1, z2, z3, z4⟩ := z
  simp only at HH
  generalize bs [] = nil at *
  have HX := Lib.hid (Box.new w 24 #[.int .u64 g, .int .u64 c, .int .i64 r, .int .i64 i, .int .i64 n])
  obtain ⟨c0, c1, c2, c3, c4⟩ := HX.out.c5
  clear ht e1 hok
  by_cases hy : y = 0
  · go_enter Try.func4, Try.ntmps4
    go_wp2_with fail
    refine (H1.out _).mono ?_; rintro e w1 ⟨rfl, hb⟩
    have HA := Lib.hid (HX.out.later hb)
    clear hb c0 c1 c2 c3 c4 HX H1
    obtain ⟨c0, c1, c2, c3, c4⟩ := HA.out.c5
    go_wp2_with fail
    refine (H2.out _).mono ?_; rintro e w2 ⟨rfl, hb⟩
    have HB := Lib.hid (HA.out.later hb)
    clear hb c0 c1 c2 c3 c4 HA H2
    go_wp2_with fail
    refine (HH.out.take _).mono ?_; rintro e w3 ⟨rfl, hb⟩
    have HC := Lib.hid ((HB.out.later hb).alloc (.cells #[.int .u64 z0, .int .u64 z1, .int .i64 z2, .int .i64 z3, .int .i64 z4] 24))
    obtain ⟨c0, c1, c2, c3, c4⟩ := is5 (Is.new w3 24 #[.int .u64 z0, .int .u64 z1, .int .i64 z2, .int .i64 z3, .int .i64 z4])
    clear hb HB
    go_wp2_with fail
    refine (HH.out.text hy _).mono ?_; rintro e w4 ⟨rfl, hb⟩
    have HD := Lib.hid (HC.out.later hb)
    clear hb HC c0 c1 c2 c3 c4
    go_wp2_with fail
    refine (HW.out _).mono ?_; rintro e w5 ⟨rfl, hb⟩
    have HE := Lib.hid (HD.out.later hb)
    clear hb
    go_wp2_with fail
    go_ret
    exact ⟨rfl, HE.out.below⟩
  · go_enter Try.func4, Try.ntmps4
    go_wp2_with fail
    refine (H1.out _).mono ?_; rintro e w1 ⟨rfl, hb⟩
    have HA := Lib.hid (HX.out.later hb)
    clear hb c0 c1 c2 c3 c4 HX H1
    obtain ⟨c0, c1, c2, c3, c4⟩ := HA.out.c5
    go_wp2_with fail
    refine (H2.out _).mono ?_; rintro e w2 ⟨rfl, hb⟩
    have HB := Lib.hid (HA.out.later hb)
    clear hb c0 c1 c2 c3 c4 HA H2
    go_wp2_with fail
    refine (HH.out.take _).mono ?_; rintro e w3 ⟨rfl, hb⟩
    have HC := Lib.hid ((HB.out.later hb).alloc (.cells #[.int .u64 z0, .int .u64 z1, .int .i64 z2, .int .i64 z3, .int .i64 z4] 24))
    clear hb HB
    go_wp2_with fail
    refine (HH.out.none hy _).mono ?_; rintro e w4 ⟨rfl, hb⟩
    have HD := Lib.hid (HC.out.later hb)
    clear hb HC
    go_wp2_with fail
    refine (HW.out _).mono ?_; rintro e w5 ⟨rfl, hb⟩
    have HE := Lib.hid (HD.out.later hb)
    clear hb
    go_wp2_with fail
    go_ret
    exact ⟨rfl, HE.out.below⟩
set_option maxHeartbeats 4000000 in
theorem back_yes (g c : Nat) (r i n : Int) (hg : g < 18446744073709551616) (hc : c < 18446744073709551616) (t : ByteArray) (ht : t.size ≤ 5000) (hok : S.Ok ⟨g, c, r, i, n⟩) (w : World) : Calls Try.prog 4 #[.agg #[.int .u64 g, .int .u64 c, .int .i64 r, .int .i64 i, .int .i64 n], .string t] w fun e w' => e = .returned (.bool true) ∧ Below w.heap.size w w' := by
  have HW := Lib.hid works_c
  have h1 : ¬ (5000 : Int) < (t.size : Int) := by omega
  have H1 := Lib.hid (fun w' => put_c ⟨g, c, r, i, n⟩ w')
  have e1 : (put ⟨g, c, r, i, n⟩).2 = 0 := by unfold put; rw [if_pos hok]
  rw [e1] at H1
  simp only at H1
  have l1 : (put ⟨g, c, r, i, n⟩).1.length = 128 := put_length _ hok
  have H2 := Lib.hid (fun w' => take_c (bs (put ⟨g, c, r, i, n⟩).1) (by rw [bs_size]; omega) w')
  rw [bs_list, tk_put _ hok hg hc] at H2
  simp only at H2
  have HH := Lib.hid (half_any w #[] t ht)
  generalize (tk t.data.toList).2 = y at *
  generalize (tk t.data.toList).1 = z at *
  obtain ⟨z0, z1, z2, z3, z4⟩ := z
  simp only at HH
  clear l1 e1 ht hok
  generalize bs (put ⟨g, c, r, i, n⟩).1 = q at *
  have HX := Lib.hid (Box.new w 24 #[.int .u64 g, .int .u64 c, .int .i64 r, .int .i64 i, .int .i64 n])
  obtain ⟨c0, c1, c2, c3, c4⟩ := HX.out.c5
  by_cases hy : y = 0
  · go_enter Try.func4, Try.ntmps4
    go_wp2_with fail
    refine (H1.out _).mono ?_; rintro e w1 ⟨rfl, hb⟩
    have HA := Lib.hid (HX.out.later hb)
    clear hb c0 c1 c2 c3 c4 HX H1
    go_wp2_with fail
    refine (H2.out _).mono ?_; rintro e w2 ⟨rfl, hb⟩
    have HB := Lib.hid ((HA.out.later hb).alloc (.cells #[.int .u64 g, .int .u64 c, .int .i64 r, .int .i64 i, .int .i64 n] 24))
    obtain ⟨k0, k1, k2, k3, k4⟩ := is5 (Is.new w2 24 #[.int .u64 g, .int .u64 c, .int .i64 r, .int .i64 i, .int .i64 n])
    obtain ⟨c0, c1, c2, c3, c4⟩ := HB.out.c5
    clear hb HA H2
    go_wp2_with fail
    clear k0 k1 k2 k3 k4 c0 c1 c2 c3 c4
    refine (HH.out.take _).mono ?_; rintro e w3 ⟨rfl, hb⟩
    have HC := Lib.hid ((HB.out.later hb).alloc (.cells #[.int .u64 z0, .int .u64 z1, .int .i64 z2, .int .i64 z3, .int .i64 z4] 24))
    obtain ⟨c0, c1, c2, c3, c4⟩ := is5 (Is.new w3 24 #[.int .u64 z0, .int .u64 z1, .int .i64 z2, .int .i64 z3, .int .i64 z4])
    clear hb HB
    go_wp2_with fail
    refine (HH.out.text hy _).mono ?_; rintro e w4 ⟨rfl, hb⟩
    have HD := Lib.hid (HC.out.later hb)
    clear hb HC c0 c1 c2 c3 c4
    go_wp2_with fail
    refine (HW.out _).mono ?_; rintro e w5 ⟨rfl, hb⟩
    have HE := Lib.hid (HD.out.later hb)
    clear hb
    go_wp2_with fail
    go_ret
    exact ⟨rfl, HE.out.below⟩
  · go_enter Try.func4, Try.ntmps4
    go_wp2_with fail
    refine (H1.out _).mono ?_; rintro e w1 ⟨rfl, hb⟩
    have HA := Lib.hid (HX.out.later hb)
    clear hb c0 c1 c2 c3 c4 HX H1
    go_wp2_with fail
    refine (H2.out _).mono ?_; rintro e w2 ⟨rfl, hb⟩
    have HB := Lib.hid ((HA.out.later hb).alloc (.cells #[.int .u64 g, .int .u64 c, .int .i64 r, .int .i64 i, .int .i64 n] 24))
    obtain ⟨k0, k1, k2, k3, k4⟩ := is5 (Is.new w2 24 #[.int .u64 g, .int .u64 c, .int .i64 r, .int .i64 i, .int .i64 n])
    obtain ⟨c0, c1, c2, c3, c4⟩ := HB.out.c5
    clear hb HA H2
    go_wp2_with fail
    clear k0 k1 k2 k3 k4 c0 c1 c2 c3 c4
    refine (HH.out.take _).mono ?_; rintro e w3 ⟨rfl, hb⟩
    have HC := Lib.hid ((HB.out.later hb).alloc (.cells #[.int .u64 z0, .int .u64 z1, .int .i64 z2, .int .i64 z3, .int .i64 z4] 24))
    clear hb HB
    go_wp2_with fail
    refine (HH.out.none hy _).mono ?_; rintro e w4 ⟨rfl, hb⟩
    have HD := Lib.hid (HC.out.later hb)
    clear hb HC
    go_wp2_with fail
    refine (HW.out _).mono ?_; rintro e w5 ⟨rfl, hb⟩
    have HE := Lib.hid (HD.out.later hb)
    clear hb
    go_wp2_with fail
    go_ret
    exact ⟨rfl, HE.out.below⟩
theorem back_c (s : S) (hg : s.gen < 18446744073709551616) (hc : s.calls < 18446744073709551616) (t : ByteArray) (w : World) : Calls Try.prog 4 #[.agg #[.int .u64 s.gen, .int .u64 s.calls, .int .i64 s.root, .int .i64 s.table, .int .i64 s.secs], .string t] w fun e w' => e = .returned (.bool true) ∧ Below w.heap.size w w' := by
  by_cases ht : 5000 < t.size
  · exact back_long _ _ _ _ _ t ht w
  · by_cases hok : s.Ok
    · exact back_yes _ _ _ _ _ hg hc t (by omega) hok w
    · exact back_not _ _ _ _ _ t (by omega) hok w
end Go.Proofs.Ytlidieffaaicaaa
