/- The law BlockKnown: the examples of the chapter. Conditions: none. -/
import Derived.Test.YtadfccgoooafoaaBkM
namespace Go.Proofs.Ytadfccgoooafoaa
open Go.ChangeShapes Go.WideShapes Go.RowKit Go.Codec Go.Blk
set_option maxRecDepth 100000
set_option linter.unusedSimpArgs false
set_option linter.unusedVariables false
theorem ck_lit (s : ByteArray) (E : Nat) (hs : s.size ≤ 1099511627776) (h : ckV s.data.toList = E) (w : World) : Calls Try.prog 10 #[.string s] w fun e w' => e = .returned (.int .i64 E) ∧ Below w.heap.size w w' := by
  rw [← h]
  exact (check_any s hs w).mono fun e w' ⟨he, hw⟩ => ⟨he, hw ▸ Below.refl _ _⟩
theorem at_lit (s : ByteArray) (f n : Int) (R : ByteArray) (hs : s.size ≤ 1099511627776) (h : bs (tell s.data.toList f.toNat (min n.toNat 64)) = R) (w : World) : Calls Try.prog 14 #[.string s, .int .i64 f, .int .i64 n] w fun e w' => e = .returned (.string R) ∧ Below w.heap.size w w' := by
  rw [← h]
  exact at_any s f n hs w
theorem ap_lit (v : ByteArray) (c : Bool) (a n : Int) (s R : ByteArray) (hv : v.size ≤ 1099511627776) (hs : s.size ≤ 1099511627776) (h : bs (apl v.data.toList c a n s.data.toList) = R) (w : World) : Calls Try.prog 20 #[.string v, .agg #[.bool c, .int .i64 a, .int .i64 n, .string s]] w fun e w' => e = .returned (.string R) ∧ Below w.heap.size w w' := by
  rw [← h]
  exact apply_any v c a n s hv hs w
theorem rep_lit (k : Nat) (hk : k ≤ 100) (R : ByteArray) (h : bs (Lib.repeatL [120] k) = R) (w : World) : Calls Try.prog 23 #[.string ⟨#[120]⟩, .int .i64 k] w fun e w' => e = .returned (.string R) ∧ Below w.heap.size w w' := by
  rw [← h]
  exact Try.strings_Repeat ⟨#[120]⟩ k w (by omega) (by show 1 * k ≤ _; omega)

set_option maxHeartbeats 8000000 in
theorem known_any (w : World) : Calls Try.prog 8 #[] w fun e w' => e = .returned (.bool true) ∧ Below w.heap.size w w' := by
  obtain ⟨R65, hR65⟩ : ∃ R, bs (List.replicate 65 120) = R := ⟨_, rfl⟩
  have hl65 : R65.data.toList = List.replicate 65 120 := by rw [← hR65, bs_list]
  have hz65 : R65.size = 65 := by rw [Lib.size_eq, hl65]; simp
  obtain ⟨R64, hR64⟩ : ∃ R, bs (List.replicate 64 120) = R := ⟨_, rfl⟩
  have hl64 : R64.data.toList = List.replicate 64 120 := by rw [← hR64, bs_list]
  have hz64 : R64.size = 64 := by rw [Lib.size_eq, hl64]; simp
  obtain ⟨R70, hR70⟩ : ∃ R, bs (List.replicate 70 120) = R := ⟨_, rfl⟩
  have hl70 : R70.data.toList = List.replicate 70 120 := by rw [← hR70, bs_list]
  have hz70 : R70.size = 70 := by rw [Lib.size_eq, hl70]; simp
  obtain ⟨R63, hR63⟩ : ∃ R, bs (List.replicate 63 120) = R := ⟨_, rfl⟩
  have hl63 : R63.data.toList = List.replicate 63 120 := by rw [← hR63, bs_list]
  have hz63 : R63.size = 63 := by rw [Lib.size_eq, hl63]; simp
  obtain ⟨Z64, hZ⟩ : ∃ R, bs (tell [] 0 64) = R := ⟨_, rfl⟩
  have hZ64 : Z64.size = 64 := by rw [← hZ, bs_size, tell_len]
  have hcat : R63 ++ ⟨#[121]⟩ = bs (List.replicate 63 120 ++ [121]) := by rw [← hR63, ← bs_append]; rfl
  obtain ⟨Q, hQ⟩ : ∃ R, bs (List.replicate 63 120 ++ [121]) = R := ⟨_, rfl⟩
  rw [hQ] at hcat
  have WK : Hid (∀ w, Calls Try.prog 9 #[] w fun e w' => e = .returned (.bool true) ∧ Below w.heap.size w w') := Lib.hid (fun w => works_any w)
  have A2 : Hid (∀ w, Calls Try.prog 10 #[.string ⟨#[97]⟩] w fun e w' => e = .returned (.int .i64 0) ∧ Below w.heap.size w w') := Lib.hid (fun w => ck_lit ⟨#[97]⟩ 0 (by decide +kernel) (by decide +kernel) w)
  have A3 : Hid (∀ w, Calls Try.prog 10 #[.string ⟨#[]⟩] w fun e w' => e = .returned (.int .i64 4) ∧ Below w.heap.size w w') := Lib.hid (fun w => ck_lit ⟨#[]⟩ 4 (by decide +kernel) (by decide +kernel) w)
  have A4 : Hid (∀ w, Calls Try.prog 10 #[.string ⟨#[97, 0]⟩] w fun e w' => e = .returned (.int .i64 4) ∧ Below w.heap.size w w') := Lib.hid (fun w => ck_lit ⟨#[97, 0]⟩ 4 (by decide +kernel) (by decide +kernel) w)
  have P65 : Hid (∀ w, Calls Try.prog 23 #[.string ⟨#[120]⟩, .int .i64 65] w fun e w' => e = .returned (.string R65) ∧ Below w.heap.size w w') := Lib.hid (fun w => rep_lit 65 (by decide) R65 (by rw [← hR65]; decide +kernel) w)
  have P64 : Hid (∀ w, Calls Try.prog 23 #[.string ⟨#[120]⟩, .int .i64 64] w fun e w' => e = .returned (.string R64) ∧ Below w.heap.size w w') := Lib.hid (fun w => rep_lit 64 (by decide) R64 (by rw [← hR64]; decide +kernel) w)
  have P70 : Hid (∀ w, Calls Try.prog 23 #[.string ⟨#[120]⟩, .int .i64 70] w fun e w' => e = .returned (.string R70) ∧ Below w.heap.size w w') := Lib.hid (fun w => rep_lit 70 (by decide) R70 (by rw [← hR70]; decide +kernel) w)
  have P63 : Hid (∀ w, Calls Try.prog 23 #[.string ⟨#[120]⟩, .int .i64 63] w fun e w' => e = .returned (.string R63) ∧ Below w.heap.size w w') := Lib.hid (fun w => rep_lit 63 (by decide) R63 (by rw [← hR63]; decide +kernel) w)
  have A6 : Hid (∀ w, Calls Try.prog 10 #[.string R65] w fun e w' => e = .returned (.int .i64 4) ∧ Below w.heap.size w w') := Lib.hid (fun w => ck_lit R65 4 (by omega) (by rw [hl65]; decide +kernel) w)
  have A8 : Hid (∀ w, Calls Try.prog 10 #[.string R64] w fun e w' => e = .returned (.int .i64 0) ∧ Below w.heap.size w w') := Lib.hid (fun w => ck_lit R64 0 (by omega) (by rw [hl64]; decide +kernel) w)
  have A9 : Hid (∀ w, Calls Try.prog 14 #[.string ⟨#[97, 98, 99]⟩, .int .i64 1, .int .i64 4] w fun e w' => e = .returned (.string ⟨#[98, 99, 0, 0]⟩) ∧ Below w.heap.size w w') := Lib.hid (fun w => at_lit ⟨#[97, 98, 99]⟩ 1 4 ⟨#[98, 99, 0, 0]⟩ (by decide +kernel) (by decide +kernel) w)
  have A10 : Hid (∀ w, Calls Try.prog 14 #[.string ⟨#[97, 98, 99]⟩, .int .i64 (-5), .int .i64 2] w fun e w' => e = .returned (.string ⟨#[97, 98]⟩) ∧ Below w.heap.size w w') := Lib.hid (fun w => at_lit ⟨#[97, 98, 99]⟩ (-5) 2 ⟨#[97, 98]⟩ (by decide +kernel) (by decide +kernel) w)
  have A11 : Hid (∀ w, Calls Try.prog 14 #[.string ⟨#[97, 98, 99]⟩, .int .i64 4611686018427387904, .int .i64 2] w fun e w' => e = .returned (.string ⟨#[0, 0]⟩) ∧ Below w.heap.size w w') := Lib.hid (fun w => at_lit ⟨#[97, 98, 99]⟩ 4611686018427387904 2 ⟨#[0, 0]⟩ (by decide +kernel) (by decide +kernel) w)
  have A12 : Hid (∀ w, Calls Try.prog 14 #[.string ⟨#[]⟩, .int .i64 0, .int .i64 99] w fun e w' => e = .returned (.string Z64) ∧ Below w.heap.size w w') := Lib.hid (fun w => at_lit ⟨#[]⟩ 0 99 Z64 (by decide +kernel) (by rw [← hZ]; rfl) w)
  have A13 : Hid (∀ w, Calls Try.prog 14 #[.string ⟨#[97]⟩, .int .i64 0, .int .i64 (-1)] w fun e w' => e = .returned (.string ⟨#[]⟩) ∧ Below w.heap.size w w') := Lib.hid (fun w => at_lit ⟨#[97]⟩ 0 (-1) ⟨#[]⟩ (by decide +kernel) (by decide +kernel) w)
  have B1 : Hid (∀ w, Calls Try.prog 24 #[.agg #[.bool true, .int .i64 0, .int .i64 3, .string ⟨#[]⟩], .string ⟨#[2, 3]⟩] w fun e w' => e = .returned (.bool true) ∧ Below w.heap.size w w') := Lib.hid (fun w => puts_any true 0 3 ⟨#[]⟩ ⟨#[2, 3]⟩ (by decide +kernel) (by decide +kernel) (by decide +kernel) w)
  have B2 : Hid (∀ w, Calls Try.prog 20 #[.string ⟨#[97, 98, 99, 100, 101, 102]⟩, .agg #[.bool true, .int .i64 0, .int .i64 3, .string ⟨#[]⟩]] w fun e w' => e = .returned (.string ⟨#[97, 98, 99]⟩) ∧ Below w.heap.size w w') := Lib.hid (fun w => ap_lit ⟨#[97, 98, 99, 100, 101, 102]⟩ true 0 3 ⟨#[]⟩ ⟨#[97, 98, 99]⟩ (by decide +kernel) (by decide +kernel) (by decide +kernel) w)
  have B3 : Hid (∀ w, Calls Try.prog 20 #[.string ⟨#[97, 0, 0, 100]⟩, .agg #[.bool true, .int .i64 0, .int .i64 3, .string ⟨#[]⟩]] w fun e w' => e = .returned (.string ⟨#[97]⟩) ∧ Below w.heap.size w w') := Lib.hid (fun w => ap_lit ⟨#[97, 0, 0, 100]⟩ true 0 3 ⟨#[]⟩ ⟨#[97]⟩ (by decide +kernel) (by decide +kernel) (by decide +kernel) w)
  have B4 : Hid (∀ w, Calls Try.prog 20 #[.string ⟨#[97, 98]⟩, .agg #[.bool false, .int .i64 60, .int .i64 0, .string ⟨#[0, 0]⟩]] w fun e w' => e = .returned (.string ⟨#[97, 98]⟩) ∧ Below w.heap.size w w') := Lib.hid (fun w => ap_lit ⟨#[97, 98]⟩ false 60 0 ⟨#[0, 0]⟩ ⟨#[97, 98]⟩ (by decide +kernel) (by decide +kernel) (by decide +kernel) w)
  have B5 : Hid (∀ w, Calls Try.prog 20 #[.string ⟨#[]⟩, .agg #[.bool false, .int .i64 1, .int .i64 0, .string ⟨#[98]⟩]] w fun e w' => e = .returned (.string ⟨#[0, 98]⟩) ∧ Below w.heap.size w w') := Lib.hid (fun w => ap_lit ⟨#[]⟩ false 1 0 ⟨#[98]⟩ ⟨#[0, 98]⟩ (by decide +kernel) (by decide +kernel) (by decide +kernel) w)
  have B7 : Hid (∀ w, Calls Try.prog 20 #[.string R70, .agg #[.bool false, .int .i64 63, .int .i64 0, .string ⟨#[121]⟩]] w fun e w' => e = .returned (.string Q) ∧ Below w.heap.size w w') := Lib.hid (fun w => ap_lit R70 false 63 0 ⟨#[121]⟩ Q (by omega) (by decide +kernel) (by rw [hl70, ← hQ]; decide +kernel) w)
  have E0 : Hid (∀ w, Calls Try.prog 25 #[.agg #[.bool false, .int .i64 63, .int .i64 0, .string ⟨#[120, 121]⟩]] w fun e w' => e = .returned (.bool true) ∧ Below w.heap.size w w') := Lib.hid (fun w => refused_any false 63 0 ⟨#[120, 121]⟩ (by decide +kernel) (by decide +kernel) w)
  have E1 : Hid (∀ w, Calls Try.prog 25 #[.agg #[.bool false, .int .i64 0, .int .i64 0, .string ⟨#[]⟩]] w fun e w' => e = .returned (.bool true) ∧ Below w.heap.size w w') := Lib.hid (fun w => refused_any false 0 0 ⟨#[]⟩ (by decide +kernel) (by decide +kernel) w)
  have E2 : Hid (∀ w, Calls Try.prog 25 #[.agg #[.bool true, .int .i64 0, .int .i64 64, .string ⟨#[]⟩]] w fun e w' => e = .returned (.bool true) ∧ Below w.heap.size w w') := Lib.hid (fun w => refused_any true 0 64 ⟨#[]⟩ (by decide +kernel) (by decide +kernel) w)
  have E3 : Hid (∀ w, Calls Try.prog 25 #[.agg #[.bool true, .int .i64 0, .int .i64 (-1), .string ⟨#[]⟩]] w fun e w' => e = .returned (.bool true) ∧ Below w.heap.size w w') := Lib.hid (fun w => refused_any true 0 (-1) ⟨#[]⟩ (by decide +kernel) (by decide +kernel) w)
  have E4 : Hid (∀ w, Calls Try.prog 25 #[.agg #[.bool true, .int .i64 0, .int .i64 0, .string ⟨#[97]⟩]] w fun e w' => e = .returned (.bool true) ∧ Below w.heap.size w w') := Lib.hid (fun w => refused_any true 0 0 ⟨#[97]⟩ (by decide +kernel) (by decide +kernel) w)
  have E5 : Hid (∀ w, Calls Try.prog 25 #[.agg #[.bool false, .int .i64 0, .int .i64 1, .string ⟨#[97]⟩]] w fun e w' => e = .returned (.bool true) ∧ Below w.heap.size w w') := Lib.hid (fun w => refused_any false 0 1 ⟨#[97]⟩ (by decide +kernel) (by decide +kernel) w)
  have E6 : Hid (∀ w, Calls Try.prog 25 #[.agg #[.bool false, .int .i64 (-1), .int .i64 0, .string ⟨#[97]⟩]] w fun e w' => e = .returned (.bool true) ∧ Below w.heap.size w w') := Lib.hid (fun w => refused_any false (-1) 0 ⟨#[97]⟩ (by decide +kernel) (by decide +kernel) w)
  have E7 : Hid (∀ w, Calls Try.prog 25 #[.agg #[.bool false, .int .i64 0, .int .i64 0, .string R65]] w fun e w' => e = .returned (.bool true) ∧ Below w.heap.size w w') := Lib.hid (fun w => refused_any false 0 0 R65 (by omega) (by rw [hl65]; decide +kernel) w)
  have F0 : Hid (∀ w, Calls Try.prog 22 #[.string ⟨#[3]⟩, .int .i64 4] w fun e w' => e = .returned (.bool true) ∧ Below w.heap.size w w') := Lib.hid (fun w => fails_any ⟨#[3]⟩ 4 (by decide +kernel) (by rfl) w)
  have F1 : Hid (∀ w, Calls Try.prog 22 #[.string ⟨#[2]⟩, .int .i64 10] w fun e w' => e = .returned (.bool true) ∧ Below w.heap.size w w') := Lib.hid (fun w => fails_any ⟨#[2]⟩ 10 (by decide +kernel) (by rfl) w)
  have F2 : Hid (∀ w, Calls Try.prog 22 #[.string ⟨#[2, 64]⟩, .int .i64 4] w fun e w' => e = .returned (.bool true) ∧ Below w.heap.size w w') := Lib.hid (fun w => fails_any ⟨#[2, 64]⟩ 4 (by decide +kernel) (by rfl) w)
  have F3 : Hid (∀ w, Calls Try.prog 22 #[.string ⟨#[2, 3, 0]⟩, .int .i64 4] w fun e w' => e = .returned (.bool true) ∧ Below w.heap.size w w') := Lib.hid (fun w => fails_any ⟨#[2, 3, 0]⟩ 4 (by decide +kernel) (by rfl) w)
  have F4 : Hid (∀ w, Calls Try.prog 22 #[.string ⟨#[1, 2, 0]⟩, .int .i64 10] w fun e w' => e = .returned (.bool true) ∧ Below w.heap.size w w') := Lib.hid (fun w => fails_any ⟨#[1, 2, 0]⟩ 10 (by decide +kernel) (by rfl) w)
  have F5 : Hid (∀ w, Calls Try.prog 22 #[.string ⟨#[1, 63, 0, 2, 120, 121]⟩, .int .i64 4] w fun e w' => e = .returned (.bool true) ∧ Below w.heap.size w w') := Lib.hid (fun w => fails_any ⟨#[1, 63, 0, 2, 120, 121]⟩ 4 (by decide +kernel) (by rfl) w)
  have F6 : Hid (∀ w, Calls Try.prog 22 #[.string ⟨#[1, 0, 0, 0]⟩, .int .i64 4] w fun e w' => e = .returned (.bool true) ∧ Below w.heap.size w w') := Lib.hid (fun w => fails_any ⟨#[1, 0, 0, 0]⟩ 4 (by decide +kernel) (by rfl) w)
  clear hR65 hR64 hR70 hR63 hl65 hl64 hl70 hl63 hZ hQ
  have hno : ¬ 9223372036854775807 < R63.size + 1 := by omega
  have HX := Lib.hid (Box.new w 30 #[.bool true, .int .i64 0, .int .i64 3, .string ⟨#[]⟩])
  go_enter Try.func8, Try.ntmps8
  go_wp2_with fail
  refine (WK.out _).mono ?_; rintro e w0 ⟨rfl, hb⟩
  replace HX := Lib.hid (HX.out.later hb); clear hb
  go_wp2_with fail
  refine (A2.out _).mono ?_; rintro e w1 ⟨rfl, hb⟩
  replace HX := Lib.hid (HX.out.later hb); clear hb
  go_wp2_with fail
  refine (A3.out _).mono ?_; rintro e w2 ⟨rfl, hb⟩
  replace HX := Lib.hid (HX.out.later hb); clear hb
  go_wp2_with fail
  refine (A4.out _).mono ?_; rintro e w3 ⟨rfl, hb⟩
  replace HX := Lib.hid (HX.out.later hb); clear hb
  go_wp2_with fail
  refine (P65.out _).mono ?_; rintro e w4 ⟨rfl, hb⟩
  replace HX := Lib.hid (HX.out.later hb); clear hb
  go_wp2_with fail
  refine (A6.out _).mono ?_; rintro e w5 ⟨rfl, hb⟩
  replace HX := Lib.hid (HX.out.later hb); clear hb
  go_wp2_with fail
  refine (P64.out _).mono ?_; rintro e w6 ⟨rfl, hb⟩
  replace HX := Lib.hid (HX.out.later hb); clear hb
  go_wp2_with fail
  refine (A8.out _).mono ?_; rintro e w7 ⟨rfl, hb⟩
  replace HX := Lib.hid (HX.out.later hb); clear hb
  go_wp2_with fail
  refine (A9.out _).mono ?_; rintro e w8 ⟨rfl, hb⟩
  replace HX := Lib.hid (HX.out.later hb); clear hb
  go_wp2_with fail
  refine (A10.out _).mono ?_; rintro e w9 ⟨rfl, hb⟩
  replace HX := Lib.hid (HX.out.later hb); clear hb
  go_wp2_with fail
  refine (A11.out _).mono ?_; rintro e w10 ⟨rfl, hb⟩
  replace HX := Lib.hid (HX.out.later hb); clear hb
  go_wp2_with fail
  refine (A12.out _).mono ?_; rintro e w11 ⟨rfl, hb⟩
  replace HX := Lib.hid (HX.out.later hb); clear hb
  go_wp2_with fail
  refine (A13.out _).mono ?_; rintro e w12 ⟨rfl, hb⟩
  replace HX := Lib.hid (HX.out.later hb); clear hb
  obtain ⟨c0, c1, c2, c3⟩ := HX.out.cells
  go_wp2_with fail
  clear c0 c1 c2 c3
  refine (B1.out _).mono ?_; rintro e w13 ⟨rfl, hb⟩
  replace HX := Lib.hid (HX.out.later hb); clear hb
  obtain ⟨c0, c1, c2, c3⟩ := HX.out.cells
  go_wp2_with fail
  clear c0 c1 c2 c3
  refine (B2.out _).mono ?_; rintro e w14 ⟨rfl, hb⟩
  replace HX := Lib.hid (HX.out.later hb); clear hb
  obtain ⟨c0, c1, c2, c3⟩ := HX.out.cells
  go_wp2_with fail
  clear c0 c1 c2 c3
  refine (B3.out _).mono ?_; rintro e w15 ⟨rfl, hb⟩
  replace HX := Lib.hid (HX.out.later hb); clear hb
  go_wp2_with fail
  refine (B4.out _).mono ?_; rintro e w16 ⟨rfl, hb⟩
  replace HX := Lib.hid (HX.out.later hb); clear hb
  go_wp2_with fail
  refine (B5.out _).mono ?_; rintro e w17 ⟨rfl, hb⟩
  replace HX := Lib.hid (HX.out.later hb); clear hb
  go_wp2_with fail
  refine (P70.out _).mono ?_; rintro e w18 ⟨rfl, hb⟩
  replace HX := Lib.hid (HX.out.later hb); clear hb
  go_wp2_with fail
  refine (B7.out _).mono ?_; rintro e w19 ⟨rfl, hb⟩
  replace HX := Lib.hid (HX.out.later hb); clear hb
  go_wp2_with fail
  refine (P63.out _).mono ?_; rintro e w20 ⟨rfl, hb⟩
  replace HX := Lib.hid (HX.out.later hb); clear hb
  go_wp2_with fail
  refine (E0.out _).mono ?_; rintro e w21 ⟨rfl, hb⟩
  replace HX := Lib.hid (HX.out.later hb); clear hb
  go_wp2_with fail
  refine (E1.out _).mono ?_; rintro e w22 ⟨rfl, hb⟩
  replace HX := Lib.hid (HX.out.later hb); clear hb
  go_wp2_with fail
  refine (E2.out _).mono ?_; rintro e w23 ⟨rfl, hb⟩
  replace HX := Lib.hid (HX.out.later hb); clear hb
  go_wp2_with fail
  refine (E3.out _).mono ?_; rintro e w24 ⟨rfl, hb⟩
  replace HX := Lib.hid (HX.out.later hb); clear hb
  go_wp2_with fail
  refine (E4.out _).mono ?_; rintro e w25 ⟨rfl, hb⟩
  replace HX := Lib.hid (HX.out.later hb); clear hb
  go_wp2_with fail
  refine (E5.out _).mono ?_; rintro e w26 ⟨rfl, hb⟩
  replace HX := Lib.hid (HX.out.later hb); clear hb
  go_wp2_with fail
  refine (E6.out _).mono ?_; rintro e w27 ⟨rfl, hb⟩
  replace HX := Lib.hid (HX.out.later hb); clear hb
  go_wp2_with fail
  refine (P65.out _).mono ?_; rintro e w28 ⟨rfl, hb⟩
  replace HX := Lib.hid (HX.out.later hb); clear hb
  go_wp2_with fail
  refine (E7.out _).mono ?_; rintro e w29 ⟨rfl, hb⟩
  replace HX := Lib.hid (HX.out.later hb); clear hb
  go_wp2_with fail
  refine (F0.out _).mono ?_; rintro e w30 ⟨rfl, hb⟩
  replace HX := Lib.hid (HX.out.later hb); clear hb
  go_wp2_with fail
  refine (F1.out _).mono ?_; rintro e w31 ⟨rfl, hb⟩
  replace HX := Lib.hid (HX.out.later hb); clear hb
  go_wp2_with fail
  refine (F2.out _).mono ?_; rintro e w32 ⟨rfl, hb⟩
  replace HX := Lib.hid (HX.out.later hb); clear hb
  go_wp2_with fail
  refine (F3.out _).mono ?_; rintro e w33 ⟨rfl, hb⟩
  replace HX := Lib.hid (HX.out.later hb); clear hb
  go_wp2_with fail
  refine (F4.out _).mono ?_; rintro e w34 ⟨rfl, hb⟩
  replace HX := Lib.hid (HX.out.later hb); clear hb
  go_wp2_with fail
  refine (F5.out _).mono ?_; rintro e w35 ⟨rfl, hb⟩
  replace HX := Lib.hid (HX.out.later hb); clear hb
  go_wp2_with fail
  refine (F6.out _).mono ?_; rintro e w36 ⟨rfl, hb⟩
  replace HX := Lib.hid (HX.out.later hb); clear hb
  go_wp2_with fail
  refine (WK.out _).mono ?_; rintro e w37 ⟨rfl, hb⟩
  replace HX := Lib.hid (HX.out.later hb); clear hb
  go_wp2_with fail
  go_ret
  exact ⟨rfl, HX.out.below⟩
end Go.Proofs.Ytadfccgoooafoaa
