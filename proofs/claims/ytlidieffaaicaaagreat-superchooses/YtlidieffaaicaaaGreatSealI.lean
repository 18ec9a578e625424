/- The document's answer: stamping. Conditions: lengths below 2^30. -/
import Derived.Test.YtlidieffaaicaaaGreatSealH
namespace Go.Proofs.YtlidieffaaicaaaGreat
open Go.ChangeShapes Go.WideShapes Go.RowKit Go.Codec
set_option maxRecDepth 100000
set_option linter.unusedVariables false
theorem rstamp_arg (g i : Nat) (s : ByteArray) (n : Int) (hn : n < 26 ∨ 65536 < n) (w : World) :
    Calls Tryz.prog 71 #[.int .u64 g, .int .u32 i, .string s, .int .i64 n] w fun e w' => e = .returned (.tuple #[.string ⟨#[]⟩, .int .i64 2]) ∧ Below w.heap.size w w' := by
  by_cases h : n < 26
  · go_enter Tryz.func71, Tryz.ntmps71
    go_wp2
    go_ret2
    exact ⟨rfl, Below.refl _ _⟩
  · have h2 : 65536 < n := by omega
    go_enter Tryz.func71, Tryz.ntmps71
    go_wp2
    go_ret2
    exact ⟨rfl, Below.refl _ _⟩
theorem rstamp_long (g i : Nat) (s : ByteArray) (n : Nat) (h1 : 26 ≤ n) (h2 : n ≤ 65536) (hs : n < s.size + 26) (hm : s.size ≤ 1073741824) (w : World) :
    Calls Tryz.prog 71 #[.int .u64 g, .int .u32 i, .string s, .int .i64 n] w fun e w' => e = .returned (.tuple #[.string ⟨#[]⟩, .int .i64 3]) ∧ Below w.heap.size w w' := by
  have h3 : (n : Int) - 26 < (s.size : Int) := by omega
  have h1' : ¬ (n : Int) < 26 := by omega
  have h2' : ¬ (65536 : Int) < n := by omega
  clear hs
  by_cases h4 : (65535 : Int) < (s.size : Int)
  · go_enter Tryz.func71, Tryz.ntmps71
    go_wp2
    go_ret2
    exact ⟨rfl, Below.refl _ _⟩
  · go_enter Tryz.func71, Tryz.ntmps71
    go_wp2
    go_ret2
    exact ⟨rfl, Below.refl _ _⟩
set_option maxHeartbeats 1000000 in
theorem rstamp_core (g i : Nat) (s : ByteArray) (n d : Nat) (h1 : 26 ≤ n) (h2 : n ≤ 65536) (h3 : ¬ (n : Int) - 26 < (s.size : Int)) (h4 : ((n : Int) - 26) - (s.size : Int) = (d : Int)) (hi : i < 4294967296) (hd : d ≤ 65536) (hs : s.size ≤ 65536) (A B C Z P1 P2 P3 P4 P5 P6 : ByteArray)
    (HA : Hid (∀ w, Calls Tryz.prog 70 #[.int .u64 g, .int .i64 8] w fun e w' => e = .returned (.string A) ∧ Below w.heap.size w w'))
    (HI : Hid (∀ w, Calls Tryz.prog 70 #[.int .u64 i, .int .i64 4] w fun e w' => e = .returned (.string B) ∧ Below w.heap.size w w'))
    (HC : Hid (∀ w, Calls Tryz.prog 70 #[.int .u64 s.size, .int .i64 2] w fun e w' => e = .returned (.string C) ∧ Below w.heap.size w w'))
    (w w1 : World)
    (hmk : (Instr.makeSlice 72 (.int .i64 (d : Int)) (.int .i64 (d : Int))).run Tryz.prog w = .ok (.slice (some ⟨w.heap.size, 0, none⟩) d d) w1)
    (hcv : (convert 72 9 (.slice (some ⟨w.heap.size, 0, none⟩) d d)).run Tryz.prog w1 = .ok (.string Z) w1) (HB : Hid (Below w.heap.size w w1))
    (p1 : A ++ B = P1) (p2 : P1 ++ C = P2) (p3 : P2 ++ s = P3) (p4 : P3 ++ Z = P4) (p5 : P4 ++ B = P5) (p6 : P5 ++ A = P6)
    (z1 : ¬ 9223372036854775807 < A.size + B.size) (z2 : ¬ 9223372036854775807 < P1.size + C.size) (z3 : ¬ 9223372036854775807 < P2.size + s.size) (z4 : ¬ 9223372036854775807 < P3.size + Z.size) (z5 : ¬ 9223372036854775807 < P4.size + B.size) (z6 : ¬ 9223372036854775807 < P5.size + A.size) :
    Calls Tryz.prog 71 #[.int .u64 g, .int .u32 i, .string s, .int .i64 n] w fun e w' => e = .returned (.tuple #[.string P6, .int .i64 0]) ∧ Below w.heap.size w w' := by
  have h1' : ¬ (n : Int) < 26 := by omega
  have h2' : ¬ (65536 : Int) < n := by omega
  have h5 : ¬ (65535 : Int) < (s.size : Int) := by omega
  have hu : IntKind.u64.wrap (s.size : Int) = (s.size : Int) := by rw [IntKind.wrap_u64]; omega
  have hv : IntKind.u64.wrap (i : Int) = (i : Int) := by rw [IntKind.wrap_u64]; omega
  go_enter Tryz.func71, Tryz.ntmps71
  go_wp2_with fail
  refine (HA.out _).mono ?_; rintro e w2 ⟨rfl, b1⟩
  have B1 := Lib.hid (HB.out.trans (b1.mono HB.out.size)); clear b1
  go_wp2_with fail
  refine (HI.out _).mono ?_; rintro e w3 ⟨rfl, b1⟩
  have B2 := Lib.hid (B1.out.trans (b1.mono B1.out.size)); clear b1
  go_wp2_with fail
  refine (HC.out _).mono ?_; rintro e w4 ⟨rfl, b1⟩
  have B3 := Lib.hid (B2.out.trans (b1.mono B2.out.size)); clear b1
  go_wp2_with fail
  refine (HI.out _).mono ?_; rintro e w5 ⟨rfl, b1⟩
  have B4 := Lib.hid (B3.out.trans (b1.mono B3.out.size)); clear b1
  go_wp2_with fail
  refine (HA.out _).mono ?_; rintro e w6 ⟨rfl, b1⟩
  have B5 := Lib.hid (B4.out.trans (b1.mono B4.out.size)); clear b1
  go_wp2
  go_ret2
  exact ⟨rfl, B5.out⟩
theorem rstamp_fits (g i : Nat) (s : ByteArray) (d : Nat) (h2 : 26 + s.size + d ≤ 65536) (hg : g < 18446744073709551616) (hi : i < 4294967296) (w : World) :
    Calls Tryz.prog 71 #[.int .u64 g, .int .u32 i, .string s, .int .i64 (26 + s.size + d : Nat)] w fun e w' => e = .returned (.tuple #[.string (bs (Seal.sheet g i s.data.toList d)), .int .i64 0]) ∧ Below w.heap.size w w' := by
  have hl : s.data.toList.length = s.size := (Lib.size_eq s).symm
  refine rstamp_core g i s (26 + s.size + d) d (by omega) (by omega) (by omega) (by omega) hi (by omega) (by omega) (bs (be 8 g)) (bs (be 4 i)) (bs (be 2 s.size)) (bs (Seal.noughts d))
    (bs (be 8 g ++ be 4 i)) (bs (be 8 g ++ be 4 i ++ be 2 s.size)) (bs (be 8 g ++ be 4 i ++ be 2 s.size ++ s.data.toList)) (bs (be 8 g ++ be 4 i ++ be 2 s.size ++ s.data.toList ++ Seal.noughts d))
    (bs (be 8 g ++ be 4 i ++ be 2 s.size ++ s.data.toList ++ Seal.noughts d ++ be 4 i)) _ (Lib.hid fun w => number_any g 8 hg (by omega) w) (Lib.hid fun w => number_any i 4 (by omega) (by omega) w) (Lib.hid fun w => number_any s.size 2 (by omega) (by omega) w)
    w (mk w d) (make_run d (by omega) w) (nought_text d w) (Lib.hid (mk_below w d)) (bs_append _ _) (bs_append _ _) (bs_app _ _) (bs_append _ _) (bs_append _ _) ?_ ?_ ?_ ?_ ?_ ?_ ?_
  · rw [bs_append]; congr 1; simp [Seal.sheet]
  all_goals simp [bs_size, be_length, Seal.noughts_length]; try omega
theorem rstamp_any (g i : Nat) (s : ByteArray) (n : Int) (hs : s.size ≤ 1073741824) (hg : g < 18446744073709551616) (hi : i < 4294967296) (w : World) :
    Calls Tryz.prog 71 #[.int .u64 g, .int .u32 i, .string s, .int .i64 n] w fun e w' => e = .returned (.tuple #[.string (bs (Seal.stamp g i s.data.toList n).1), .int .i64 (Seal.stamp g i s.data.toList n).2]) ∧ Below w.heap.size w w' := by
  unfold Seal.stamp
  by_cases h : n < 26 ∨ 65536 < n
  · rw [if_pos h]
    exact rstamp_arg g i s n h w
  · rw [if_neg h]
    obtain ⟨k, rfl⟩ : ∃ k : Nat, n = (k : Int) := ⟨n.toNat, by omega⟩
    rw [Int.toNat_natCast, ← Lib.size_eq]
    by_cases h0 : (k : Int) - 26 < (s.size : Int)
    · rw [if_pos h0]
      exact rstamp_long g i s k (by omega) (by omega) (by omega) hs w
    · rw [if_neg h0]
      have hf := rstamp_fits g i s (k - 26 - s.size) (by omega) hg hi w
      rw [show 26 + s.size + (k - 26 - s.size) = k by omega] at hf
      exact hf
end Go.Proofs.YtlidieffaaicaaaGreat
