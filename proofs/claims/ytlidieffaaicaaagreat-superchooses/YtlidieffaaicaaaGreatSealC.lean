/- Noughts, filling up and stamping, in the program. Conditions: lengths below 2^30. -/
import Derived.Test.YtlidieffaaicaaaGreatSealA
import Derived.Test.YtlidieffaaicaaaGreatShelf
namespace Go.Proofs.YtlidieffaaicaaaGreat
open Go.ChangeShapes Go.WideShapes Go.RowKit Go.Codec
set_option maxRecDepth 100000
set_option linter.unusedVariables false
theorem repeat_one (b : UInt8) (n : Nat) : Lib.repeatL [b] n = List.replicate n b := by
  induction n with
  | zero => simp [Lib.repeatL]
  | succ n ih =>
    simp [Lib.repeatL, List.replicate_succ]
    exact ih
theorem repeat_any (b : UInt8) (n : Nat) (hn : n ≤ 1073741824) (w : World) :
    Calls Tryz.prog 27 #[.string ⟨#[b]⟩, .int .i64 n] w fun e w' => e = .returned (.string (bs (List.replicate n b))) ∧ Below w.heap.size w w' := by
  have h := Tryz.strings_Repeat ⟨#[b]⟩ n w (by omega) (by show 1 * n ≤ _; omega)
  have e : (⟨#[b]⟩ : ByteArray).data.toList = [b] := rfl
  rw [e, repeat_one] at h
  exact h
theorem noughts_any (n : Nat) (hn : n ≤ 1073741824) (w : World) :
    Calls Tryz.prog 102 #[.int .i64 n] w fun e w' => e = .returned (.string (bs (Seal.noughts n))) ∧ Below w.heap.size w w' := by
  have H := Lib.hid (repeat_any 0 n hn w)
  go_enter Tryz.func102, Tryz.ntmps102
  go_wp2_with fail
  refine H.out.mono ?_; rintro e w1 ⟨rfl, b1⟩
  go_wp2
  go_ret
  exact ⟨rfl, b1⟩
theorem stamp_arg (g i : Nat) (s : ByteArray) (n : Int) (hn : n < 26 ∨ 65536 < n) (w : World) :
    Calls Tryz.prog 66 #[.int .u64 g, .int .u32 i, .string s, .int .i64 n] w fun e w' => e = .returned (.tuple #[.string ⟨#[]⟩, .int .i64 2]) ∧ Below w.heap.size w w' := by
  by_cases h : n < 26
  · go_enter Tryz.func66, Tryz.ntmps66
    go_wp2
    go_ret2
    exact ⟨rfl, Below.refl _ _⟩
  · have h2 : 65536 < n := by omega
    go_enter Tryz.func66, Tryz.ntmps66
    go_wp2
    go_ret2
    exact ⟨rfl, Below.refl _ _⟩
theorem stamp_long (g i : Nat) (s : ByteArray) (n : Nat) (h1 : 26 ≤ n) (h2 : n ≤ 65536) (hs : n < s.size + 26) (hm : s.size ≤ 1073741824) (w : World) :
    Calls Tryz.prog 66 #[.int .u64 g, .int .u32 i, .string s, .int .i64 n] w fun e w' => e = .returned (.tuple #[.string ⟨#[]⟩, .int .i64 3]) ∧ Below w.heap.size w w' := by
  have h3 : (n : Int) - 26 < (s.size : Int) := by omega
  go_enter Tryz.func66, Tryz.ntmps66
  go_wp2
  go_ret2
  exact ⟨rfl, Below.refl _ _⟩
set_option maxHeartbeats 1000000 in
theorem stamp_fits (g i : Nat) (s : ByteArray) (d : Nat) (h2 : 26 + s.size + d ≤ 65536) (w : World) :
    Calls Tryz.prog 66 #[.int .u64 g, .int .u32 i, .string s, .int .i64 (26 + s.size + d : Nat)] w fun e w' => e = .returned (.tuple #[.string (bs (Seal.sheet g i s.data.toList d)), .int .i64 0]) ∧ Below w.heap.size w w' := by
  obtain ⟨n, hn⟩ : ∃ n, n = 26 + s.size + d := ⟨_, rfl⟩
  rw [← hn]
  have h3 : ¬ (n : Int) - 26 < (s.size : Int) := by omega
  have h4 : ((n : Int) - 26) - (s.size : Int) = (d : Int) := by omega
  have hn1 : 26 ≤ n := by omega
  have hn2 : n ≤ 65536 := by omega
  have hl : s.data.toList.length = s.size := (Lib.size_eq s).symm
  have H1 := Lib.hid (u64_any w.heap.size g (some []) (newW w) (Wr.new w) (by simp [wlen]))
  have e1 : more (some []) (be 8 g) = some (be 8 g) := rfl
  rw [e1] at H1
  have H2 := Lib.hid (fun w' h => u32_any w.heap.size i (some (be 8 g)) w' h (by simp [wlen, be_length]))
  have e2 : more (some (be 8 g)) (be 4 i) = some (be 8 g ++ be 4 i) := rfl
  rw [e2] at H2
  have H3 := Lib.hid (fun w' h => text_any w.heap.size s (some (be 8 g ++ be 4 i)) w' h (by simp [wlen, be_length]; omega))
  have e3 : moreText (some (be 8 g ++ be 4 i)) s.data.toList = some (be 8 g ++ be 4 i ++ (be 2 s.data.toList.length ++ s.data.toList)) := by
    unfold moreText
    rw [if_neg (by omega)]; rfl
  rw [e3] at H3
  have H4 := Lib.hid (fun w' => noughts_any d (by omega) w')
  have l1 : (be 8 g ++ be 4 i ++ (be 2 s.data.toList.length ++ s.data.toList)).length = 14 + s.size := by simp [be_length, hl]; omega
  have ef : Seal.sheet g i s.data.toList d = be 8 g ++ be 4 i ++ (be 2 s.data.toList.length ++ s.data.toList) ++ Seal.noughts d ++ be 4 i ++ be 8 g := by simp [Seal.sheet]
  rw [ef]
  generalize be 8 g ++ be 4 i ++ (be 2 s.data.toList.length ++ s.data.toList) = y at *
  have H5 := Lib.hid (fun w' h => raw_any w.heap.size (bs (Seal.noughts d)) (some y) w' h (by simp [wlen, bs_size, Seal.noughts_length, l1]; omega))
  have e5 : more (some y) (bs (Seal.noughts d)).data.toList = some (y ++ Seal.noughts d) := by rw [bs_list]; rfl
  rw [e5] at H5
  have l2 : (y ++ Seal.noughts d).length = 14 + s.size + d := by simp [l1, Seal.noughts_length]
  generalize y ++ Seal.noughts d = z at *
  have H6 := Lib.hid (fun w' h => u32_any w.heap.size i (some z) w' h (by simp [wlen, l2]; omega))
  have e6 : more (some z) (be 4 i) = some (z ++ be 4 i) := rfl
  rw [e6] at H6
  have H7 := Lib.hid (fun w' h => u64_any w.heap.size g (some (z ++ be 4 i)) w' h (by simp [wlen, l2, be_length]; omega))
  have e7 : more (some (z ++ be 4 i)) (be 8 g) = some (z ++ be 4 i ++ be 8 g) := rfl
  rw [e7] at H7
  have H8 := Lib.hid (fun w' h => bytes_any w.heap.size (some (z ++ be 4 i ++ be 8 g)) w' h (by simp [wlen, l2, be_length]; omega))
  have HB := Lib.hid (newW_below w)
  have HN := Lib.hid hn
  clear e1 e2 e3 e5 e6 e7 ef l1 l2 hl hn h2
  generalize z ++ be 4 i ++ be 8 g = q at *
  go_enter Tryz.func66, Tryz.ntmps66
  go_wp2_with fail
  refine H1.out.mono ?_; rintro e w1 ⟨rfl, a1, g1⟩
  have A1 := Lib.hid a1; have B1 := Lib.hid (HB.out.trans (below_of_grow g1 (by simp [newW]) (Nat.le_refl _))); clear a1 g1
  go_wp2_with fail
  refine (H2.out _ A1.out).mono ?_; rintro e w2 ⟨rfl, a1, g1⟩
  have A2 := Lib.hid a1; have B2 := Lib.hid (B1.out.trans (below_of_grow g1 B1.out.size (Nat.le_refl _))); clear a1 g1
  go_wp2_with fail
  refine (H3.out _ A2.out).mono ?_; rintro e w3 ⟨rfl, a1, g1⟩
  have A3 := Lib.hid a1; have B3 := Lib.hid (B2.out.trans (below_of_grow g1 B2.out.size (Nat.le_refl _))); clear a1 g1
  go_wp2_with fail
  refine (H4.out _).mono ?_; rintro e w4 ⟨rfl, b4⟩
  have A4 := Lib.hid (A3.out.below b4); have B4 := Lib.hid (B3.out.trans (b4.mono B3.out.size)); clear b4
  go_wp2_with fail
  refine (H5.out _ A4.out).mono ?_; rintro e w5 ⟨rfl, a1, g1⟩
  have A5 := Lib.hid a1; have B5 := Lib.hid (B4.out.trans (below_of_grow g1 B4.out.size (Nat.le_refl _))); clear a1 g1
  go_wp2_with fail
  refine (H6.out _ A5.out).mono ?_; rintro e w6 ⟨rfl, a1, g1⟩
  have A6 := Lib.hid a1; have B6 := Lib.hid (B5.out.trans (below_of_grow g1 B5.out.size (Nat.le_refl _))); clear a1 g1
  go_wp2_with fail
  refine (H7.out _ A6.out).mono ?_; rintro e w7 ⟨rfl, a1, g1⟩
  have A7 := Lib.hid a1; have B7 := Lib.hid (B6.out.trans (below_of_grow g1 B6.out.size (Nat.le_refl _))); clear a1 g1
  go_wp2_with fail
  refine (H8.out _ A7.out).mono ?_; rintro e w8 ⟨rfl, b8⟩
  have B8 := Lib.hid (B7.out.trans (b8.mono B7.out.size)); clear b8
  have t1 : (told (some q)).1 = q := rfl
  have t2 : (told (some q)).2 = 0 := rfl
  rw [t1, t2]; clear t1 t2
  go_wp2
  go_ret2
  exact ⟨rfl, B8.out⟩
theorem stamp_any (g i : Nat) (s : ByteArray) (n : Int) (hs : s.size ≤ 1073741824) (w : World) :
    Calls Tryz.prog 66 #[.int .u64 g, .int .u32 i, .string s, .int .i64 n] w fun e w' => e = .returned (.tuple #[.string (bs (Seal.stamp g i s.data.toList n).1), .int .i64 (Seal.stamp g i s.data.toList n).2]) ∧ Below w.heap.size w w' := by
  unfold Seal.stamp
  by_cases h : n < 26 ∨ 65536 < n
  · rw [if_pos h]
    exact stamp_arg g i s n h w
  · rw [if_neg h]
    obtain ⟨k, rfl⟩ : ∃ k : Nat, n = (k : Int) := ⟨n.toNat, by omega⟩
    rw [Int.toNat_natCast, ← Lib.size_eq]
    by_cases h0 : (k : Int) - 26 < (s.size : Int)
    · rw [if_pos h0]
      exact stamp_long g i s k (by omega) (by omega) (by omega) hs w
    · rw [if_neg h0]
      have hf := stamp_fits g i s (k - 26 - s.size) (by omega) w
      rw [show 26 + s.size + (k - 26 - s.size) = k by omega] at hf
      exact hf
end Go.Proofs.YtlidieffaaicaaaGreat
