/- The laws' helpers, and some of the chapter's answers. Conditions: lengths below 2^30; the program's table as it is laid. -/
import Derived.Test.YtmjgbafoemdlpaaDoorSealB
import Derived.Test.YtmjgbafoemdlpaaDoorSealC
import Derived.Test.YtmjgbafoemdlpaaDoorSealF
import Derived.Test.YtmjgbafoemdlpaaDoorSealK
namespace Go.Proofs.YtmjgbafoemdlpaaDoor
open Go.ChangeShapes Go.WideShapes Go.RowKit Go.Codec
set_option maxRecDepth 100000
set_option linter.unusedVariables false
theorem sealed_any (s : ByteArray) (l : List UInt8) (hs : s.size ≤ 1073741824) (he : (Seal.sealL s.data.toList).1 = l) (w : World) (ht : Laid w) :
    Calls Tryd.prog 21 #[.string s] w fun e w' => e = .returned (.string (bs l)) ∧ Below w.heap.size w w' := by
  have H := seal_any s hs w ht
  rw [he] at H
  generalize (Seal.sealL s.data.toList).2 = x at H
  replace H := Lib.hid H
  clear he ht
  go_enter Tryd.func21, Tryd.ntmps21
  go_wp2_with fail
  refine H.out.mono ?_; rintro e w1 ⟨rfl, b1⟩
  go_wp2
  go_ret
  exact ⟨rfl, b1⟩
theorem fails_true (s : ByteArray) (x : Int) (hs : s.size ≤ 1073741824) (he : Seal.opn s.data.toList = ([], [], x)) (w : World) (ht : Laid w) :
    Calls Tryd.prog 22 #[.string s, .int .i64 x] w fun e w' => e = .returned (.bool true) ∧ Below w.heap.size w w' := by
  have H := open_any s hs w ht
  rw [he] at H
  have e0 : bs [] = ⟨#[]⟩ := rfl
  simp only [e0] at H
  replace H := Lib.hid H
  clear he ht
  go_enter Tryd.func22, Tryd.ntmps22
  go_wp2_with fail
  refine H.out.mono ?_; rintro e w1 ⟨rfl, b1⟩
  go_wp2
  go_ret
  exact ⟨by simp, b1⟩
theorem stamped_any (g i : Nat) (s : ByteArray) (n : Int) (l : List UInt8) (hs : s.size ≤ 1073741824) (he : (Seal.stamp g i s.data.toList n).1 = l) (w : World) :
    Calls Tryd.prog 23 #[.agg #[.int .u64 g, .int .u32 i], .string s, .int .i64 n] w fun e w' => e = .returned (.string (bs l)) ∧ Below w.heap.size w w' := by
  have H := fun w => stamp_any g i s n hs w
  rw [he] at H
  generalize (Seal.stamp g i s.data.toList n).2 = x at H
  replace H := Lib.hid H
  have HB := Lib.hid ((Below.refl w.heap.size w).alloc (Nat.le_refl _) (.cells #[.int .u64 g, .int .u32 i] 38))
  clear he
  go_enter Tryd.func23, Tryd.ntmps23
  go_wp2_with fail
  refine (H.out _).mono ?_; rintro e w1 ⟨rfl, b1⟩
  have B1 := Lib.hid (HB.out.trans (b1.mono HB.out.size)); clear b1
  go_wp2
  go_ret
  exact ⟨rfl, B1.out⟩
theorem none_true (s : ByteArray) (x : Int) (hs : s.size ≤ 1073741824) (he : Seal.unstamp s.data.toList = (0, 0, [], x)) (w : World) :
    Calls Tryd.prog 24 #[.string s, .int .i64 x] w fun e w' => e = .returned (.bool true) ∧ Below w.heap.size w w' := by
  have H := un_any s hs w
  rw [he] at H
  have e0 : bs [] = ⟨#[]⟩ := rfl
  have e1 : ((0 : Nat) : Int) = 0 := rfl
  simp only [e0, e1] at H
  replace H := Lib.hid H
  clear he
  go_enter Tryd.func24, Tryd.ntmps24
  go_wp2_with fail
  refine H.out.mono ?_; rintro e w1 ⟨rfl, b1⟩
  go_wp2
  go_ret
  exact ⟨by simp, b1⟩
theorem padded_any (s : ByteArray) (n : Int) (l : List UInt8) (hs : s.size ≤ 1073741824) (he : Seal.pad s.data.toList n = (l, 0)) (w : World) :
    Calls Tryd.prog 25 #[.string s, .int .i64 n] w fun e w' => e = .returned (.string (bs l)) ∧ Below w.heap.size w w' := by
  have H := pad_any s n hs w
  rw [he] at H
  replace H := Lib.hid H
  clear he
  go_enter Tryd.func25, Tryd.ntmps25
  go_wp2_with fail
  refine H.out.mono ?_; rintro e w1 ⟨rfl, b1⟩
  go_wp2
  go_ret
  exact ⟨rfl, b1⟩
theorem padded_none (s : ByteArray) (n : Int) (hs : s.size ≤ 1073741824) (he : Seal.pad s.data.toList n = ([], 2)) (w : World) :
    Calls Tryd.prog 25 #[.string s, .int .i64 n] w fun e w' => e = .returned (.string ⟨#[110, 111, 110, 101]⟩) ∧ Below w.heap.size w w' := by
  have H := pad_any s n hs w
  rw [he] at H
  replace H := Lib.hid H
  clear he
  go_enter Tryd.func25, Tryd.ntmps25
  go_wp2_with fail
  refine H.out.mono ?_; rintro e w1 ⟨rfl, b1⟩
  go_wp2
  go_ret
  exact ⟨rfl, b1⟩
theorem few_none (l : List UInt8) (h : l.length < 26) : Seal.unstamp l = (0, 0, [], 10) := by unfold Seal.unstamp; rw [if_pos h]
set_option maxHeartbeats 1000000 in
theorem works_any (w : World) (ht : Laid w) :
    Calls Tryd.prog 10 #[] w fun e w' => e = .returned (.bool true) ∧ Below w.heap.size w w' := by
  have H1 := Lib.hid (sealed_any ⟨#[97]⟩ (Seal.body [97]) (by decide) rfl w ht)
  have hap : bs (Seal.body [97]) ++ ⟨#[120, 121]⟩ = bs (Seal.body [97] ++ [120, 121]) := bs_append _ [120, 121]
  have hbl : (Seal.body [97]).length = 7 := Seal.body_length [97]
  have hsz : ¬ 9223372036854775807 < (bs (Seal.body [97])).size + (ByteArray.mk #[120, 121]).size := by rw [bs_size, hbl]; decide
  have ho := Seal.open_body [97] [120, 121] (by decide)
  have H2 := Lib.hid (fun w' h => open_any (bs (Seal.body [97] ++ [120, 121])) (by rw [bs_size, List.length_append, hbl]; decide) w' h)
  rw [bs_list, ho] at H2
  have e1 : bs [97] = ⟨#[97]⟩ := rfl
  have e2 : bs [120, 121] = ⟨#[120, 121]⟩ := rfl
  simp only [e1, e2] at H2
  have H3 := Lib.hid (fun w' h => fails_true ⟨#[]⟩ 10 (by decide) rfl w' h)
  have H4 := Lib.hid (fun w' => padded_any ⟨#[97, 98, 99]⟩ 4 [97, 98, 99, 0] (by decide) (by decide) w')
  have e3 : bs [97, 98, 99, 0] = ⟨#[97, 98, 99, 0]⟩ := rfl
  rw [e3] at H4
  have H5 := Lib.hid (fun w' => repeat_any 0 25 (by decide) w')
  have H6 := Lib.hid (fun w' => none_true (bs (List.replicate 25 0)) 10 (by rw [bs_size]; decide) (by rw [bs_list]; exact few_none _ (by decide)) w')
  have H7 := Lib.hid (fun w' => stamped_any 1 2 ⟨#[97]⟩ 28 (Seal.sheet 1 2 [97] 1) (by decide) (by rfl) w')
  have h28 : (bs (Seal.sheet 1 2 [97] 1)).size = 28 := by rw [bs_size]; rfl
  generalize Seal.sheet 1 2 [97] 1 = q at *
  generalize Seal.body [97] ++ [120, 121] = z at *
  generalize Seal.body [97] = y at *
  generalize bs (List.replicate 25 0) = r25 at *
  have HT := Lib.hid ht
  clear ht ho e1 e2 e3 hbl
  go_enter Tryd.func10, Tryd.ntmps10
  go_wp2_with fail
  refine H1.out.mono ?_; rintro e w1 ⟨rfl, b1⟩
  have B1 := Lib.hid b1; clear b1
  go_wp2_with fail
  refine (H2.out _ (HT.out.later B1.out)).mono ?_; rintro e w2 ⟨rfl, b⟩
  have B2 := Lib.hid (B1.out.trans (b.mono B1.out.size)); clear b
  go_wp2_with fail
  refine (H3.out _ (HT.out.later B2.out)).mono ?_; rintro e w3 ⟨rfl, b⟩
  have B3 := Lib.hid (B2.out.trans (b.mono B2.out.size)); clear b
  go_wp2_with fail
  refine (H4.out _).mono ?_; rintro e w4 ⟨rfl, b⟩
  have B4 := Lib.hid (B3.out.trans (b.mono B3.out.size)); clear b
  go_wp2_with fail
  refine (H5.out _).mono ?_; rintro e w5 ⟨rfl, b⟩
  have B5 := Lib.hid (B4.out.trans (b.mono B4.out.size)); clear b
  go_wp2_with fail
  refine (H6.out _).mono ?_; rintro e w6 ⟨rfl, b⟩
  have B6 := Lib.hid (B5.out.trans (b.mono B5.out.size)); clear b
  go_wp2_with fail
  refine (H7.out _).mono ?_; rintro e w7 ⟨rfl, b⟩
  have B7 := Lib.hid (B6.out.trans (b.mono B6.out.size)); clear b
  go_wp2
  go_ret
  exact ⟨rfl, B7.out⟩
end Go.Proofs.YtmjgbafoemdlpaaDoor
