/- The chapter's examples, walked. Conditions: the program's table as it is laid. -/
import Derived.Test.YtmjgbafoemdlpaaDoorSealM
namespace Go.Proofs.YtmjgbafoemdlpaaDoor
open Go.ChangeShapes Go.WideShapes Go.RowKit Go.Codec
set_option maxRecDepth 100000
set_option linter.unusedVariables false
theorem known_head (c : List UInt8) (h : c.length = 4) : (bs ([0, 1, 97] ++ c)).extract 0 3 = ⟨#[0, 1, 97]⟩ := by
  rw [bs_extract]
  simp [bs]
theorem known_sum : Seal.opn [0, 0, 0, 0, 0, 0] = ([], [], 9) := by decide +kernel
theorem known_26 : Seal.unstamp (List.replicate 26 0) = (0, 0, [], 0) := by
  have h := Seal.unstamp_sheet 0 0 [] 0 (by decide) (by decide) (by decide)
  have e : Seal.sheet 0 0 [] 0 = List.replicate 26 0 := by decide +kernel
  rw [e] at h
  exact h
theorem known_128 : Seal.unstamp (List.replicate 127 0 ++ [1]) = (0, 0, [], 4) := by
  unfold Seal.unstamp
  have hg : ¬ Seal.Good (List.replicate 127 0 ++ [1]) := fun h => absurd h.1 (by decide +kernel)
  rw [if_neg (by decide +kernel), if_neg (by decide +kernel), if_neg hg]
theorem known_long : Seal.sealL (List.replicate 65536 120) = ([], 3) := by
  unfold Seal.sealL
  rw [if_pos (by rw [List.length_replicate]; decide)]
set_option maxHeartbeats 4000000 in
theorem known (w : World) (ht : Laid w) :
    Calls Tryd.prog 9 #[] w fun e w' => e = .returned (.bool true) ∧ Below w.heap.size w w' := by
  have HT := Lib.hid ht
  have HW := Lib.hid (fun w' (hb : Below w.heap.size w w') => works_later ht hb)
  obtain ⟨c, hc, hcl⟩ : ∃ c, Seal.body [97] = [0, 1, 97] ++ c ∧ c.length = 4 := ⟨be 4 (Seal.sum (Seal.head [97])), rfl, be_length _ _⟩
  have S1 := Lib.hid (fun w' h => sealed_any ⟨#[97]⟩ (Seal.body [97]) (by decide) rfl w' h)
  rw [hc] at S1
  have hz : (bs ([0, 1, 97] ++ c)).size = 7 := by rw [bs_size, List.length_append, hcl]; rfl
  have hx := known_head c hcl
  obtain ⟨A, hA⟩ : ∃ A, A = bs ([0, 1, 97] ++ c) := ⟨_, rfl⟩
  rw [← hA] at S1 hz hx
  have F1 := Lib.hid (fun w' h => fails_true ⟨#[0, 1, 97]⟩ 10 (by decide) (by decide) w' h)
  have F2 := Lib.hid (fun w' h => fails_true ⟨#[0, 0, 0, 0, 0, 0]⟩ 9 (by decide) known_sum w' h)
  have P1 := Lib.hid (fun w' => padded_any ⟨#[97, 98, 99, 100]⟩ 4 [97, 98, 99, 100] (by decide) (by decide) w')
  have P2 := Lib.hid (fun w' => padded_any ⟨#[]⟩ 4 [] (by decide) (by decide) w')
  have P3 := Lib.hid (fun w' => padded_none ⟨#[97]⟩ 0 (by decide) (by decide) w')
  have P4 := Lib.hid (fun w' => padded_none ⟨#[97]⟩ 65537 (by decide) (by decide) w')
  have T1 := Lib.hid (fun w' => stamp_any 1 2 ⟨#[97]⟩ 26 (by decide) w')
  have T2 := Lib.hid (fun w' => stamp_any 1 2 ⟨#[]⟩ 25 (by decide) w')
  have R1 := Lib.hid (fun w' => repeat_any 120 65536 (by decide) w')
  have L1 := Lib.hid (fun w' h => seal_any (bs (List.replicate 65536 120)) (by rw [bs_size, List.length_replicate]; decide) w' h)
  have R2 := Lib.hid (fun w' => repeat_any 0 26 (by decide) w')
  have U1 := Lib.hid (fun w' => un_any (bs (List.replicate 26 0)) (by rw [bs_size, List.length_replicate]; decide) w')
  have T3 := Lib.hid (fun w' => stamped_any 1 2 ⟨#[97]⟩ 28 (Seal.sheet 1 2 [97] 1) (by decide) (by rfl) w')
  have R3 := Lib.hid (fun w' => repeat_any 0 127 (by decide) w')
  have N1 := Lib.hid (fun w' => none_true (bs (List.replicate 127 0 ++ [1])) 4 (by rw [bs_size, List.length_append, List.length_replicate]; decide) (by rw [bs_list]; exact known_128) w')
  have e1 : bs [97, 98, 99, 100] = ⟨#[97, 98, 99, 100]⟩ := rfl
  have e2 : bs [] = ⟨#[]⟩ := rfl
  have e3 : Seal.stamp 1 2 (ByteArray.mk #[97]).data.toList 26 = ([], 3) := by decide
  have e4 : Seal.stamp 1 2 (ByteArray.mk #[]).data.toList 25 = ([], 2) := by decide
  have e5 : bs (Seal.sheet 1 2 [97] 1) = ⟨#[0, 0, 0, 0, 0, 0, 0, 1, 0, 0, 0, 2, 0, 1, 97, 0, 0, 0, 0, 2, 0, 0, 0, 0, 0, 0, 0, 1]⟩ := by
    have e : Seal.sheet 1 2 [97] 1 = [0, 0, 0, 0, 0, 0, 0, 1, 0, 0, 0, 2, 0, 1, 97, 0, 0, 0, 0, 2, 0, 0, 0, 0, 0, 0, 0, 1] := by decide +kernel
    rw [e]; rfl
  have e6 : ((0 : Nat) : Int) = 0 := rfl
  rw [e1] at P1
  rw [e2] at P2
  rw [e3] at T1
  rw [e4] at T2
  simp only [e2] at T1 T2
  rw [bs_list, known_long] at L1
  rw [bs_list, known_26] at U1
  simp only [e2] at L1 U1
  rw [e5] at T3
  have hap : bs (List.replicate 127 0) ++ ⟨#[1]⟩ = bs (List.replicate 127 0 ++ [1]) := bs_append _ [1]
  have hsz : ¬ 9223372036854775807 < (bs (List.replicate 127 0)).size + (ByteArray.mk #[1]).size := by rw [bs_size, List.length_replicate]; decide
  generalize bs (List.replicate 127 0 ++ [1]) = q1 at *
  generalize bs (List.replicate 127 0) = q2 at *
  generalize bs (List.replicate 26 0) = q3 at *
  generalize bs (List.replicate 65536 120) = q4 at *
  clear hc hcl hA ht e1 e2 e3 e4 e5
  go_enter Tryd.func9, Tryd.ntmps9
  go_wp2_with fail
  refine (S1.out _ HT.out).mono ?_; rintro e w1 ⟨rfl, b⟩
  have B1 := Lib.hid b; clear b
  go_wp2_with fail
  refine (HW.out _ B1.out).mono ?_; rintro e w2 ⟨rfl, b⟩
  have B2 := Lib.hid b; clear b
  go_wp2_with fail
  refine (F1.out _ (HT.out.later B2.out)).mono ?_; rintro e w3 ⟨rfl, b⟩
  have B3 := Lib.hid (B2.out.trans (b.mono B2.out.size)); clear b
  go_wp2_with fail
  refine (F2.out _ (HT.out.later B3.out)).mono ?_; rintro e w4 ⟨rfl, b⟩
  have B4 := Lib.hid (B3.out.trans (b.mono B3.out.size)); clear b
  go_wp2_with fail
  refine (P1.out _).mono ?_; rintro e w5 ⟨rfl, b⟩
  have B5 := Lib.hid (B4.out.trans (b.mono B4.out.size)); clear b
  go_wp2_with fail
  refine (P2.out _).mono ?_; rintro e w6 ⟨rfl, b⟩
  have B6 := Lib.hid (B5.out.trans (b.mono B5.out.size)); clear b
  go_wp2_with fail
  refine (P3.out _).mono ?_; rintro e w7 ⟨rfl, b⟩
  have B7 := Lib.hid (B6.out.trans (b.mono B6.out.size)); clear b
  go_wp2_with fail
  refine (P4.out _).mono ?_; rintro e w8 ⟨rfl, b⟩
  have B8 := Lib.hid (B7.out.trans (b.mono B7.out.size)); clear b
  go_wp2_with fail
  refine (T1.out _).mono ?_; rintro e w9 ⟨rfl, b⟩
  have B9 := Lib.hid (B8.out.trans (b.mono B8.out.size)); clear b
  go_wp2_with fail
  refine (T2.out _).mono ?_; rintro e w10 ⟨rfl, b⟩
  have B10 := Lib.hid (B9.out.trans (b.mono B9.out.size)); clear b
  go_wp2_with fail
  refine (R1.out _).mono ?_; rintro e w11 ⟨rfl, b⟩
  have B11 := Lib.hid (B10.out.trans (b.mono B10.out.size)); clear b
  go_wp2_with fail
  refine (L1.out _ (HT.out.later B11.out)).mono ?_; rintro e w12 ⟨rfl, b⟩
  have B12 := Lib.hid (B11.out.trans (b.mono B11.out.size)); clear b
  go_wp2_with fail
  refine (R2.out _).mono ?_; rintro e w13 ⟨rfl, b⟩
  have B13 := Lib.hid (B12.out.trans (b.mono B12.out.size)); clear b
  go_wp2_with fail
  refine (U1.out _).mono ?_; rintro e w14 ⟨rfl, b⟩
  have B14 := Lib.hid (B13.out.trans (b.mono B13.out.size)); clear b
  go_wp2_with fail
  refine (T3.out _).mono ?_; rintro e w15 ⟨rfl, b⟩
  have B15 := Lib.hid (B14.out.trans (b.mono B14.out.size)); clear b
  go_wp2_with fail
  refine (R3.out _).mono ?_; rintro e w16 ⟨rfl, b⟩
  have B16 := Lib.hid (B15.out.trans (b.mono B15.out.size)); clear b
  go_wp2_with fail
  refine (N1.out _).mono ?_; rintro e w17 ⟨rfl, b⟩
  have B17 := Lib.hid (B16.out.trans (b.mono B16.out.size)); clear b
  go_wp2_with fail
  refine (HW.out _ B17.out).mono ?_; rintro e w18 ⟨rfl, b⟩
  have B18 := Lib.hid b; clear b
  go_wp2
  go_ret
  exact ⟨rfl, B18.out⟩
end Go.Proofs.YtmjgbafoemdlpaaDoor
