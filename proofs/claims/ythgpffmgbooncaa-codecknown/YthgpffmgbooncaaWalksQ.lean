/- The chapter's examples, walked. Conditions: none. -/
import Derived.Test.YthgpffmgbooncaaWalksO
namespace Go.Proofs.Ythgpffmgbooncaa
open Go.ChangeShapes Go.WideShapes Go.RowKit Go.Codec
theorem Rd.apart {w w' : World} {r g : Nat} {x : R} (h : Rd w r x) (hb : w.grownBy w' (some g)) (hne : r ≠ g) : Rd w' r x := Is.kept h hb (by intro e; injection e with e; exact hne e)
set_option maxHeartbeats 8000000 in
set_option maxRecDepth 100000 in
theorem known (w : World) : Calls Try.prog 5 #[] w fun e w' => e = .returned (.bool true) ∧ Below w.heap.size w w' := by
  have HB := Lib.hid ((Below.refl _ w).alloc (Nat.le_refl _) (.cells #[.pointer none, .int .i64 0, .int .i64 0] 29))
  have HW := Lib.hid (Wr.new w)
  have HA := Lib.hid awake_any
  go_enter Try.func5, Try.ntmps5
  go_wp2_with fail
  refine (u8_any w.heap.size 1 (by decide) (some []) _ HW.out (by decide)).mono ?_
  rintro e w1 ⟨rfl, h1, g1⟩
  have HW' := Lib.hid h1; have HB' := Lib.hid (HB.out.trans (below_of_grow g1 (by simp) (Nat.le_refl _)))
  clear h1 g1 HW HB
  rename Hid (Wr _ _ _) => HW
  rename Hid (Below _ _ _) => HB
  go_wp2_with fail
  refine (u16_any w.heap.size 258 (some [1]) _ HW.out (by decide)).mono ?_
  rintro e w1 ⟨rfl, h1, g1⟩
  have HW' := Lib.hid h1; have HB' := Lib.hid (HB.out.trans (below_of_grow g1 HB.out.size (Nat.le_refl _)))
  clear h1 g1 HW HB
  rename Hid (Wr _ _ _) => HW
  rename Hid (Below _ _ _) => HB
  go_wp2_with fail
  refine (u32_any w.heap.size 3 (some [1, 1, 2]) _ HW.out (by decide)).mono ?_
  rintro e w1 ⟨rfl, h1, g1⟩
  have HW' := Lib.hid h1; have HB' := Lib.hid (HB.out.trans (below_of_grow g1 HB.out.size (Nat.le_refl _)))
  clear h1 g1 HW HB
  rename Hid (Wr _ _ _) => HW
  rename Hid (Below _ _ _) => HB
  go_wp2_with fail
  refine (text_any w.heap.size ⟨#[97, 98]⟩ (some [1, 1, 2, 0, 0, 0, 3]) _ HW.out (by decide)).mono ?_
  rintro e w1 ⟨rfl, h1, g1⟩
  have HW' := Lib.hid h1; have HB' := Lib.hid (HB.out.trans (below_of_grow g1 HB.out.size (Nat.le_refl _)))
  clear h1 g1 HW HB
  rename Hid (Wr _ _ _) => HW
  rename Hid (Below _ _ _) => HB
  go_wp2_with fail
  refine (raw_any w.heap.size ⟨#[99]⟩ (some [1, 1, 2, 0, 0, 0, 3, 0, 2, 97, 98]) _ HW.out (by decide)).mono ?_
  rintro e w1 ⟨rfl, h1, g1⟩
  have HW' := Lib.hid h1; have HB' := Lib.hid (HB.out.trans (below_of_grow g1 HB.out.size (Nat.le_refl _)))
  clear h1 g1 HW HB
  rename Hid (Wr _ _ _) => HW
  rename Hid (Below _ _ _) => HB
  go_wp2_with fail
  refine (bytes_any w.heap.size (some [1, 1, 2, 0, 0, 0, 3, 0, 2, 97, 98, 99]) _ HW.out (by decide)).mono ?_
  rintro e w1 ⟨rfl, h1⟩
  rw [show bs (told (some [1, 1, 2, 0, 0, 0, 3, 0, 2, 97, 98, 99])).1 = ⟨#[1, 1, 2, 0, 0, 0, 3, 0, 2, 97, 98, 99]⟩ from rfl, show (told (some [1, 1, 2, 0, 0, 0, 3, 0, 2, 97, 98, 99])).2 = 0 from rfl]
  have hw2 : Wr w1 w.heap.size (some [1, 1, 2, 0, 0, 0, 3, 0, 2, 97, 98, 99]) := Wr.below HW.out h1
  have hb2 := HB.out.trans (h1.mono HB.out.size)
  obtain ⟨Z, hZ, hcv⟩ := zeros_text 65536 w1
  have hmk : (Instr.makeSlice 60 (.int .i64 65536) (.int .i64 65536)).run Try.prog w1 = .ok (.slice (some ⟨w1.heap.size, 0, none⟩) 65536 65536) (mk w1 65536) := make_run 65536 (by omega) w1
  have hbm : Below w1.heap.size w1 (mk w1 65536) := (Below.refl _ w1).alloc (Nat.le_refl _) _
  generalize mk w1 65536 = v at *
  have hw3 := hw2.below hbm
  have hb3 := hb2.trans (hbm.mono hb2.size)
  clear h1 HW HB hw2 hb2 hbm
  have HT := Lib.hid (text_long w.heap.size Z (by omega) (by omega) _ v hw3)
  have HE := Lib.hid (show moreText (some [1, 1, 2, 0, 0, 0, 3, 0, 2, 97, 98, 99]) Z.data.toList = none by unfold moreText; rw [← Lib.size_eq, if_pos (by omega)])
  have HB := Lib.hid hb3
  clear hw3 hb3 hZ
  go_wp2_with fail
  refine HT.out.mono ?_
  rintro e w2 ⟨rfl, h1, g1⟩
  rw [HE.out] at h1
  have HW := Lib.hid h1; have HB' := Lib.hid (HB.out.trans (below_of_grow g1 HB.out.size (Nat.le_refl _)))
  clear h1 g1 HB HT HE hcv hmk
  rename Hid (Below _ _ _) => HB
  go_wp2_with fail
  refine (u8_any w.heap.size 1 (by decide) none _ HW.out (by decide)).mono ?_
  rintro e w1 ⟨rfl, h1, g1⟩
  have HW' := Lib.hid h1; have HB' := Lib.hid (HB.out.trans (below_of_grow g1 HB.out.size (Nat.le_refl _)))
  clear h1 g1 HW HB
  rename Hid (Wr _ _ _) => HW
  rename Hid (Below _ _ _) => HB
  go_wp2_with fail
  refine (bytes_any w.heap.size none _ HW.out (by decide)).mono ?_
  rintro e w3 ⟨rfl, h1⟩
  rw [show bs (told none).1 = ⟨#[]⟩ from rfl, show (told none).2 = 3 from rfl]
  have HB' := Lib.hid (HB.out.trans (h1.mono HB.out.size))
  clear h1 HB HW
  rename Hid (Below _ _ _) => HB
  go_wp2_with fail
  refine (new_any ⟨#[1, 2, 3]⟩ (by decide) _).mono ?_
  rintro e va ⟨a, rfl, hr, h1, h2⟩
  have Ha' := Lib.hid h1
  have HB' := Lib.hid (HB.out.trans (h2.mono HB.out.size))
  have Ga := Lib.hid (Nat.le_trans HB.out.size hr)
  clear h1 h2 hr HB
  have HB := HB'; clear HB'
  have Ha := Ha'; clear Ha'
  go_wp2_with fail
  refine (new_any ⟨#[0, 2, 97]⟩ (by decide) _).mono ?_
  rintro e vb ⟨b, rfl, hr, h1, h2⟩
  have Ha' := Lib.hid (Rd.below Ha.out h2)
  have Nab : a ≠ b := by have := Is.lt Ha.out; omega
  have Hb' := Lib.hid h1
  have HB' := Lib.hid (HB.out.trans (h2.mono HB.out.size))
  have Gb := Lib.hid (Nat.le_trans HB.out.size hr)
  clear h1 h2 hr HB Ha
  have HB := HB'; clear HB'
  have Ha := Ha'; clear Ha'
  have Hb := Hb'; clear Hb'
  have Mab := Lib.hid Nab; clear Nab
  go_wp2_with fail
  refine (new_any ⟨#[0, 2, 97, 98, 99]⟩ (by decide) _).mono ?_
  rintro e vc ⟨c, rfl, hr, h1, h2⟩
  have Ha' := Lib.hid (Rd.below Ha.out h2)
  have Nac : a ≠ c := by have := Is.lt Ha.out; omega
  have Hb' := Lib.hid (Rd.below Hb.out h2)
  have Nbc : b ≠ c := by have := Is.lt Hb.out; omega
  have Hc' := Lib.hid h1
  have HB' := Lib.hid (HB.out.trans (h2.mono HB.out.size))
  have Gc := Lib.hid (Nat.le_trans HB.out.size hr)
  clear h1 h2 hr HB Ha Hb
  have HB := HB'; clear HB'
  have Ha := Ha'; clear Ha'
  have Hb := Hb'; clear Hb'
  have Hc := Hc'; clear Hc'
  have Mac := Lib.hid Nac; clear Nac
  have Mbc := Lib.hid Nbc; clear Nbc
  go_wp2_with fail
  refine (ru16_any a ⟨[1, 2, 3], 0⟩ (by decide) _ Ha.out).mono ?_
  rintro e w4 ⟨rfl, h1, g1⟩
  rw [show val ((⟨[1, 2, 3], 0⟩ : R).take 2) = 258 from rfl]
  have Hb' := Lib.hid (Rd.apart Hb.out g1 (Ne.symm Mab.out))
  have Hc' := Lib.hid (Rd.apart Hc.out g1 (Ne.symm Mac.out))
  have Ha' := Lib.hid h1
  have HB' := Lib.hid (HB.out.trans (below_of_grow g1 HB.out.size Ga.out))
  clear h1 g1 HB Ha Hb Hc
  have HB := HB'; clear HB'
  have Hb := Hb'; clear Hb'
  have Hc := Hc'; clear Hc'
  have Ha := Ha'; clear Ha'
  go_wp2_with fail
  refine (ru16_any a ⟨[3], 0⟩ (by decide) _ Ha.out).mono ?_
  rintro e w4 ⟨rfl, h1, g1⟩
  rw [show val ((⟨[3], 0⟩ : R).take 2) = 0 from rfl]
  have Hb' := Lib.hid (Rd.apart Hb.out g1 (Ne.symm Mab.out))
  have Hc' := Lib.hid (Rd.apart Hc.out g1 (Ne.symm Mac.out))
  have Ha' := Lib.hid h1
  have HB' := Lib.hid (HB.out.trans (below_of_grow g1 HB.out.size Ga.out))
  clear h1 g1 HB Ha Hb Hc
  have HB := HB'; clear HB'
  have Hb := Hb'; clear Hb'
  have Hc := Hc'; clear Hc'
  have Ha := Ha'; clear Ha'
  go_wp2_with fail
  refine (ru8_any a ⟨[], 10⟩ (by decide) _ Ha.out).mono ?_
  rintro e w4 ⟨rfl, h1, g1⟩
  rw [show val ((⟨[], 10⟩ : R).take 1) = 0 from rfl]
  have Hb' := Lib.hid (Rd.apart Hb.out g1 (Ne.symm Mab.out))
  have Hc' := Lib.hid (Rd.apart Hc.out g1 (Ne.symm Mac.out))
  have Ha' := Lib.hid h1
  have HB' := Lib.hid (HB.out.trans (below_of_grow g1 HB.out.size Ga.out))
  clear h1 g1 HB Ha Hb Hc
  have HB := HB'; clear HB'
  have Hb := Hb'; clear Hb'
  have Hc := Hc'; clear Hc'
  have Ha := Ha'; clear Ha'
  go_wp2_with fail
  refine (err_any a ⟨[], 10⟩ _ Ha.out).mono ?_
  rintro e w4 ⟨rfl, rfl⟩
  skip
  go_wp2_with fail
  refine (rest_any a ⟨[], 10⟩ _ Ha.out).mono ?_
  rintro e w4 ⟨rfl, rfl⟩
  rw [show bs (⟨[], 10⟩ : R).rest = ⟨#[]⟩ from rfl]
  go_wp2_with fail
  refine (rtext_any b ⟨[0, 2, 97], 0⟩ (by decide) _ Hb.out).mono ?_
  rintro e w4 ⟨rfl, h1, g1⟩
  rw [show bs (⟨[0, 2, 97], 0⟩ : R).text = ⟨#[]⟩ from rfl]
  have Hc' := Lib.hid (Rd.apart Hc.out g1 (Ne.symm Mbc.out))
  have Hb' := Lib.hid h1
  have HB' := Lib.hid (HB.out.trans (below_of_grow g1 HB.out.size Gb.out))
  clear h1 g1 HB Hb Hc
  have HB := HB'; clear HB'
  have Hc := Hc'; clear Hc'
  have Hb := Hb'; clear Hb'
  go_wp2_with fail
  refine (err_any b ⟨[], 10⟩ _ Hb.out).mono ?_
  rintro e w4 ⟨rfl, rfl⟩
  skip
  go_wp2_with fail
  refine (rtext_any c ⟨[0, 2, 97, 98, 99], 0⟩ (by decide) _ Hc.out).mono ?_
  rintro e w4 ⟨rfl, h1, g1⟩
  rw [show bs (⟨[0, 2, 97, 98, 99], 0⟩ : R).text = ⟨#[97, 98]⟩ from rfl]
  have Hc' := Lib.hid h1
  have HB' := Lib.hid (HB.out.trans (below_of_grow g1 HB.out.size Gc.out))
  clear h1 g1 HB Hc
  have HB := HB'; clear HB'
  have Hc := Hc'; clear Hc'
  go_wp2_with fail
  refine (rest_any c ⟨[99], 0⟩ _ Hc.out).mono ?_
  rintro e w4 ⟨rfl, rfl⟩
  rw [show bs (⟨[99], 0⟩ : R).rest = ⟨#[99]⟩ from rfl]
  go_wp2_with fail
  clear Ha Hb Hc Mab Mac Mbc
  refine (new_any ⟨#[97, 98, 99]⟩ (by decide) _).mono ?_
  rintro e vd ⟨d, rfl, hr, h1, h2⟩
  have Hd' := Lib.hid h1
  have HB' := Lib.hid (HB.out.trans (h2.mono HB.out.size))
  have Gd := Lib.hid (Nat.le_trans HB.out.size hr)
  clear h1 h2 hr HB
  have HB := HB'; clear HB'
  have Hd := Hd'; clear Hd'
  go_wp2_with fail
  refine (fixed_any d ⟨[97, 98, 99], 0⟩ 2 2 (.inr rfl) (by decide) _ Hd.out).mono ?_
  rintro e w4 ⟨rfl, h1, g1⟩
  rw [show bs ((⟨[97, 98, 99], 0⟩ : R).take 2) = ⟨#[97, 98]⟩ from rfl]
  have Hd' := Lib.hid h1
  have HB' := Lib.hid (HB.out.trans (below_of_grow g1 HB.out.size Gd.out))
  clear h1 g1 HB Hd
  have HB := HB'; clear HB'
  have Hd := Hd'; clear Hd'
  go_wp2_with fail
  refine (fixed_any d ⟨[99], 0⟩ 0 (-1) (.inl ⟨by decide, rfl⟩) (by decide) _ Hd.out).mono ?_
  rintro e w4 ⟨rfl, h1, g1⟩
  rw [show bs ((⟨[99], 0⟩ : R).take 0) = ⟨#[]⟩ from rfl]
  have Hd' := Lib.hid h1
  have HB' := Lib.hid (HB.out.trans (below_of_grow g1 HB.out.size Gd.out))
  clear h1 g1 HB Hd
  have HB := HB'; clear HB'
  have Hd := Hd'; clear Hd'
  go_wp2_with fail
  refine (err_any d ⟨[99], 0⟩ _ Hd.out).mono ?_
  rintro e w4 ⟨rfl, rfl⟩
  skip
  go_wp2_with fail
  refine (fixed_any d ⟨[99], 0⟩ 9 9 (.inr rfl) (by decide) _ Hd.out).mono ?_
  rintro e w4 ⟨rfl, h1, g1⟩
  rw [show bs ((⟨[99], 0⟩ : R).take 9) = ⟨#[]⟩ from rfl]
  have Hd' := Lib.hid h1
  have HB' := Lib.hid (HB.out.trans (below_of_grow g1 HB.out.size Gd.out))
  clear h1 g1 HB Hd
  have HB := HB'; clear HB'
  have Hd := Hd'; clear Hd'
  go_wp2_with fail
  refine (err_any d ⟨[], 10⟩ _ Hd.out).mono ?_
  rintro e w4 ⟨rfl, rfl⟩
  skip
  go_wp2_with fail
  clear Hd
  have HW := Lib.hid (Wr.new w4)
  have HB' := Lib.hid (HB.out.alloc HB.out.size (.cells #[.pointer none, .int .i64 0, .int .i64 0] 29))
  have hx := HB.out.size
  clear HB
  have HB := HB'; clear HB'
  refine (u64_any w4.heap.size 9223372036854775810 (some []) _ HW.out (by decide)).mono ?_
  rintro e w5 ⟨rfl, h1, g1⟩
  have HW' := Lib.hid h1
  have HB' := Lib.hid (HB.out.trans (below_of_grow g1 HB.out.size hx))
  clear h1 g1 HB HW
  have HB := HB'; clear HB'
  have HW := HW'; clear HW'
  go_wp2_with fail
  have hb8 : (bs (told (more (some []) (be 8 9223372036854775810))).1) = ⟨#[128, 0, 0, 0, 0, 0, 0, 2]⟩ := by kernel_rfl
  have hb9 : (told (more (some []) (be 8 9223372036854775810))).2 = 0 := rfl
  refine (bytes_any w4.heap.size _ _ HW.out (by simp [wlen, more, be_length])).mono ?_
  rintro e w6 ⟨rfl, h1⟩
  rw [hb8, hb9]
  have HB' := Lib.hid (HB.out.trans (h1.mono HB.out.size))
  clear h1 HB HW hb8 hb9
  have HB := HB'; clear HB'
  go_wp2_with fail
  refine (text_nil ⟨#[97]⟩ (by decide) _).mono ?_
  rintro e w7 ⟨rfl, h1⟩
  have HB' := Lib.hid (HB.out.trans (h1.mono HB.out.size))
  clear h1 HB
  have HB := HB'; clear HB'
  go_wp2_with fail
  refine (u8_nil 1 (by decide) _).mono ?_
  rintro e w8 ⟨rfl, h1⟩
  have HB' := Lib.hid (HB.out.trans (h1.mono HB.out.size))
  clear h1 HB
  have HB := HB'; clear HB'
  go_wp2_with fail
  refine (bytes_nil _).mono ?_
  rintro e w9 ⟨rfl, rfl⟩
  go_wp2_with fail
  refine (ru64_nil _).mono ?_
  rintro e w9 ⟨rfl, rfl⟩
  go_wp2_with fail
  refine (rtext_nil _).mono ?_
  rintro e w9 ⟨rfl, rfl⟩
  go_wp2_with fail
  refine (fixed_nil _ _).mono ?_
  rintro e w9 ⟨rfl, rfl⟩
  go_wp2_with fail
  refine (err_nil _).mono ?_
  rintro e w9 ⟨rfl, rfl⟩
  go_wp2_with fail
  refine (rest_nil _).mono ?_
  rintro e w9 ⟨rfl, rfl⟩
  go_wp2_with fail
  refine (HA.out _).mono ?_
  rintro e w9 ⟨rfl, h1⟩
  have HB' := Lib.hid (HB.out.trans (h1.mono HB.out.size))
  clear h1 HB
  go_wp2_with fail
  go_ret
  exact ⟨rfl, HB'.out⟩
end Go.Proofs.Ythgpffmgbooncaa
