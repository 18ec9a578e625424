/- The law PathKnown. Conditions: none. -/
import Derived.Test.YtaiabcmgpkkfhaaWalksR
namespace Go.Proofs.Ytaiabcmgpkkfhaa
open Go.ChangeShapes Go.WideShapes Go.RowKit Go.Path
set_option maxRecDepth 100000
set_option linter.unusedVariables false
set_option linter.unusedSimpArgs false
def badL : List B := [[97], [97, 47, 98], [47, 97, 47], [47, 47], [47, 97, 47, 46, 46, 47, 98], [47, 46], [58, 47, 97], [115, 58, 116, 58, 47, 97], [47, 97, 47, 47, 49, 50, 51, 52, 53, 54, 55, 56, 57, 48, 49, 50, 51, 52, 53, 54, 55], [115, 47, 58, 47, 97], [47, 97, 0], [46, 46, 58, 47, 97], [47, 97, 47, 97, 47, 97, 47, 97, 47, 97, 47, 97, 47, 46, 46]]
theorem bad_all : ∀ x ∈ badL, parseE x = 4 ∧ x.length ≤ 1000 := by
  have : (badL.all fun x => decide (parseE x = 4 ∧ x.length ≤ 1000)) = true := by kernel_rfl
  intro x hx
  exact of_decide_eq_true (List.all_eq_true.1 this x hx)
theorem badL_len : badL.length = 13 := by kernel_rfl
theorem Rs.lit_at (w : World) (g : Nat) (hg : g = w.heap.size) (xs : List B) : Rs (w.alloc (.cells (xs.map str).toArray 9)) (some ⟨g, 0, none⟩) xs := by
  subst hg; exact Rs.lit w xs
theorem size_al (w : World) (o : Obj) : (w.alloc o).heap.size = w.heap.size + 1 := by simp
theorem al1 {a w : World} (h : Below a.heap.size a w) (o : Obj) : Below a.heap.size a (w.alloc o) := h.alloc h.size o
theorem tr1 {a w1 w2 : World} {o1 : Obj} (h : Below a.heap.size a w1) (b : Below (w1.alloc o1).heap.size (w1.alloc o1) w2) : Below a.heap.size a w2 := (al1 h _).trans (b.mono (al1 h _).size)
theorem tr2 {a w1 w2 : World} {o1 o2 : Obj} (h : Below a.heap.size a w1) (b : Below ((w1.alloc o1).alloc o2).heap.size ((w1.alloc o1).alloc o2) w2) : Below a.heap.size a w2 := tr1 (al1 h _) b
theorem tr3 {a w1 w2 : World} {o1 o2 o3 : Obj} (h : Below a.heap.size a w1) (b : Below (((w1.alloc o1).alloc o2).alloc o3).heap.size (((w1.alloc o1).alloc o2).alloc o3) w2) : Below a.heap.size a w2 := tr2 (al1 h _) b
theorem Rs.two1 (w : World) (xs ys : List B) : Rs ((w.alloc (.cells (xs.map str).toArray 9)).alloc (.cells (ys.map str).toArray 9)) (some ⟨w.heap.size, 0, none⟩) xs := (Rs.lit w xs).alloc _
theorem Rs.two2 (w : World) (xs ys : List B) : Rs ((w.alloc (.cells (xs.map str).toArray 9)).alloc (.cells (ys.map str).toArray 9)) (some ⟨w.heap.size + 1, 0, none⟩) ys := Rs.lit_at _ _ (size_al ..).symm _
theorem Rs.three1 (w : World) (xs ys zs : List B) : Rs (((w.alloc (.cells (xs.map str).toArray 9)).alloc (.cells (ys.map str).toArray 9)).alloc (.cells (zs.map str).toArray 9)) (some ⟨w.heap.size, 0, none⟩) xs := (Rs.two1 w xs ys).alloc _
theorem Rs.three2 (w : World) (xs ys zs : List B) : Rs (((w.alloc (.cells (xs.map str).toArray 9)).alloc (.cells (ys.map str).toArray 9)).alloc (.cells (zs.map str).toArray 9)) (some ⟨w.heap.size + 1, 0, none⟩) ys := (Rs.two2 w xs ys).alloc _
theorem Rs.three3 (w : World) (xs ys zs : List B) : Rs (((w.alloc (.cells (xs.map str).toArray 9)).alloc (.cells (ys.map str).toArray 9)).alloc (.cells (zs.map str).toArray 9)) (some ⟨w.heap.size + 2, 0, none⟩) zs := Rs.lit_at _ _ (by rw [size_al, size_al]) _
def GText (T : ByteArray) (E : Nat) (w : World) (e : Ending) (w' : World) : Prop := e = .returned (.tuple #[.string T, .int .i64 E]) ∧ Below w.heap.size w w'
set_option maxHeartbeats 4000000 in
theorem known_any (w : World) : Says 6 #[] true w := by
  have AW : Hid (∀ w, Says 9 #[] true w) := awake_any
  have I1 := Lib.hid (is_true ⟨#[47, 97, 47, 98]⟩ ⟨#[]⟩ ⟨#[97, 124, 98]⟩ (by decide) (by kernel_rfl) (by kernel_rfl) (by kernel_rfl))
  have I2 := Lib.hid (is_true ⟨#[115, 58, 47]⟩ ⟨#[115]⟩ ⟨#[]⟩ (by decide) (by kernel_rfl) (by kernel_rfl) (by kernel_rfl))
  have I3 := Lib.hid (is_true ⟨#[47, 97, 58, 98]⟩ ⟨#[]⟩ ⟨#[97, 58, 98]⟩ (by decide) (by kernel_rfl) (by kernel_rfl) (by kernel_rfl))
  have I4 := Lib.hid (is_true ⟨#[47, 49, 50, 51, 52, 53, 54, 55, 56, 57, 48, 49, 50, 51, 52, 53, 54, 47, 97, 47, 97, 47, 97, 47, 97, 47, 97]⟩ ⟨#[]⟩ ⟨#[49, 50, 51, 52, 53, 54, 55, 56, 57, 48, 49, 50, 51, 52, 53, 54, 124, 97, 124, 97, 124, 97, 124, 97, 124, 97]⟩ (by decide) (by kernel_rfl) (by kernel_rfl) (by kernel_rfl))
  have F1 := Lib.hid (fails_true ⟨#[47, 49, 50, 51, 52, 53, 54, 55, 56, 57, 48, 49, 50, 51, 52, 53, 54, 55]⟩ (by decide) 3 (by kernel_rfl) (by decide))
  have F2 := Lib.hid (fails_true ⟨#[47, 97, 47, 97, 47, 97, 47, 97, 47, 97, 47, 97, 47, 97]⟩ (by decide) 3 (by kernel_rfl) (by decide))
  have F4 := Lib.hid (fails_true ⟨#[49, 50, 51, 52, 53, 54, 55, 56, 57, 48, 49, 50, 51, 52, 53, 54, 55, 58, 47, 46, 46]⟩ (by decide) 3 (by kernel_rfl) (by decide))
  have RP1 := Lib.hid (fun w => Try.strings_Repeat ⟨#[47]⟩ 121 w (by decide) (by decide))
  have RP2 := Lib.hid (fun w => Try.strings_Repeat ⟨#[47]⟩ 120 w (by decide) (by decide))
  have F3 := Lib.hid (fails_true ⟨(Lib.repeatL (⟨#[47]⟩ : ByteArray).data.toList 121).toArray⟩ (of_decide_eq_true (by kernel_rfl)) 3 (by kernel_rfl) (by decide))
  have F5 := Lib.hid (fails_true ⟨(Lib.repeatL (⟨#[47]⟩ : ByteArray).data.toList 120).toArray⟩ (of_decide_eq_true (by kernel_rfl)) 4 (by kernel_rfl) (by decide))
  generalize (⟨(Lib.repeatL (⟨#[47]⟩ : ByteArray).data.toList 121).toArray⟩ : ByteArray) = r1 at *
  generalize (⟨(Lib.repeatL (⟨#[47]⟩ : ByteArray).data.toList 120).toArray⟩ : ByteArray) = r2 at *
  have FB := Lib.hid (fun (x : B) (hx : x ∈ badL) w => fails_true (bs x) (by rw [bs_size]; exact (bad_all x hx).2) 4 (by rw [bs_data]; exact (bad_all x hx).1) (by decide) w)
  have T1 : Hid (∀ w, Calls Try.prog 16 #[.string ⟨#[]⟩, .slice none 0 0] w (GText ⟨#[47]⟩ 0 w)) := fun w => text_any none [] 0 ⟨#[]⟩ (by simp) (by simp) (by simp) (by decide) w Rs.nil
  have T2 : Hid (∀ w, Calls Try.prog 16 #[.string ⟨#[115, 58]⟩, .slice none 0 0] w (GText ⟨#[]⟩ 4 w)) := fun w => text_any none [] 0 ⟨#[115, 58]⟩ (by simp) (by simp) (by simp) (by decide) w Rs.nil
  have T3 : Hid (∀ A w, Rs w A [[97], [97], [97], [97], [97], [97], [97]] → Calls Try.prog 16 #[.string ⟨#[]⟩, .slice A 7 7] w (GText ⟨#[]⟩ 3 w)) := fun A w h => text_any A [[97], [97], [97], [97], [97], [97], [97]] 7 ⟨#[]⟩ (by simp) (by simp) (by simp) (by decide) w h
  have T4 : Hid (∀ A w, Rs w A [[97], [97], [97], [97], [97], [97], []] → Calls Try.prog 16 #[.string ⟨#[]⟩, .slice A 7 7] w (GText ⟨#[]⟩ 4 w)) := fun A w h => text_any A [[97], [97], [97], [97], [97], [97], []] 7 ⟨#[]⟩ (by simp) (by simp) (by simp) (by decide) w h
  have U1 : Hid (∀ A w, Rs w A [[97], [98]] → Calls Try.prog 18 #[.slice A 2 2] w fun e w' => ∃ A c, e = .returned (.tuple #[.slice A 1 c, .string ⟨#[98]⟩]) ∧ Own w' w.heap.size A 1 c [[97]] ∧ Below w.heap.size w w') := fun A w h => up_any A [[97], [98]] 2 (by simp) (by simp) w h
  have U2 : Hid (∀ w, Calls Try.prog 18 #[.slice none 0 0] w fun e w' => ∃ A c, e = .returned (.tuple #[.slice A 0 c, .string ⟨#[]⟩]) ∧ Own w' w.heap.size A 0 c [] ∧ Below w.heap.size w w') := fun w => up_any none [] 0 (by simp) (by simp) w Rs.nil
  have M : Hid (∀ A F T w, Rs w A [[97], [98], [99]] → Rs w F [[97], [98]] → Rs w T [[120]] → Calls Try.prog 20 #[.slice A 3 3, .slice F 2 2, .slice T 1 1] w fun e w' => ∃ A c, e = .returned (.slice A 2 c) ∧ Own w' w.heap.size A 2 c [[120], [99]] ∧ Below w.heap.size w w') := fun A F T w h h2 h3 => move_any A F T [[97], [98], [99]] [[97], [98]] [[120]] 3 2 1 (by simp) (by simp) (by simp) (by simp) w h h2 h3
  have J : Hid (∀ A c w, 2 ≤ c → Rs w A [[120], [99]] → Calls Try.prog 27 #[.slice A 2 c, .string ⟨#[124]⟩] w fun e w' => e = .returned (.string ⟨#[120, 124, 99]⟩) ∧ Below w.heap.size w w') := fun A c w hc h => join_any A [[120], [99]] c 124 (by simp) hc (by decide) w h
  have WA : Hid (∀ A C w, Rs w A [[97]] → Rs w C [[97], [98]] → Says 21 #[.slice A 1 1, .slice C 2 2] true w) := fun A C w h h' => within_any A C [[97]] [[97], [98]] 1 2 (by simp) (by simp) (by simp) w h h'
  have WB : Hid (∀ A C w, Rs w A [[97], [98]] → Rs w C [[97]] → Says 21 #[.slice A 2 2, .slice C 1 1] false w) := fun A C w h h' => within_any A C [[97], [98]] [[97]] 2 1 (by simp) (by simp) (by simp) w h h'
  have WC : Hid (∀ C w, Rs w C [[97]] → Says 21 #[.slice none 0 0, .slice C 1 1] true w) := fun C w h' => within_any none C [] [[97]] 0 1 (by simp) (by simp) (by simp) w Rs.nil h'
  have N1 : Hid (∀ w, Calls Try.prog 13 #[.string ⟨#[97, 58, 98]⟩] w fun e w' => e = .returned (.bool true) ∧ w = w') := fun w => name_any ⟨#[97, 58, 98]⟩ (by decide) w
  have N2 : Hid (∀ w, Calls Try.prog 13 #[.string ⟨#[97, 47, 98]⟩] w fun e w' => e = .returned (.bool false) ∧ w = w') := fun w => name_any ⟨#[97, 47, 98]⟩ (by decide) w
  unfold GText at T1 T2 T3 T4
  have B0 := Lib.hid (Below.refl w.heap.size w)
  go_enter Try.func6, Try.ntmps6
  go_wp2_with fail
  refine (I1.out _).mono ?_; rintro e w1 ⟨rfl, b1⟩
  have B1 := Lib.hid (B0.out.trans (b1.mono B0.out.size)); clear b1
  go_wp2_with fail
  refine (I2.out _).mono ?_; rintro e w2 ⟨rfl, b2⟩
  have B2 := Lib.hid (B1.out.trans (b2.mono B1.out.size)); clear b2
  go_wp2_with fail
  refine (I3.out _).mono ?_; rintro e w3 ⟨rfl, b3⟩
  have B3 := Lib.hid (B2.out.trans (b3.mono B2.out.size)); clear b3
  go_wp2_with fail
  refine (I4.out _).mono ?_; rintro e w4 ⟨rfl, b4⟩
  have B4 := Lib.hid (B3.out.trans (b4.mono B3.out.size)); clear b4
  go_wp2
  have BA := Lib.hid (B4.out.alloc B4.out.size (.cells (badL.map str).toArray 9))
  have RB := Lib.hid (Rs.lit w4 badL)
  have RBc := Lib.hid (Rs.lit w4 badL)
  go_loopw [2] (fun i wr => ∃ k : Nat, k ≤ 13 ∧ i = .int .i64 k ∧ Rs wr (some ⟨w4.heap.size, 0, none⟩) badL ∧ Below w.heap.size w wr) (fun i _ => 13 - (intOf i).toNat)
  case atStart => exact ⟨0, by omega, rfl, RB.out, BA.out⟩
  case round =>
    obtain ⟨k, hk, rfl, hr, hb⟩ := hrel
    have HR := Lib.hid hr
    have BB := Lib.hid hb
    clear hr hb
    by_cases hlt : k < 13
    · obtain ⟨x, hx⟩ : ∃ x, badL[k]? = some x := ⟨_, List.getElem?_eq_getElem (by rw [badL_len]; exact hlt)⟩
      obtain ⟨b, o, hA, hB, hcell⟩ := HR.out.at_ hx
      injection hA with hA
      injection hA with h1 h2
      subst h1
      subst h2
      rw [Nat.zero_add] at hcell
      have FX := Lib.hid (FB.out x (List.mem_of_getElem? hx))
      generalize bs x = xb at *
      clear hx
      go_wp2_with fail
      refine (FX.out _).mono ?_; rintro e w5 ⟨rfl, b5⟩
      have B5 := Lib.hid (BB.out.trans (b5.mono BB.out.size)); have R5 := Lib.hid (HR.out.kept b5); clear b5
      go_wp2
      exact ⟨⟨k + 1, by omega, by go_num, R5.out, B5.out⟩, by simp [intOf]; omega⟩
    · obtain rfl : k = 13 := by omega
      have B4 := BB
      clear BB BA RB RBc HR
      go_wp2_with fail
      refine (F1.out _).mono ?_; rintro e w5 ⟨rfl, b5⟩
      have B5 := Lib.hid (B4.out.trans (b5.mono B4.out.size)); clear b5
      go_wp2_with fail
      refine (F2.out _).mono ?_; rintro e w6 ⟨rfl, b6⟩
      have B6 := Lib.hid (B5.out.trans (b6.mono B5.out.size)); clear b6
      go_wp2_with fail
      refine (RP1.out _).mono ?_; rintro e w7 ⟨rfl, b7⟩
      have B7 := Lib.hid (B6.out.trans (b7.mono B6.out.size)); clear b7
      go_wp2_with fail
      refine (F3.out _).mono ?_; rintro e w8 ⟨rfl, b8⟩
      have B8 := Lib.hid (B7.out.trans (b8.mono B7.out.size)); clear b8
      go_wp2_with fail
      refine (F4.out _).mono ?_; rintro e w9 ⟨rfl, b9⟩
      have B9 := Lib.hid (B8.out.trans (b9.mono B8.out.size)); clear b9
      go_wp2_with fail
      refine (RP2.out _).mono ?_; rintro e w10 ⟨rfl, b10⟩
      have B10 := Lib.hid (B9.out.trans (b10.mono B9.out.size)); clear b10
      go_wp2_with fail
      refine (F5.out _).mono ?_; rintro e w11 ⟨rfl, b11⟩
      have B11 := Lib.hid (B10.out.trans (b11.mono B10.out.size)); clear b11
      go_wp2_with fail
      refine (T1.out _).mono ?_; rintro e w12 ⟨rfl, b12⟩
      have B12 := Lib.hid (B11.out.trans (b12.mono B11.out.size)); clear b12
      go_wp2_with fail
      refine (T2.out _).mono ?_; rintro e w13 ⟨rfl, b13⟩
      have B13 := Lib.hid (B12.out.trans (b13.mono B12.out.size)); clear b13
      have L14 := Lib.hid (Rs.lit w13 [[97], [97], [97], [97], [97], [97], [97]])
      go_wp2_with fail
      refine (T3.out _ _ L14.out).mono ?_; rintro e w14 ⟨rfl, b14⟩
      have B14 := Lib.hid ((B13.out.alloc B13.out.size (.cells (([[97], [97], [97], [97], [97], [97], [97]] : List B).map str).toArray 9)).trans (b14.mono (Nat.le_trans B13.out.size (by simp)))); clear b14
      have L15 := Lib.hid (Rs.lit w14 [[97], [97], [97], [97], [97], [97], []])
      go_wp2_with fail
      refine (T4.out _ _ L15.out).mono ?_; rintro e w15 ⟨rfl, b15⟩
      have B15 := Lib.hid ((B14.out.alloc B14.out.size (.cells (([[97], [97], [97], [97], [97], [97], []] : List B).map str).toArray 9)).trans (b15.mono (Nat.le_trans B14.out.size (by simp)))); clear b15
      have L16 := Lib.hid (Rs.lit w15 [[97], [98]])
      go_wp2_with fail
      refine (U1.out _ _ L16.out).mono ?_; rintro e w16 ⟨Au, cu, rfl, ou, b16⟩
      have RU := Lib.hid ou.rs; have HU := Lib.hid (ou.head (by simp)); clear ou
      have B16 := Lib.hid ((B15.out.alloc B15.out.size (.cells (([[97], [98]] : List B).map str).toArray 9)).trans (b16.mono (Nat.le_trans B15.out.size (by simp)))); clear b16
      go_wp2_with fail
      refine (U2.out _).mono ?_; rintro e w17 ⟨An, cn, rfl, on, b17⟩
      have RU2 := Lib.hid (RU.out.kept b17); clear on
      have B17 := Lib.hid (B16.out.trans (b17.mono B16.out.size)); clear b17
      have L1 := Lib.hid (Rs.three1 w17 [[97], [98], [99]] [[97], [98]] [[120]])
      have L2 := Lib.hid (Rs.three2 w17 [[97], [98], [99]] [[97], [98]] [[120]])
      have L3 := Lib.hid (Rs.three3 w17 [[97], [98], [99]] [[97], [98]] [[120]])
      go_wp2_with fail
      refine (M.out _ _ _ _ L1.out L2.out L3.out).mono ?_; rintro e w18 ⟨Am, cm, rfl, om, b18⟩
      have RM := Lib.hid om.rs; have CM := Lib.hid om.2.1
      have B18 := Lib.hid (tr3 B17.out b18)
      have RU3 := Lib.hid (((((RU2.out.alloc _).alloc _).alloc _)).kept b18)
      clear om b18 L1 L2 L3
      obtain ⟨gu, uo, rfl, hgu, hcu⟩ := RU3.out.at_ (k := 0) (x := [97]) rfl
      have hcu' : World.cell? w18 ⟨gu, uo, none⟩ = some (.string ⟨#[97]⟩) := hcu
      clear hcu
      go_wp2_with fail
      refine (J.out _ _ _ CM.out RM.out).mono ?_; rintro e w19 ⟨rfl, b19⟩
      have B19 := Lib.hid (B18.out.trans (b19.mono B18.out.size)); clear b19
      have L1 := Lib.hid (Rs.two1 w19 [[97]] [[97], [98]])
      have L2 := Lib.hid (Rs.two2 w19 [[97]] [[97], [98]])
      go_wp2_with fail
      refine (WA.out _ _ _ L1.out L2.out).mono ?_; rintro e w20 ⟨rfl, b20⟩
      have B20 := Lib.hid (tr2 B19.out b20)
      clear b20 L1 L2
      have L1 := Lib.hid (Rs.two1 w20 [[97], [98]] [[97]])
      have L2 := Lib.hid (Rs.two2 w20 [[97], [98]] [[97]])
      go_wp2_with fail
      refine (WB.out _ _ _ L1.out L2.out).mono ?_; rintro e w21 ⟨rfl, b21⟩
      have B21 := Lib.hid (tr2 B20.out b21)
      clear b21 L1 L2
      have L1 := Lib.hid (Rs.lit w21 [[97]])
      go_wp2_with fail
      refine (WC.out _ _ L1.out).mono ?_; rintro e w22 ⟨rfl, b22⟩
      have B22 := Lib.hid (tr1 B21.out b22)
      clear b22 L1
      go_wp2_with fail
      refine (N1.out _).mono ?_; rintro e wx ⟨rfl, rfl⟩
      go_wp2_with fail
      refine (N2.out _).mono ?_; rintro e wx ⟨rfl, rfl⟩
      go_wp2_with fail
      refine (AW.out _).mono ?_; rintro e w23 ⟨rfl, b23⟩
      have B23 := Lib.hid (B22.out.trans (b23.mono B22.out.size)); clear b23
      go_wp2
      go_ret
      exact ⟨rfl, B23.out⟩
end Go.Proofs.Ytaiabcmgpkkfhaa
