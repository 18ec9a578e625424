/- AllocKnown: its walk. Conditions: none. -/
import Derived.Test.YtnpjbddannkgfaaAlV
namespace Go.Proofs.Ytnpjbddannkgfaa
open Go.ChangeShapes Go.WideShapes Go.RowKit Go.Maps Go.Spans Go.Alloc
set_option maxRecDepth 100000
set_option maxHeartbeats 8000000 in
theorem known_c (w : World) : Calls Try.prog 5 #[] w fun e w' => e = .returned (.bool true) ∧ Below w.heap.size w w' := by
  have h2 := fun (V : World) (A : Nat) (x : Oc w.heap.size w V A 2 8 [2, 3, 4, 5, 6, 7] [] []) => takes_lit x 2 [2, 3] [4, 5, 6, 7] [⟨[2, 3], 1, false⟩] (by decide) (by decide) (by decide) (by decide) (by decide) rfl 2 rfl #[.int .i64 2, .int .i64 3] rfl 2
  have h3 := fun (V : World) (A : Nat) (x : Oc w.heap.size w V A 2 8 [4, 5, 6, 7] [⟨[2, 3], 1, false⟩] []) => x.allocF 5 7 (by decide) (by decide)
  have h4 := fun (V : World) (A : Nat) (x : Oc w.heap.size w V A 2 8 [4, 5, 6, 7] [⟨[2, 3], 1, false⟩] []) => x.allocF 0 2 (by decide) (by decide)
  have h5 := fun (V : World) (A : Nat) (x : Oc w.heap.size w V A 2 8 [4, 5, 6, 7] [⟨[2, 3], 1, false⟩] []) => takes_lit x 3 [4, 5, 6] [7] [⟨[2, 3], 1, false⟩, ⟨[4, 5, 6], 1, false⟩] (by decide) (by decide) (by decide) (by decide) (by decide) rfl 3 rfl #[.int .i64 4, .int .i64 5, .int .i64 6] rfl 3
  have h6 := fun (V : World) (A : Nat) (x : Oc w.heap.size w V A 2 8 [7] [⟨[2, 3], 1, false⟩, ⟨[4, 5, 6], 1, false⟩] []) => x.holdN 2 (i64_small 2 (by omega) (by omega)) 0 [⟨[2, 3], 2, false⟩, ⟨[4, 5, 6], 1, false⟩] rfl rfl
  have h7 := fun (V : World) (A : Nat) (x : Oc w.heap.size w V A 2 8 [7] [⟨[2, 3], 2, false⟩, ⟨[4, 5, 6], 1, false⟩] []) => x.refsM 2 (i64_small 2 (by omega) (by omega)) 2 rfl
  have h8 := fun (V : World) (A : Nat) (x : Oc w.heap.size w V A 2 8 [7] [⟨[2, 3], 2, false⟩, ⟨[4, 5, 6], 1, false⟩] []) => drops_lit x 2 (i64_small 2 (by omega) (by omega)) false 0 [7] [⟨[2, 3], 1, false⟩, ⟨[4, 5, 6], 1, false⟩] [] rfl rfl rfl rfl rfl
  have h9 := fun (V : World) (A : Nat) (x : Oc w.heap.size w V A 2 8 [7] [⟨[2, 3], 1, false⟩, ⟨[4, 5, 6], 1, false⟩] []) => drops_lit x 2 (i64_small 2 (by omega) (by omega)) true 0 [2, 3, 7] [⟨[4, 5, 6], 1, false⟩] [] rfl rfl (by decide +kernel) rfl rfl
  have h10 := fun (V : World) (A : Nat) (x : Oc w.heap.size w V A 2 8 [2, 3, 7] [⟨[4, 5, 6], 1, false⟩] []) => x.freeN 3 rfl
  have h11 := fun (V : World) (A : Nat) (x : Oc w.heap.size w V A 2 8 [2, 3, 7] [⟨[4, 5, 6], 1, false⟩] []) => drops_lit x 2 (i64_small 2 (by omega) (by omega)) false 5 [2, 3, 7] [⟨[4, 5, 6], 1, false⟩] [] rfl rfl rfl rfl rfl
  have h12 := fun (V : World) (A : Nat) (x : Oc w.heap.size w V A 2 8 [2, 3, 7] [⟨[4, 5, 6], 1, false⟩] []) => x.holdN 3 (i64_small 3 (by omega) (by omega)) 5 [⟨[4, 5, 6], 1, false⟩] rfl rfl
  have h13 := fun (V : World) (A : Nat) (x : Oc w.heap.size w V A 2 8 [2, 3, 7] [⟨[4, 5, 6], 1, false⟩] []) => x.sureM 4 (i64_small 4 (by omega) (by omega)) false rfl
  have h14 := fun (V : World) (A : Nat) (x : Oc w.heap.size w V A 2 8 [2, 3, 7] [⟨[4, 5, 6], 1, false⟩] []) => x.commitM [2, 3, 7] [⟨[4, 5, 6], 1, true⟩] (by decide +kernel) rfl
  have h15 := fun (V : World) (A : Nat) (x : Oc w.heap.size w V A 2 8 [2, 3, 7] [⟨[4, 5, 6], 1, true⟩] []) => x.sureM 4 (i64_small 4 (by omega) (by omega)) true rfl
  have h16 := fun (V : World) (A : Nat) (x : Oc w.heap.size w V A 2 8 [2, 3, 7] [⟨[4, 5, 6], 1, true⟩] []) => drops_lit x 4 (i64_small 4 (by omega) (by omega)) true 0 [2, 3, 7] [] [4, 5, 6] rfl rfl rfl rfl rfl
  have h17 := fun (V : World) (A : Nat) (x : Oc w.heap.size w V A 2 8 [2, 3, 7] [] [4, 5, 6]) => x.freeN 3 rfl
  have h18 := fun (V : World) (A : Nat) (x : Oc w.heap.size w V A 2 8 [2, 3, 7] [] [4, 5, 6]) => x.waitN 3 rfl
  have h19 := fun (V : World) (A : Nat) (x : Oc w.heap.size w V A 2 8 [2, 3, 7] [] [4, 5, 6]) => x.listN 0 rfl
  have h20 := fun (V : World) (A : Nat) (x : Oc w.heap.size w V A 2 8 [2, 3, 7] [] [4, 5, 6]) => x.commitM [2, 3, 4, 5, 6, 7] [] (by decide +kernel) rfl
  have h22 := fun (V : World) (A : Nat) (x : Oc w.heap.size w V A 2 8 [2, 3, 4, 5, 6, 7] [] []) => x.freeN 6 rfl
  have h23 := fun (V : World) (A : Nat) (x : Oc w.heap.size w V A 2 8 [2, 3, 4, 5, 6, 7] [] []) => x.waitN 0 rfl
  have h24 := fun (V : World) (A : Nat) (x : Oc w.heap.size w V A 2 8 [2, 3, 5, 6] [⟨[4, 7], 2, true⟩] []) => x.chainM 4 (i64_small 4 (by omega) (by omega)) 2 rfl 7 rfl
  have h25 := fun (V : World) (A : Nat) (x : Oc w.heap.size w V A 2 8 [2, 3, 5, 6] [⟨[4, 7], 2, true⟩] []) => x.chainM 4 (i64_small 4 (by omega) (by omega)) 2 rfl 7 rfl
  have h26 := fun (V : World) (A : Nat) (x : Oc w.heap.size w V A 2 8 [2, 3, 5, 6] [⟨[4, 7], 2, true⟩] []) => x.sureM 4 (i64_small 4 (by omega) (by omega)) true rfl
  have h27 := fun (V : World) (A : Nat) (x : Oc w.heap.size w V A 2 8 [2, 3, 5, 6] [⟨[4, 7], 2, true⟩] []) => x.freeN 4 rfl
  have h28 := fun (V : World) (A : Nat) (x : Oc w.heap.size w V A 2 8 [2, 3, 5, 6] [⟨[4, 7], 2, true⟩] []) => x.refsM 7 (i64_small 7 (by omega) (by omega)) 0 rfl
  have h36 := fun (V : World) (A : Nat) (x : Oc w.heap.size w V A 2 8 [3, 4, 5, 6, 7] [⟨[2], 65535, true⟩] []) => x.holdN 2 (i64_small 2 (by omega) (by omega)) 3 [⟨[2], 65535, true⟩] rfl rfl
  have h21 : ∀ V : World, Calls Try.prog 13 #[.int .i64 2, .int .i64 8, .slice (some ⟨V.heap.size + 1, 0, none⟩) 1 1] ((V.alloc (.cells #[.int .i64 7] 3)).alloc (.cells #[.int .i64 4, .int .i64 2, .slice (some ⟨V.heap.size, 0, none⟩) 1 1] 55)) fun e w' => ∃ A, e = .returned (.tuple #[.pointer (some ⟨A, 0, none⟩), .int .i64 0]) ∧ Oc (V.heap.size + 2) ((V.alloc (.cells #[.int .i64 7] 3)).alloc (.cells #[.int .i64 4, .int .i64 2, .slice (some ⟨V.heap.size, 0, none⟩) 1 1] 55)) w' A 2 8 [2, 3, 5, 6] [⟨[4, 7], 2, true⟩] [] := fun V => by
    have hl := ls_one V 4 2 7 (i64_small 4 (by omega) (by omega)) (i64_small 2 (by omega) (by omega)) (i64_small 7 (by omega) (by omega))
    have hz : ((V.alloc (.cells #[.int .i64 7] 3)).alloc (.cells #[.int .i64 4, .int .i64 2, .slice (some ⟨V.heap.size, 0, none⟩) 1 1] 55)).heap.size = V.heap.size + 2 := by simp
    rw [← hz] at hl ⊢
    exact oc_load 2 8 (by omega) (by omega) 1 hl (by simp) (by simp) ⟨by simp, by simp [allO, Od.secs], by simp [allO, Od.secs]⟩ _ (by rw [show allO [(⟨4, 2, some ⟨V.heap.size, 0, none⟩, 1, [7]⟩ : Od)] = [4, 7] from rfl]; decide +kernel) _ rfl 1 rfl
  have h29 : ∀ V : World, Calls Try.prog 13 #[.int .i64 2, .int .i64 8, .slice (some ⟨V.heap.size + 1, 0, none⟩) 1 1] ((V.alloc (.cells #[.int .i64 4] 3)).alloc (.cells #[.int .i64 4, .int .i64 2, .slice (some ⟨V.heap.size, 0, none⟩) 1 1] 55)) fun e w' => e = .returned (.tuple #[.pointer none, .int .i64 4]) ∧ Below V.heap.size V w' := fun V => by
    have hl := ls_one V 4 2 4 (i64_small 4 (by omega) (by omega)) (i64_small 2 (by omega) (by omega)) (i64_small 4 (by omega) (by omega))
    have hz : ((V.alloc (.cells #[.int .i64 4] 3)).alloc (.cells #[.int .i64 4, .int .i64 2, .slice (some ⟨V.heap.size, 0, none⟩) 1 1] 55)).heap.size = V.heap.size + 2 := by simp
    have hb := below_alloc (below_alloc (Below.refl _ V) (.cells #[.int .i64 4] 3)) (.cells #[.int .i64 4, .int .i64 2, .slice (some ⟨V.heap.size, 0, none⟩) 1 1] 55)
    rw [← hz] at hl
    refine (load_bad 2 8 (by omega) (by omega) 1 hl (by simp) (by simp) (fun h => by have := h.2.1; simp [allO, Od.secs] at this) 1 rfl).mono ?_
    rintro e w' ⟨rfl, hb2⟩
    exact ⟨rfl, hb.trans (hb2.mono hb.size)⟩
  have h30 : ∀ V : World, Calls Try.prog 13 #[.int .i64 2, .int .i64 8, .slice (some ⟨V.heap.size + 1, 0, none⟩) 1 1] ((V.alloc (.cells #[.int .i64 8] 3)).alloc (.cells #[.int .i64 4, .int .i64 2, .slice (some ⟨V.heap.size, 0, none⟩) 1 1] 55)) fun e w' => e = .returned (.tuple #[.pointer none, .int .i64 4]) ∧ Below V.heap.size V w' := fun V => by
    have hl := ls_one V 4 2 8 (i64_small 4 (by omega) (by omega)) (i64_small 2 (by omega) (by omega)) (i64_small 8 (by omega) (by omega))
    have hz : ((V.alloc (.cells #[.int .i64 8] 3)).alloc (.cells #[.int .i64 4, .int .i64 2, .slice (some ⟨V.heap.size, 0, none⟩) 1 1] 55)).heap.size = V.heap.size + 2 := by simp
    have hb := below_alloc (below_alloc (Below.refl _ V) (.cells #[.int .i64 8] 3)) (.cells #[.int .i64 4, .int .i64 2, .slice (some ⟨V.heap.size, 0, none⟩) 1 1] 55)
    rw [← hz] at hl
    refine (load_bad 2 8 (by omega) (by omega) 1 hl (by simp) (by simp) (fun h => by have := h.2.2 8 (by simp [allO, Od.secs]); omega) 1 rfl).mono ?_
    rintro e w' ⟨rfl, hb2⟩
    exact ⟨rfl, hb.trans (hb2.mono hb.size)⟩
  have h31 : ∀ V : World, Calls Try.prog 13 #[.int .i64 2, .int .i64 8, .slice (some ⟨V.heap.size, 0, none⟩) 1 1] (V.alloc (.cells #[.int .i64 4, .int .i64 0, .slice none 0 0] 55)) fun e w' => e = .returned (.tuple #[.pointer none, .int .i64 4]) ∧ Below V.heap.size V w' := fun V => by
    have hl := ls_bare V 4 0 (i64_small 4 (by omega) (by omega)) (i64_small 0 (by omega) (by omega))
    have hz : (V.alloc (.cells #[.int .i64 4, .int .i64 0, .slice none 0 0] 55)).heap.size = V.heap.size + 1 := by simp
    have hb := below_alloc (Below.refl _ V) (.cells #[.int .i64 4, .int .i64 0, .slice none 0 0] 55)
    rw [← hz] at hl
    refine (load_bad 2 8 (by omega) (by omega) 1 hl (by simp) (by simp) (fun h => by have := (h.1 ⟨4, 0, none, 0, []⟩ (by simp)).1; simp at this) 1 rfl).mono ?_
    rintro e w' ⟨rfl, hb2⟩
    exact ⟨rfl, hb.trans (hb2.mono hb.size)⟩
  have h32 : ∀ V : World, Calls Try.prog 13 #[.int .i64 5, .int .i64 5, .slice none 0 0] V fun e w' => e = .returned (.tuple #[.pointer none, .int .i64 2]) ∧ V = w' := fun V => load_arg 5 5 (by omega) none 0 0 V
  have h33 : ∀ V : World, Calls Try.prog 13 #[.int .i64 2, .int .i64 8, .slice (some ⟨V.heap.size, 0, none⟩) 1 1] (V.alloc (.cells #[.int .i64 2, .int .i64 65535, .slice none 0 0] 55)) fun e w' => ∃ A, e = .returned (.tuple #[.pointer (some ⟨A, 0, none⟩), .int .i64 0]) ∧ Oc (V.heap.size + 1) (V.alloc (.cells #[.int .i64 2, .int .i64 65535, .slice none 0 0] 55)) w' A 2 8 [3, 4, 5, 6, 7] [⟨[2], 65535, true⟩] [] := fun V => by
    have hl := ls_bare V 2 65535 (i64_small 2 (by omega) (by omega)) (i64_small 65535 (by omega) (by omega))
    have hz : (V.alloc (.cells #[.int .i64 2, .int .i64 65535, .slice none 0 0] 55)).heap.size = V.heap.size + 1 := by simp
    rw [← hz] at hl ⊢
    exact oc_load 2 8 (by omega) (by omega) 1 hl (by simp) (by simp) ⟨by simp, by simp [allO, Od.secs], by simp [allO, Od.secs]⟩ _ (by rw [show allO [(⟨2, 65535, none, 0, []⟩ : Od)] = [2] from rfl]; decide +kernel) _ rfl 1 rfl
  have h37 : ∀ V : World, Calls Try.prog 8 #[.int .i64 5, .int .i64 5] V fun e w' => e = .returned (.pointer none) ∧ V = w' := fun V => new_nil 5 5 (by omega) V
  have h38 : ∀ V : World, Calls Try.prog 8 #[.int .i64 0, .int .i64 4097] V fun e w' => e = .returned (.pointer none) ∧ V = w' := fun V => new_nil 0 4097 (by omega) V
  have h39 : ∀ V : World, Calls Try.prog 8 #[.int .i64 (-1), .int .i64 5] V fun e w' => e = .returned (.pointer none) ∧ V = w' := fun V => new_nil (-1) 5 (by omega) V
  have H2 := Lib.hid h2
  have H3 := Lib.hid h3
  have H4 := Lib.hid h4
  have H5 := Lib.hid h5
  have H6 := Lib.hid h6
  have H7 := Lib.hid h7
  have H8 := Lib.hid h8
  have H9 := Lib.hid h9
  have H10 := Lib.hid h10
  have H11 := Lib.hid h11
  have H12 := Lib.hid h12
  have H13 := Lib.hid h13
  have H14 := Lib.hid h14
  have H15 := Lib.hid h15
  have H16 := Lib.hid h16
  have H17 := Lib.hid h17
  have H18 := Lib.hid h18
  have H19 := Lib.hid h19
  have H20 := Lib.hid h20
  have H21 := Lib.hid h21
  have H22 := Lib.hid h22
  have H23 := Lib.hid h23
  have H24 := Lib.hid h24
  have H25 := Lib.hid h25
  have H26 := Lib.hid h26
  have H27 := Lib.hid h27
  have H28 := Lib.hid h28
  have H29 := Lib.hid h29
  have H30 := Lib.hid h30
  have H31 := Lib.hid h31
  have H32 := Lib.hid h32
  have H33 := Lib.hid h33
  have H36 := Lib.hid h36
  have H37 := Lib.hid h37
  have H38 := Lib.hid h38
  have H39 := Lib.hid h39
  have H1 := Lib.hid (new_28 w)
  clear h2 h3 h4 h5 h6 h7 h8 h9 h10 h11 h12 h13 h14 h15 h16 h17 h18 h19 h20 h21 h22 h23 h24 h25 h26 h27 h28 h29 h30 h31 h32 h33 h36 h37 h38 h39
  go_enter Try.func5, Try.ntmps5
  go_wp2_with (first
    | (go_at_call 8; refine H1.out.mono ?_; clear H1; rintro e w1 ⟨A, rfl, x1⟩)
    | (go_at_call 19; refine (H2.out _ _ x1).mono ?_; clear H2; rintro e w2 ⟨rfl, x2⟩)
    | (go_at_call 20; refine (H3.out _ _ x2).mono ?_; clear H3; rintro e w3 ⟨P3, C3, rfl, x3⟩)
    | (go_at_call 20; refine (H4.out _ _ x3).mono ?_; clear H4; rintro e w4 ⟨P4, C4, rfl, x4⟩)
    | (go_at_call 19; refine (H5.out _ _ x4).mono ?_; clear H5; rintro e w5 ⟨rfl, x5⟩)
    | (go_at_call 21; refine (H6.out _ _ x5).mono ?_; clear H6; rintro e w6 ⟨rfl, _, x6⟩)
    | (go_at_call 22; refine (H7.out _ _ x6).mono ?_; clear H7; rintro e w7 ⟨rfl, b7⟩; have x7 := x6.later b7)
    | (go_at_call 23; refine (H8.out _ _ x7).mono ?_; clear H8; rintro e w8 ⟨rfl, x8⟩)
    | (go_at_call 23; refine (H9.out _ _ x8).mono ?_; clear H9; rintro e w9 ⟨rfl, x9⟩)
    | (go_at_call 24; refine (H10.out _ _ x9).mono ?_; clear H10; rintro e w10 ⟨rfl, b10⟩; have x10 := x9.later b10)
    | (go_at_call 23; refine (H11.out _ _ x10).mono ?_; clear H11; rintro e w11 ⟨rfl, x11⟩)
    | (go_at_call 21; refine (H12.out _ _ x11).mono ?_; clear H12; rintro e w12 ⟨rfl, _, x12⟩)
    | (go_at_call 25; refine (H13.out _ _ x12).mono ?_; clear H13; rintro e w13 ⟨rfl, b13⟩; have x13 := x12.later b13)
    | (go_at_call 26; refine (H14.out _ _ x13).mono ?_; clear H14; rintro e w14 ⟨rfl, x14⟩)
    | (go_at_call 25; refine (H15.out _ _ x14).mono ?_; clear H15; rintro e w15 ⟨rfl, b15⟩; have x15 := x14.later b15)
    | (go_at_call 23; refine (H16.out _ _ x15).mono ?_; clear H16; rintro e w16 ⟨rfl, x16⟩)
    | (go_at_call 24; refine (H17.out _ _ x16).mono ?_; clear H17; rintro e w17 ⟨rfl, b17⟩; have x17 := x16.later b17)
    | (go_at_call 27; refine (H18.out _ _ x17).mono ?_; clear H18; rintro e w18 ⟨rfl, e18⟩; subst e18)
    | (go_at_call 12; refine (H19.out _ _ x17).mono ?_; clear H19; rintro e w19 ⟨P19, C19, rfl, b19⟩; have x19 := x17.later b19)
    | (go_at_call 26; refine (H20.out _ _ x19).mono ?_; clear H20; rintro e w20 ⟨rfl, x20⟩)
    | (go_at_call 13; refine (H21.out w20).mono ?_; clear H21; rintro e w21 ⟨Ab, rfl, y0⟩; (have q20 := below_alloc (below_alloc (Below.refl _ w20) (.cells #[.int .i64 7] 3)) (.cells #[.int .i64 4, .int .i64 2, .slice (some ⟨w20.heap.size, 0, none⟩) 1 1] 55)); (have q21 := q20.trans (y0.below.mono (by have := q20.size; omega))); (have x21 := x20.later q21); (have y21 := y0.low (B := w.heap.size) (wB := w) (by have := x20.lt; omega) (x20.below.trans (q20.mono x20.lt))); clear y0 q20 q21)
    | (go_at_call 24; refine (H22.out _ _ x21).mono ?_; clear H22; rintro e w22 ⟨rfl, b22⟩; have x22 := x21.later b22; have y22 := y21.later b22)
    | (go_at_call 27; refine (H23.out _ _ x22).mono ?_; clear H23; rintro e w23 ⟨rfl, e23⟩; subst e23)
    | (go_at_call 28; refine (H24.out _ _ y22).mono ?_; clear H24; rintro e w24 ⟨g24, C24, rfl, _, b24⟩; have y24 := y22.later b24)
    | (go_at_call 28; refine (H25.out _ _ y24).mono ?_; clear H25; rintro e w25 ⟨g25, C25, rfl, c25, b25⟩; have y25 := y24.later b25)
    | (go_at_call 25; refine (H26.out _ _ y25).mono ?_; clear H26; rintro e w26 ⟨rfl, b26⟩; have y26 := y25.later b26)
    | (go_at_call 24; refine (H27.out _ _ y26).mono ?_; clear H27; rintro e w27 ⟨rfl, b27⟩; have y27 := y26.later b27)
    | (go_at_call 22; refine (H28.out _ _ y27).mono ?_; clear H28; rintro e w28 ⟨rfl, b28⟩; have y28 := y27.later b28)
    | (go_at_call 13; refine (H29.out w28).mono ?_; clear H29; rintro e w29 ⟨rfl, b29⟩; have y29 := y28.later b29)
    | (go_at_call 13; refine (H30.out w29).mono ?_; clear H30; rintro e w30 ⟨rfl, b30⟩; have y30 := y29.later b30)
    | (go_at_call 13; refine (H31.out w30).mono ?_; clear H31; rintro e w31 ⟨rfl, b31⟩; have y31 := y30.later b31)
    | (go_at_call 13; refine (H32.out w31).mono ?_; clear H32; rintro e w32 ⟨rfl, e32⟩; subst e32)
    | (go_at_call 13; refine (H33.out w31).mono ?_; clear H33; rintro e w33 ⟨Ac, rfl, z0⟩; (have q31 := below_alloc (Below.refl _ w31) (.cells #[.int .i64 2, .int .i64 65535, .slice none 0 0] 55)); (have z33 := z0.low (B := w.heap.size) (wB := w) (by have := y31.lt; omega) (y31.below.trans (q31.mono y31.lt))); clear z0 q31)
    | (go_at_call 26; refine (commit_no (.inl rfl)).mono ?_; rintro e w34 ⟨rfl, e34⟩; subst e34; (have o34 := Is.new w33 61 #[.pointer none, .map none, .map none]); (have z34 := z33.later (below_alloc (Below.refl _ w33) (.cells #[.pointer none, .map none, .map none] 61))))
    | (go_at_call 20; refine (alloc_no (.inr ⟨_, rfl, o34⟩) 1).mono ?_; rintro e w35 ⟨rfl, e35⟩; subst e35)
    | (go_at_call 21; refine (H36.out _ _ z34).mono ?_; clear H36; rintro e w36 ⟨rfl, q36, z36⟩; have o36 := q36.is _ _ _ o34 (by decide) (by decide); clear q36 o34)
    | (go_at_call 8; refine (H37.out w36).mono ?_; clear H37; rintro e w37 ⟨rfl, e37⟩; subst e37)
    | (go_at_call 8; refine (H38.out w36).mono ?_; clear H38; rintro e w38 ⟨rfl, e38⟩; subst e38)
    | (go_at_call 8; refine (H39.out w36).mono ?_; clear H39; rintro e w39 ⟨rfl, e39⟩; subst e39)
    | (go_at_call 21; refine (hold_bad (find_no (w := w36) (.inl rfl) 2) (by decide)).mono ?_; rintro e w40 ⟨rfl, b40⟩; have z40 := z36.later b40; have o40 := (Kp.of_below b40 []).is o36 (by simp))
    | (go_at_call 23; refine (drops_no (.inr ⟨_, rfl, o40⟩) 1).mono ?_; rintro e w41 ⟨rfl, b41⟩; have z41 := z40.later b41; have o41 := (Kp.of_below b41 []).is o40 (by simp))
    | (go_at_call 24; refine (free_no (.inl rfl)).mono ?_; rintro e w42 ⟨rfl, e42⟩; subst e42)
    | (go_at_call 27; refine (waiting_no (.inr ⟨_, rfl, o41⟩)).mono ?_; rintro e w43 ⟨rfl, e43⟩; subst e43)
    | (go_at_call 12; refine (list_no (.inl rfl)).mono ?_; rintro e w44 ⟨rfl, e44⟩; subst e44)
    | (go_at_call 22; refine (refs_of (find_no (w := w41) (.inl rfl) 2)).mono ?_; rintro e w45 ⟨rfl, b45⟩; have z45 := z41.later b45)
    | (go_at_call 10; refine (awake_c w45).mono ?_; rintro e w46 ⟨rfl, b46⟩; have z46 := z45.later b46))
  go_ret
  exact ⟨by simp, z46.below⟩
end Go.Proofs.Ytnpjbddannkgfaa
