/- The law KeyKnown: the examples of the chapter. Conditions: the listed families as the program's text lays them. -/
import Derived.Test.YtnpgoahdemfkpaaDoorWalksW
namespace Go.Proofs.YtnpgoahdemfkpaaDoor
open Go.ChangeShapes Go.WideShapes Go.RowKit Go.Path
set_option maxRecDepth 100000
set_option linter.unusedVariables false
set_option linter.unusedSimpArgs false
theorem names_cd (w : World) : Calls Tryd.prog 33 #[.string ⟨#[99, 47, 100]⟩] w (GivesIn [[99], [100]] w) := names_is _ _ (by decide) (by decide) (by rfl) (by rfl) (by decide) (by decide) w
theorem names_c (w : World) : Calls Tryd.prog 33 #[.string ⟨#[99]⟩] w (GivesIn [[99]] w) := names_is _ _ (by decide) (by decide) (by rfl) (by rfl) (by decide) (by decide) w
theorem names_7 (w : World) : Calls Tryd.prog 33 #[.string ⟨#[49, 47, 50, 47, 51, 47, 52, 47, 53, 47, 54, 47, 55]⟩] w (GivesIn [[49], [50], [51], [52], [53], [54], [55]] w) := names_is _ _ (by decide) (by decide) (by rfl) (by rfl) (by decide) (by decide) w
theorem names_6 (w : World) : Calls Tryd.prog 33 #[.string ⟨#[49, 47, 50, 47, 51, 47, 52, 47, 53, 47, 54]⟩] w (GivesIn [[49], [50], [51], [52], [53], [54]] w) := names_is _ _ (by decide) (by decide) (by rfl) (by rfl) (by decide) (by decide) w
/-- What stands under these names. -/
def xs17 : B := List.replicate 17 120
def bad6 : List B := [[], [46], [46, 46], [97, 47, 98], [97, 0, 98], xs17]
theorem bad_all : ∀ x ∈ bad6, right [x] = false ∧ x.length ≤ 17 := by decide
theorem In.row (w : World) (xs : List B) (hl : xs.length ≤ 100) (he : ∀ x ∈ xs, x.length ≤ 1000) : In (w.alloc (.cells (xs.map str).toArray 9)) (some ⟨w.heap.size, 0, none⟩) xs xs.length := by
  refine ⟨.inr ⟨w.heap.size, 0, rfl, by simp, fun i y hy => ?_⟩, by omega, Nat.le_refl _, fun x hx => by have := he x hx; unfold maxLen; omega⟩
  have := heap_alloc_new w (.cells (xs.map str).toArray 9)
  rw [cell_of_row _ _ _ _ _ _ this, Nat.zero_add]
  simp [hy]
theorem move_cb {w : World} (hL : Laid w) {k : ByteArray} (hk : k.size ≤ 900) {A C : Option Addr} {a b : List B} {c d : Nat} (ia : In w A a c) (ib : In w C b d) (R : ByteArray) (hR : bs (moveK k.data.toList a b) = R) : Calls Tryd.prog 24 #[.string k, .slice A a.length c, .slice C b.length d] w fun e w' => e = .returned (.string R) ∧ Below w.heap.size w w' := by
  rw [← hR]; exact move_any k hk A C a b c d w ia ib hL
set_option maxHeartbeats 4000000 in
theorem known_law (w : World) (hL : Laid w) : Calls Tryd.prog 8 #[] w fun e w' => e = .returned (.bool true) ∧ Below w.heap.size w w' := by
  have HL0 := Lib.hid hL
  have NA := Lib.hid names_a; have NAB := Lib.hid names_ab; have NCD := Lib.hid names_cd; have NC := Lib.hid names_c; have N7 := Lib.hid names_7; have N6 := Lib.hid names_6
  unfold GivesIn at NA NAB NCD NC N7 N6
  have IS := Lib.hid is_true
  clear hL
  go_enter Tryd.func8, Tryd.ntmps8
  go_wp2_with fail
  refine (NA.out _).mono ?_; rintro e w1 ⟨A, c, rfl, i1, b1⟩
  have HL := Lib.hid (HL0.out.later b1); have I1 := Lib.hid i1; have BW := Lib.hid b1
  clear b1 i1
  have cWK := Lib.hid (fun wx (hb : Below w1.heap.size w1 wx) => (show Calls Tryd.prog 10 #[] wx fun e w' => e = .returned (.bool true) ∧ Below wx.heap.size wx w' from works_any wx (HL.out.later hb)))
  have cMA := Lib.hid (fun wx (hb : Below w1.heap.size w1 wx) => (show Calls Tryd.prog 15 #[.slice A ([[97]] : List B).length c] wx fun e w' => e = .returned (.string ⟨#[109, 97]⟩) ∧ Below wx.heap.size wx w' from meta_any A [[97]] c wx (I1.out.kept hb) (HL.out.later hb)))
  have cSA := Lib.hid (fun wx (hb : Below w1.heap.size w1 wx) => (show Calls Tryd.prog 11 #[.slice A ([[97]] : List B).length c] wx fun e w' => e = .returned (.tuple #[.agg #[.string ⟨#[109, 97]⟩, .string ⟨#[109, 97, 1]⟩], .agg #[.string ⟨#[100, 97]⟩, .string ⟨#[100, 97, 1]⟩]]) ∧ Below wx.heap.size wx w' from subtrees_any A [[97]] c wx (I1.out.kept hb) (HL.out.later hb)))
  have cSN := Lib.hid (fun wx (hb : Below w1.heap.size w1 wx) => (show Calls Tryd.prog 11 #[.slice none 0 0] wx fun e w' => e = .returned (.tuple #[.agg #[.string ⟨#[109]⟩, .string ⟨#[110]⟩], .agg #[.string ⟨#[100]⟩, .string ⟨#[101]⟩]]) ∧ Below wx.heap.size wx w' from subtrees_any none [] 0 wx (In.lit _ _ _) (HL.out.later hb)))
  have cK0 := Lib.hid (fun wx (hb : Below w1.heap.size w1 wx) => (show Calls Tryd.prog 17 #[.slice none 0 0, .int .i64 0] wx fun e w' => e = .returned (.string ⟨#[]⟩) ∧ Below wx.heap.size wx w' from block_any none [] 0 0 (by decide) wx (In.lit _ _ _) (HL.out.later hb)))
  have cKm := Lib.hid (fun wx (hb : Below w1.heap.size w1 wx) => (show Calls Tryd.prog 17 #[.slice A ([[97]] : List B).length c, .int .i64 (-1)] wx fun e w' => e = .returned (.string ⟨#[]⟩) ∧ Below wx.heap.size wx w' from block_any A [[97]] c (-1) (by decide) wx (I1.out.kept hb) (HL.out.later hb)))
  have cK32 := Lib.hid (fun wx (hb : Below w1.heap.size w1 wx) => (show Calls Tryd.prog 17 #[.slice A ([[97]] : List B).length c, .int .i64 32] wx fun e w' => e = .returned (.string ⟨#[]⟩) ∧ Below wx.heap.size wx w' from block_any A [[97]] c 32 (by decide) wx (I1.out.kept hb) (HL.out.later hb)))
  have cBA := Lib.hid (fun wx (hb : Below w1.heap.size w1 wx) => (show Calls Tryd.prog 22 #[.slice A ([[97]] : List B).length c] wx fun e w' => e = .returned (.agg #[.string ⟨#[109, 97, 0]⟩, .string ⟨#[109, 97, 1]⟩]) ∧ Below wx.heap.size wx w' from below_any A [[97]] c wx (I1.out.kept hb) (HL.out.later hb)))
  have cBN := Lib.hid (fun wx (hb : Below w1.heap.size w1 wx) => (show Calls Tryd.prog 22 #[.slice none 0 0] wx fun e w' => e = .returned (.agg #[.string ⟨#[109, 0]⟩, .string ⟨#[110]⟩]) ∧ Below wx.heap.size wx w' from below_any none [] 0 wx (In.lit _ _ _) (HL.out.later hb)))
  have cLA := Lib.hid (fun wx (hb : Below w1.heap.size w1 wx) => (show Calls Tryd.prog 23 #[.slice A ([[97]] : List B).length c] wx fun e w' => e = .returned (.agg #[.string ⟨#[100, 97, 0, 0]⟩, .string ⟨#[100, 97, 0, 1]⟩]) ∧ Below wx.heap.size wx w' from blocks_any A [[97]] c wx (I1.out.kept hb) (HL.out.later hb)))
  have cPA := Lib.hid (fun wx (hb : Below w1.heap.size w1 wx) => (show Calls Tryd.prog 19 #[.slice A ([[97]] : List B).length c] wx fun e w' => e = .returned (.string ⟨#[109, 97, 1]⟩) ∧ Below wx.heap.size wx w' from past_any A [[97]] c wx (I1.out.kept hb) (HL.out.later hb)))
  have cPN := Lib.hid (fun wx (hb : Below w1.heap.size w1 wx) => (show Calls Tryd.prog 19 #[.slice none 0 0] wx fun e w' => e = .returned (.string ⟨#[110]⟩) ∧ Below wx.heap.size wx w' from past_any none [] 0 wx (In.lit _ _ _) (HL.out.later hb)))
  go_wp2_with fail
  refine (cSA.out _ (Below.refl _ _)).mono ?_; rintro e wa ⟨rfl, ba⟩
  have hXa := Boxes.new wa 26 #[.string ⟨#[109, 97]⟩, .string ⟨#[109, 97, 1]⟩] 26 #[.string ⟨#[100, 97]⟩, .string ⟨#[100, 97, 1]⟩]
  have Va := Lib.hid (ba.trans (hXa.below.mono ba.size))
  have Xa := Lib.hid hXa
  clear ba hXa
  go_wp2_with fail
  generalize hWa : (wa.alloc (.cells #[.string ⟨#[109, 97]⟩, .string ⟨#[109, 97, 1]⟩] 26)).alloc (.cells #[.string ⟨#[100, 97]⟩, .string ⟨#[100, 97, 1]⟩] 26) = Wa at *
  clear hWa
  refine (cSN.out _ Va.out).mono ?_; rintro e wb ⟨rfl, bb⟩
  have Xa2 := Lib.hid (Xa.out.later bb)
  have hXb := Boxes.new wb 26 #[.string ⟨#[109]⟩, .string ⟨#[110]⟩] 26 #[.string ⟨#[100]⟩, .string ⟨#[101]⟩]
  have Vb := Va.out.trans (bb.mono Va.out.size)
  have V2 := Lib.hid (Vb.trans (hXb.below.mono Vb.size))
  have Xa3 := Lib.hid (Xa2.out.later hXb.below)
  have Xb := Lib.hid hXb
  clear bb hXb Vb
  go_wp2_with fail
  generalize hWb : (wb.alloc (.cells #[.string ⟨#[109]⟩, .string ⟨#[110]⟩] 26)).alloc (.cells #[.string ⟨#[100]⟩, .string ⟨#[101]⟩] 26) = w2 at *
  clear hWb
  refine (cWK.out _ V2.out).mono ?_; rintro e w3 ⟨rfl, b3⟩
  have Xa_3 := Lib.hid (Xa3.out.later b3); have Xb_3 := Lib.hid (Xb.out.later b3)
  have V3 := Lib.hid (V2.out.trans (b3.mono V2.out.size)); clear b3
  go_wp2_with fail
  refine (cMA.out _ V3.out).mono ?_; rintro e w4 ⟨rfl, b4⟩
  have Xa_4 := Lib.hid (Xa_3.out.later b4); have Xb_4 := Lib.hid (Xb_3.out.later b4)
  have V4 := Lib.hid (V3.out.trans (b4.mono V3.out.size)); clear b4
  go_wp2_with fail
  refine (NAB.out _).mono ?_; rintro e w5 ⟨A2, c2, rfl, i5, b5⟩
  have Xa_5 := Lib.hid (Xa_4.out.later b5); have Xb_5 := Lib.hid (Xb_4.out.later b5)
  have V5 := Lib.hid (V4.out.trans (b5.mono V4.out.size)); have I2 := Lib.hid i5; clear b5 i5
  go_wp2_with fail
  refine ((show Calls Tryd.prog 17 #[.slice A2 ([[97], [98]] : List B).length c2, .int .i64 258] w5 fun e w' => e = .returned (.string ⟨#[]⟩) ∧ Below w5.heap.size w5 w' from block_any A2 [[97], [98]] c2 258 (by decide) w5 I2.out (HL.out.later V5.out))).mono ?_; rintro e w6 ⟨rfl, b6⟩
  have Xa_6 := Lib.hid (Xa_5.out.later b6); have Xb_6 := Lib.hid (Xb_5.out.later b6)
  have V6 := Lib.hid (V5.out.trans (b6.mono V5.out.size)); clear b6
  go_wp2_with fail
  refine (cK0.out _ V6.out).mono ?_; rintro e w7 ⟨rfl, b7⟩
  have Xa_7 := Lib.hid (Xa_6.out.later b7); have Xb_7 := Lib.hid (Xb_6.out.later b7)
  have V7 := Lib.hid (V6.out.trans (b7.mono V6.out.size)); clear b7
  go_wp2_with fail
  refine (cKm.out _ V7.out).mono ?_; rintro e w8 ⟨rfl, b8⟩
  have Xa_8 := Lib.hid (Xa_7.out.later b8); have Xb_8 := Lib.hid (Xb_7.out.later b8)
  have V8 := Lib.hid (V7.out.trans (b8.mono V7.out.size)); clear b8
  go_wp2_with fail
  refine (cK32.out _ V8.out).mono ?_; rintro e w9 ⟨rfl, b9⟩
  have Xa_9 := Lib.hid (Xa_8.out.later b9); have Xb_9 := Lib.hid (Xb_8.out.later b9)
  have V9 := Lib.hid (V8.out.trans (b9.mono V8.out.size)); clear b9
  obtain ⟨⟨p0, p1⟩, p2, p3⟩ := Xa_9.out.cells
  obtain ⟨⟨q0, q1⟩, q2, q3⟩ := Xb_9.out.cells
  go_wp2_with fail
  refine (IS.out ⟨#[109, 97]⟩ ⟨#[109, 97, 1]⟩ _).mono ?_; rintro e w10 ⟨rfl, b10⟩
  have Xa_10 := Lib.hid (Xa_9.out.later b10); have Xb_10 := Lib.hid (Xb_9.out.later b10)
  have V10 := Lib.hid (V9.out.trans (b10.mono V9.out.size)); clear b10
  clear p0 p1 p2 p3 q0 q1 q2 q3
  obtain ⟨⟨p0, p1⟩, p2, p3⟩ := Xa_10.out.cells
  obtain ⟨⟨q0, q1⟩, q2, q3⟩ := Xb_10.out.cells
  go_wp2_with fail
  refine (IS.out ⟨#[100, 97]⟩ ⟨#[100, 97, 1]⟩ _).mono ?_; rintro e w11 ⟨rfl, b11⟩
  have Xa_11 := Lib.hid (Xa_10.out.later b11); have Xb_11 := Lib.hid (Xb_10.out.later b11)
  have V11 := Lib.hid (V10.out.trans (b11.mono V10.out.size)); clear b11
  clear p0 p1 p2 p3 q0 q1 q2 q3
  obtain ⟨⟨p0, p1⟩, p2, p3⟩ := Xa_11.out.cells
  obtain ⟨⟨q0, q1⟩, q2, q3⟩ := Xb_11.out.cells
  go_wp2_with fail
  refine (IS.out ⟨#[109]⟩ ⟨#[110]⟩ _).mono ?_; rintro e w12 ⟨rfl, b12⟩
  have Xa_12 := Lib.hid (Xa_11.out.later b12); have Xb_12 := Lib.hid (Xb_11.out.later b12)
  have V12 := Lib.hid (V11.out.trans (b12.mono V11.out.size)); clear b12
  clear p0 p1 p2 p3 q0 q1 q2 q3
  obtain ⟨⟨p0, p1⟩, p2, p3⟩ := Xa_12.out.cells
  obtain ⟨⟨q0, q1⟩, q2, q3⟩ := Xb_12.out.cells
  go_wp2_with fail
  refine (IS.out ⟨#[100]⟩ ⟨#[101]⟩ _).mono ?_; rintro e w13 ⟨rfl, b13⟩
  have Xa_13 := Lib.hid (Xa_12.out.later b13); have Xb_13 := Lib.hid (Xb_12.out.later b13)
  have V13 := Lib.hid (V12.out.trans (b13.mono V12.out.size)); clear b13
  clear p0 p1 p2 p3 q0 q1 q2 q3
  go_wp2_with fail
  refine (cBA.out _ V13.out).mono ?_; rintro e w14 ⟨rfl, b14⟩
  have V14 := Lib.hid (V13.out.trans (b14.mono V13.out.size)); clear b14
  go_wp2_with fail
  refine (IS.out ⟨#[109, 97, 0]⟩ ⟨#[109, 97, 1]⟩ _).mono ?_; rintro e w15 ⟨rfl, b15⟩
  have V15 := Lib.hid (V14.out.trans (b15.mono V14.out.size)); clear b15
  go_wp2_with fail
  refine (cBN.out _ V15.out).mono ?_; rintro e w16 ⟨rfl, b16⟩
  have V16 := Lib.hid (V15.out.trans (b16.mono V15.out.size)); clear b16
  go_wp2_with fail
  refine (IS.out ⟨#[109, 0]⟩ ⟨#[110]⟩ _).mono ?_; rintro e w17 ⟨rfl, b17⟩
  have V17 := Lib.hid (V16.out.trans (b17.mono V16.out.size)); clear b17
  go_wp2_with fail
  refine (cLA.out _ V17.out).mono ?_; rintro e w18 ⟨rfl, b18⟩
  have V18 := Lib.hid (V17.out.trans (b18.mono V17.out.size)); clear b18
  go_wp2_with fail
  refine (IS.out ⟨#[100, 97, 0, 0]⟩ ⟨#[100, 97, 0, 1]⟩ _).mono ?_; rintro e w19 ⟨rfl, b19⟩
  have V19 := Lib.hid (V18.out.trans (b19.mono V18.out.size)); clear b19
  go_wp2_with fail
  refine (cPA.out _ V19.out).mono ?_; rintro e w20 ⟨rfl, b20⟩
  have V20 := Lib.hid (V19.out.trans (b20.mono V19.out.size)); clear b20
  go_wp2_with fail
  refine (cPN.out _ V20.out).mono ?_; rintro e w21 ⟨rfl, b21⟩
  have V21 := Lib.hid (V20.out.trans (b21.mono V20.out.size)); clear b21
  go_wp2_with fail
  refine (NCD.out _).mono ?_; rintro e w22 ⟨A3, c3, rfl, i22, b22⟩
  have V22 := Lib.hid (V21.out.trans (b22.mono V21.out.size)); have I3 := Lib.hid i22; clear b22 i22
  go_wp2_with fail
  refine (move_cb (HL.out.later V22.out) (k := ⟨#[109, 97, 0, 98]⟩) (by decide) (a := [[97]]) (b := [[99], [100]]) (I1.out.kept V22.out) (I3.out) ⟨#[109, 99, 0, 100, 0, 98]⟩ (by rfl)).mono ?_; rintro e w23 ⟨rfl, b23⟩
  have V23 := Lib.hid (V22.out.trans (b23.mono V22.out.size)); clear b23
  go_wp2_with fail
  refine (NCD.out _).mono ?_; rintro e w24 ⟨A4, c4, rfl, i24, b24⟩
  have V24 := Lib.hid (V23.out.trans (b24.mono V23.out.size)); have I4 := Lib.hid i24; clear b24 i24
  go_wp2_with fail
  refine (move_cb (HL.out.later V24.out) (k := ⟨#[109, 97, 98]⟩) (by decide) (a := [[97]]) (b := [[99], [100]]) (I1.out.kept V24.out) (I4.out) ⟨#[109, 97, 98]⟩ (by rfl)).mono ?_; rintro e w25 ⟨rfl, b25⟩
  have V25 := Lib.hid (V24.out.trans (b25.mono V24.out.size)); clear b25
  go_wp2_with fail
  refine (NCD.out _).mono ?_; rintro e w26 ⟨A5, c5, rfl, i26, b26⟩
  have V26 := Lib.hid (V25.out.trans (b26.mono V25.out.size)); have I5 := Lib.hid i26; clear b26 i26
  go_wp2_with fail
  refine (move_cb (HL.out.later V26.out) (k := ⟨#[100, 97, 0, 0, 0, 1]⟩) (by decide) (a := [[97]]) (b := [[99], [100]]) (I1.out.kept V26.out) (I5.out) ⟨#[100, 99, 0, 100, 0, 0, 0, 1]⟩ (by rfl)).mono ?_; rintro e w27 ⟨rfl, b27⟩
  have V27 := Lib.hid (V26.out.trans (b27.mono V26.out.size)); clear b27
  go_wp2_with fail
  refine (move_cb (HL.out.later V27.out) (k := ⟨#[109, 97]⟩) (by decide) (a := [[97]]) (b := []) (I1.out.kept V27.out) (In.lit _ none 0) ⟨#[109, 97]⟩ (by rfl)).mono ?_; rintro e w28 ⟨rfl, b28⟩
  have V28 := Lib.hid (V27.out.trans (b28.mono V27.out.size)); clear b28
  go_wp2_with fail
  refine (move_cb (HL.out.later V28.out) (k := ⟨#[]⟩) (by decide) (a := [[97]]) (b := [[97]]) (I1.out.kept V28.out) (I1.out.kept V28.out) ⟨#[]⟩ (by rfl)).mono ?_; rintro e w29 ⟨rfl, b29⟩
  have V29 := Lib.hid (V28.out.trans (b29.mono V28.out.size)); clear b29
  go_wp2_with fail
  refine (NC.out _).mono ?_; rintro e w30 ⟨A6, c6, rfl, i30, b30⟩
  have V30 := Lib.hid (V29.out.trans (b30.mono V29.out.size)); have I6 := Lib.hid i30; clear b30 i30
  go_wp2_with fail
  refine (move_cb (HL.out.later V30.out) (k := ⟨#[120, 97]⟩) (by decide) (a := [[97]]) (b := [[99]]) (I1.out.kept V30.out) (I6.out) ⟨#[120, 97]⟩ (by rfl)).mono ?_; rintro e w31 ⟨rfl, b31⟩
  have V31 := Lib.hid (V30.out.trans (b31.mono V30.out.size)); clear b31
  go_wp2_with fail
  refine (Tryd.strings_Repeat ⟨#[120]⟩ 17 _ (by decide) (by decide)).mono ?_; rintro e w32 ⟨rfl, b32⟩
  have V32 := Lib.hid (V31.out.trans (b32.mono V31.out.size)); clear b32
  rw [show (⟨(Lib.repeatL (⟨#[120]⟩ : ByteArray).data.toList 17).toArray⟩ : ByteArray) = bs xs17 from rfl]
  have IBAD := Lib.hid (In.row w32 bad6 (by decide) (by decide))
  have VB := Lib.hid (V32.out.alloc V32.out.size (.cells (bad6.map str).toArray 9))
  have hbad : (bad6.map str).toArray = #[.string ⟨#[]⟩, .string ⟨#[46]⟩, .string ⟨#[46, 46]⟩, .string ⟨#[97, 47, 98]⟩, .string ⟨#[97, 0, 98]⟩, .string (bs xs17)] := rfl
  rw [hbad] at IBAD VB
  have RB := Lib.hid IBAD.out.rs
  generalize bs xs17 = x17 at *
  go_wp2
  generalize hWB : w32.alloc (.cells #[.string ⟨#[]⟩, .string ⟨#[46]⟩, .string ⟨#[46, 46]⟩, .string ⟨#[97, 47, 98]⟩, .string ⟨#[97, 0, 98]⟩, .string x17] 9) = WB at *
  clear hWB
  go_loopw [7] (fun v wr => ∃ q : Nat, q ≤ 6 ∧ v = .int .i64 q ∧ Below WB.heap.size WB wr) (fun v _ => 6 - (intOf v).toNat)
  case atStart => exact ⟨0, by omega, rfl, Below.refl _ _⟩
  case round =>
    obtain ⟨q, hq, rfl, hb⟩ := hrel
    have Vw := Lib.hid (VB.out.trans (hb.mono VB.out.size))
    have BBw := Lib.hid hb
    by_cases hlt : q < 6
    · obtain ⟨x, hx⟩ : ∃ x, bad6[q]? = some x := ⟨_, List.getElem?_eq_getElem (by exact hlt)⟩
      obtain ⟨g, o, hgo, hB, hcell⟩ := (RB.out.kept hb).at_ hx
      injection hgo with hgo
      injection hgo with hg1 hg2
      subst hg1; subst hg2
      obtain ⟨hr, hxl⟩ := bad_all x (List.mem_of_getElem? hx)
      rw [Nat.zero_add] at hcell
      have IO := Lib.hid (In.row wr [x] (by simp) (by simp; omega))
      have VO := Lib.hid (Vw.out.alloc Vw.out.size (.cells ([x].map str).toArray 9))
      have hone : ([x].map str).toArray = #[.string (bs x)] := rfl
      rw [hone] at IO VO
      have n1 : metaK [x] = [] := if_neg (by rw [hr]; decide)
      have n2 : pastK [x] = [] := if_neg (by rw [hr]; decide)
      have n3 : belowF [x] = [] := if_neg (by rw [hr]; decide)
      have n4 : belowT [x] = [] := if_neg (by rw [hr]; decide)
      have n5 : blocksF [x] = [] := if_neg (by rw [hr]; decide)
      have n6 : blocksT [x] = [] := if_neg (by rw [hr]; decide)
      have n7 : blockK [x] 0 = [] := if_neg (by simp [hasBlock, hr])
      have n8 : moveK [109, 97] [[97]] [x] = [109, 97] := if_neg (by simp [moves, hr])
      have c1 := fun wx h hl => meta_any (some ⟨wr.heap.size, 0, none⟩) [x] 1 wx h hl
      have c2 := fun wx h hl => past_any (some ⟨wr.heap.size, 0, none⟩) [x] 1 wx h hl
      have c3 := fun wx h hl => below_any (some ⟨wr.heap.size, 0, none⟩) [x] 1 wx h hl
      have c4 := fun wx h hl => blocks_any (some ⟨wr.heap.size, 0, none⟩) [x] 1 wx h hl
      have c5 := fun wx h hl => block_any (some ⟨wr.heap.size, 0, none⟩) [x] 1 0 (by decide) wx h hl
      have c6 := fun wx h h' hl => move_any ⟨#[109, 97]⟩ (by decide) A (some ⟨wr.heap.size, 0, none⟩) [[97]] [x] c 1 wx h h' hl
      rw [n1] at c1; rw [n2] at c2; rw [n3, n4] at c3; rw [n5, n6] at c4; rw [n7] at c5
      rw [show (⟨#[109, 97]⟩ : ByteArray).data.toList = [109, 97] from rfl, n8] at c6
      rw [show bs [] = ⟨#[]⟩ from rfl] at c1 c2 c3 c4 c5
      rw [show bs [109, 97] = ⟨#[109, 97]⟩ from rfl] at c6
      have C1 := Lib.hid c1; have C2 := Lib.hid c2; have C3 := Lib.hid c3; have C4 := Lib.hid c4; have C5 := Lib.hid c5; have C6 := Lib.hid c6
      clear c1 c2 c3 c4 c5 c6 n1 n2 n3 n4 n5 n6 n7 n8 hr hxl hx hone hb
      generalize bs x = xb at *
      go_wp2_with fail
      generalize hWO : wr.alloc (.cells #[.string xb] 9) = WO at *
      have BO := Lib.hid (show Below wr.heap.size wr WO by rw [← hWO]; exact (Below.refl _ _).alloc (Nat.le_refl _) _)
      clear hWO
      refine (C1.out _ IO.out (HL.out.later VO.out)).mono ?_; rintro e u1 ⟨rfl, d1⟩
      have U1 := Lib.hid d1; clear d1
      go_wp2_with fail
      refine (C2.out _ (IO.out.kept U1.out) (HL.out.later (VO.out.trans (U1.out.mono VO.out.size)))).mono ?_; rintro e u2 ⟨rfl, d2⟩
      have U2 := Lib.hid (U1.out.trans (d2.mono U1.out.size)); clear d2
      go_wp2_with fail
      refine (C3.out _ (IO.out.kept U2.out) (HL.out.later (VO.out.trans (U2.out.mono VO.out.size)))).mono ?_; rintro e u3 ⟨rfl, d3⟩
      have U3 := Lib.hid (U2.out.trans (d3.mono U2.out.size)); clear d3
      go_wp2_with fail
      refine (IS.out ⟨#[]⟩ ⟨#[]⟩ _).mono ?_; rintro e u4 ⟨rfl, d4⟩
      have U4 := Lib.hid (U3.out.trans (d4.mono U3.out.size)); clear d4
      go_wp2_with fail
      refine (C4.out _ (IO.out.kept U4.out) (HL.out.later (VO.out.trans (U4.out.mono VO.out.size)))).mono ?_; rintro e u5 ⟨rfl, d5⟩
      have U5 := Lib.hid (U4.out.trans (d5.mono U4.out.size)); clear d5
      go_wp2_with fail
      refine (IS.out ⟨#[]⟩ ⟨#[]⟩ _).mono ?_; rintro e u6 ⟨rfl, d6⟩
      have U6 := Lib.hid (U5.out.trans (d6.mono U5.out.size)); clear d6
      go_wp2_with fail
      refine (C5.out _ (IO.out.kept U6.out) (HL.out.later (VO.out.trans (U6.out.mono VO.out.size)))).mono ?_; rintro e u7 ⟨rfl, d7⟩
      have U7 := Lib.hid (U6.out.trans (d7.mono U6.out.size)); clear d7
      go_wp2_with fail
      refine (C6.out _ (I1.out.kept (VO.out.trans (U7.out.mono VO.out.size))) (IO.out.kept U7.out) (HL.out.later (VO.out.trans (U7.out.mono VO.out.size)))).mono ?_; rintro e u8 ⟨rfl, d8⟩
      have U8 := Lib.hid (U7.out.trans (d8.mono U7.out.size)); clear d8
      go_wp2
      exact ⟨⟨q + 1, by omega, by go_num, BBw.out.trans ((BO.out.trans (U8.out.mono BO.out.size)).mono BBw.out.size)⟩, by simp [intOf]; omega⟩
    · obtain rfl : q = 6 := by omega
      have V200 := Vw
      clear Vw BBw hb
      go_wp2_with fail
      refine (takes_true ⟨#[109]⟩ ⟨#[]⟩ (by decide) 109 0 [] (by rfl) (by decide) (by decide) (by rfl) _ (HL.out.later V200.out)).mono ?_; rintro e w201 ⟨rfl, b201⟩
      have V201 := Lib.hid (V200.out.trans (b201.mono V200.out.size)); clear b201
      go_wp2_with fail
      refine (takes_true ⟨#[100, 97, 0, 0, 0, 1]⟩ ⟨#[97]⟩ (by decide) 100 1 [[97]] (by rfl) (by decide) (by decide) (by rfl) _ (HL.out.later V201.out)).mono ?_; rintro e w202 ⟨rfl, b202⟩
      have V202 := Lib.hid (V201.out.trans (b202.mono V201.out.size)); clear b202
      go_wp2_with fail
      refine (none_true ⟨#[109, 97, 0, 0, 98]⟩ (by decide) (by rfl) _ (HL.out.later V202.out)).mono ?_; rintro e w203 ⟨rfl, b203⟩
      have V203 := Lib.hid (V202.out.trans (b203.mono V202.out.size)); clear b203
      go_wp2_with fail
      refine (none_true ⟨#[100, 97]⟩ (by decide) (by rfl) _ (HL.out.later V203.out)).mono ?_; rintro e w204 ⟨rfl, b204⟩
      have V204 := Lib.hid (V203.out.trans (b204.mono V203.out.size)); clear b204
      go_wp2_with fail
      refine (none_true ⟨#[]⟩ (by decide) (by rfl) _ (HL.out.later V204.out)).mono ?_; rintro e w205 ⟨rfl, b205⟩
      have V205 := Lib.hid (V204.out.trans (b205.mono V204.out.size)); clear b205
      go_wp2_with fail
      refine (none_true ⟨#[100, 0, 0, 0, 1]⟩ (by decide) (by rfl) _ (HL.out.later V205.out)).mono ?_; rintro e w206 ⟨rfl, b206⟩
      have V206 := Lib.hid (V205.out.trans (b206.mono V205.out.size)); clear b206
      go_wp2_with fail
      refine (none_true ⟨#[100, 97, 0, 0, 0, 32]⟩ (by decide) (by rfl) _ (HL.out.later V206.out)).mono ?_; rintro e w207 ⟨rfl, b207⟩
      have V207 := Lib.hid (V206.out.trans (b207.mono V206.out.size)); clear b207
      go_wp2_with fail
      refine (none_true ⟨#[109, 47]⟩ (by decide) (by rfl) _ (HL.out.later V207.out)).mono ?_; rintro e w208 ⟨rfl, b208⟩
      have V208 := Lib.hid (V207.out.trans (b208.mono V207.out.size)); clear b208
      go_wp2_with fail
      refine (N7.out _).mono ?_; rintro e w209 ⟨A7, c7, rfl, i209, b209⟩
      have V209 := Lib.hid (V208.out.trans (b209.mono V208.out.size)); have I7 := Lib.hid i209; clear b209 i209
      go_wp2_with fail
      refine ((show Calls Tryd.prog 15 #[.slice A7 ([[49], [50], [51], [52], [53], [54], [55]] : List B).length c7] w209 fun e w' => e = .returned (.string ⟨#[]⟩) ∧ Below w209.heap.size w209 w' from meta_any A7 _ c7 w209 I7.out (HL.out.later V209.out))).mono ?_; rintro e w210 ⟨rfl, b210⟩
      have V210 := Lib.hid (V209.out.trans (b210.mono V209.out.size)); clear b210
      go_wp2_with fail
      refine (N6.out _).mono ?_; rintro e w211 ⟨A8, c8, rfl, i211, b211⟩
      have V211 := Lib.hid (V210.out.trans (b211.mono V210.out.size)); have I8 := Lib.hid i211; clear b211 i211
      go_wp2_with fail
      refine ((show Calls Tryd.prog 15 #[.slice A8 ([[49], [50], [51], [52], [53], [54]] : List B).length c8] w211 fun e w' => e = .returned (.string ⟨#[109, 49, 0, 50, 0, 51, 0, 52, 0, 53, 0, 54]⟩) ∧ Below w211.heap.size w211 w' from meta_any A8 _ c8 w211 I8.out (HL.out.later V211.out))).mono ?_; rintro e w212 ⟨rfl, b212⟩
      have V212 := Lib.hid (V211.out.trans (b212.mono V211.out.size)); clear b212
      go_wp2_with fail
      refine (Tryd.strings_Repeat ⟨#[120]⟩ 16 _ (by decide) (by decide)).mono ?_; rintro e w213 ⟨rfl, b213⟩
      have V213 := Lib.hid (V212.out.trans (b213.mono V212.out.size)); clear b213
      rw [show (⟨(Lib.repeatL (⟨#[120]⟩ : ByteArray).data.toList 16).toArray⟩ : ByteArray) = bs (List.replicate 16 120) from rfl]
      have IX := Lib.hid (In.row w213 [List.replicate 16 120] (by decide) (by decide))
      have VX := Lib.hid (V213.out.alloc V213.out.size (.cells ([List.replicate 16 120].map str).toArray 9))
      rw [show ([List.replicate 16 (120 : UInt8)].map str).toArray = #[.string (bs (List.replicate 16 120))] from rfl] at IX VX
      have MX := Lib.hid (meta_any (some ⟨w213.heap.size, 0, none⟩) [List.replicate 16 120] 1 _ IX.out (HL.out.later VX.out))
      have hmx : ¬ (bs (metaK [List.replicate 16 120])).toList = [] ∧ ((bs (metaK [List.replicate 16 120])).toList == []) = false ∧ (bs (metaK [List.replicate 16 120])).toList.isEmpty = false := list_ne (by decide)
      obtain ⟨x1, x2, x3⟩ := hmx
      generalize bs (metaK [List.replicate 16 120]) = Mx at *
      generalize bs (List.replicate 16 120) = x16 at *
      go_wp2_with fail
      generalize hWX : w213.alloc (.cells #[.string x16] 9) = WX at *
      clear hWX
      refine MX.out.mono ?_; rintro e w214 ⟨rfl, b214⟩
      have V214 := Lib.hid (VX.out.trans (b214.mono VX.out.size)); clear b214
      go_wp2_with fail
      refine (cWK.out _ V214.out).mono ?_; rintro e w215 ⟨rfl, b215⟩
      have V215 := Lib.hid (V214.out.trans (b215.mono V214.out.size)); clear b215
      go_wp2
      go_ret
      exact ⟨rfl, BW.out.trans (V215.out.mono BW.out.size)⟩
end Go.Proofs.YtnpgoahdemfkpaaDoor
