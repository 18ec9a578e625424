/- The law KeyBack: moved keys are in the range of where they were moved, in their order; moved back they are what they were. Conditions: the listed families as the program's text lays them; what comes in is as long as may be. -/
import Derived.Test.YtnpgoahdemfkpaaDoorWalksW
namespace Go.Proofs.YtnpgoahdemfkpaaDoor
open Go.ChangeShapes Go.WideShapes Go.RowKit Go.Path
set_option maxRecDepth 100000
set_option linter.unusedVariables false
set_option linter.unusedSimpArgs false
/-- Two blocks are kept, and nothing old has turned. -/
structure Kp (w : World) (g : Nat) (t : TypeId) (x y : Value) (g' : Nat) (t' : TypeId) (x' y' : Value) (wx : World) : Prop where
  below : Below w.heap.size w wx
  one : Is wx g t #[x, y]
  two : Is wx g' t' #[x', y']
section
variable {w wx wy : World} {g g' : Nat} {t t' : TypeId} {x y x' y' : Value}
theorem Kp.later (h : Kp w g t x y g' t' x' y' wx) (hb : Below wx.heap.size wx wy) : Kp w g t x y g' t' x' y' wy := ⟨h.below.trans (hb.mono h.below.size), h.one.kept hb, h.two.kept hb⟩
theorem Kp.drew (h : Kp w g t x y g' t' x' y' wx) : Kp w g t x y g' t' x' y' wx.drew := h.later ⟨rfl, rfl, rfl, Nat.le_refl _, fun _ _ => rfl⟩
theorem Kp.cells (h : Kp w g t x y g' t' x' y' wx) : wx.cell? ⟨g, 0, none⟩ = some x ∧ wx.cell? ⟨g, 1, none⟩ = some y := h.one.cells
theorem Kp.cells2 (h : Kp w g t x y g' t' x' y' wx) : wx.cell? ⟨g', 0, none⟩ = some x' ∧ wx.cell? ⟨g', 1, none⟩ = some y' := h.two.cells
theorem Cb.kp {f : Nat} {args : Array Value} {v : Value} (h : Cb w f args v) (hp : Kp w g t x y g' t' x' y' wx) : Calls Tryd.prog f args wx fun e w' => e = .returned v ∧ Kp w g t x y g' t' x' y' w' :=
  (h wx hp.below).mono fun _ _ hh => ⟨hh.1, hp.later hh.2⟩
end
theorem back_no0 (L0 L1 F G : Option Addr) (n0 c0 n1 c1 nf cf ng cg : Nat)  (w : World) (WK : Hid (Cb w 10 #[] (.bool true))) (E0 : Hid (Cb w 9 #[.slice L0 n0 c0] (.bool false)))  :
    Calls Tryd.prog 7 #[.agg #[.slice L0 n0 c0, .slice L1 n1 c1], .slice F nf cf, .slice G ng cg] w fun e w' => e = .returned (.bool true) ∧ Below w.heap.size w w' := by
  have p0 : Kp w w.heap.size 52 (.slice L0 n0 c0) (.slice L1 n1 c1) w.heap.size 52 (.slice L0 n0 c0) (.slice L1 n1 c1) (w.alloc (.cells #[.slice L0 n0 c0, .slice L1 n1 c1] 52)) := ⟨(Below.refl _ _).alloc (Nat.le_refl _) _, Is.new _ _ _, Is.new _ _ _⟩
  go_enter Tryd.func7, Tryd.ntmps7
  go_wp2_with fail
  generalize hW : w.alloc (.cells #[.slice L0 n0 c0, .slice L1 n1 c1] 52) = W at *
  clear hW
  obtain ⟨a0, b0⟩ := p0.cells
  refine (E0.out.kp p0).mono ?_; rintro e w1 ⟨rfl, p1⟩
  obtain ⟨a1, b1⟩ := p1.cells
  clear p0 a0 b0
  go_wp2_with fail
  refine (WK.out.kp p1).mono ?_; rintro e wz ⟨rfl, pz⟩
  have Bz := Lib.hid pz.below
  go_wp2
  go_ret
  exact ⟨rfl, Bz.out⟩
theorem back_no1 (L0 L1 F G : Option Addr) (n0 c0 n1 c1 nf cf ng cg : Nat)  (w : World) (WK : Hid (Cb w 10 #[] (.bool true))) (E0 : Hid (Cb w 9 #[.slice L0 n0 c0] (.bool true))) (E1 : Hid (Cb w 9 #[.slice L1 n1 c1] (.bool false)))  :
    Calls Tryd.prog 7 #[.agg #[.slice L0 n0 c0, .slice L1 n1 c1], .slice F nf cf, .slice G ng cg] w fun e w' => e = .returned (.bool true) ∧ Below w.heap.size w w' := by
  have p0 : Kp w w.heap.size 52 (.slice L0 n0 c0) (.slice L1 n1 c1) w.heap.size 52 (.slice L0 n0 c0) (.slice L1 n1 c1) (w.alloc (.cells #[.slice L0 n0 c0, .slice L1 n1 c1] 52)) := ⟨(Below.refl _ _).alloc (Nat.le_refl _) _, Is.new _ _ _, Is.new _ _ _⟩
  go_enter Tryd.func7, Tryd.ntmps7
  go_wp2_with fail
  generalize hW : w.alloc (.cells #[.slice L0 n0 c0, .slice L1 n1 c1] 52) = W at *
  clear hW
  obtain ⟨a0, b0⟩ := p0.cells
  refine (E0.out.kp p0).mono ?_; rintro e w1 ⟨rfl, p1⟩
  obtain ⟨a1, b1⟩ := p1.cells
  clear p0 a0 b0
  go_wp2_with fail
  refine (E1.out.kp p1).mono ?_; rintro e w2 ⟨rfl, p2⟩
  obtain ⟨a2, b2⟩ := p2.cells
  clear p1 a1 b1
  go_wp2_with fail
  refine (WK.out.kp p2).mono ?_; rintro e wz ⟨rfl, pz⟩
  have Bz := Lib.hid pz.below
  go_wp2
  go_ret
  exact ⟨rfl, Bz.out⟩
theorem back_no2 (L0 L1 F G : Option Addr) (n0 c0 n1 c1 nf cf ng cg : Nat)  (w : World) (WK : Hid (Cb w 10 #[] (.bool true))) (E0 : Hid (Cb w 9 #[.slice L0 n0 c0] (.bool true))) (E1 : Hid (Cb w 9 #[.slice L1 n1 c1] (.bool true))) (EF : Hid (Cb w 9 #[.slice F nf cf] (.bool false)))  :
    Calls Tryd.prog 7 #[.agg #[.slice L0 n0 c0, .slice L1 n1 c1], .slice F nf cf, .slice G ng cg] w fun e w' => e = .returned (.bool true) ∧ Below w.heap.size w w' := by
  have p0 : Kp w w.heap.size 52 (.slice L0 n0 c0) (.slice L1 n1 c1) w.heap.size 52 (.slice L0 n0 c0) (.slice L1 n1 c1) (w.alloc (.cells #[.slice L0 n0 c0, .slice L1 n1 c1] 52)) := ⟨(Below.refl _ _).alloc (Nat.le_refl _) _, Is.new _ _ _, Is.new _ _ _⟩
  go_enter Tryd.func7, Tryd.ntmps7
  go_wp2_with fail
  generalize hW : w.alloc (.cells #[.slice L0 n0 c0, .slice L1 n1 c1] 52) = W at *
  clear hW
  obtain ⟨a0, b0⟩ := p0.cells
  refine (E0.out.kp p0).mono ?_; rintro e w1 ⟨rfl, p1⟩
  obtain ⟨a1, b1⟩ := p1.cells
  clear p0 a0 b0
  go_wp2_with fail
  refine (E1.out.kp p1).mono ?_; rintro e w2 ⟨rfl, p2⟩
  obtain ⟨a2, b2⟩ := p2.cells
  clear p1 a1 b1
  go_wp2_with fail
  refine (EF.out.kp p2).mono ?_; rintro e w3 ⟨rfl, p3⟩
  obtain ⟨a3, b3⟩ := p3.cells
  clear p2 a2 b2
  go_wp2_with fail
  refine (WK.out.kp p3).mono ?_; rintro e wz ⟨rfl, pz⟩
  have Bz := Lib.hid pz.below
  go_wp2
  go_ret
  exact ⟨rfl, Bz.out⟩
theorem back_no3 (L0 L1 F G : Option Addr) (n0 c0 n1 c1 nf cf ng cg : Nat)  (w : World) (WK : Hid (Cb w 10 #[] (.bool true))) (E0 : Hid (Cb w 9 #[.slice L0 n0 c0] (.bool true))) (E1 : Hid (Cb w 9 #[.slice L1 n1 c1] (.bool true))) (EF : Hid (Cb w 9 #[.slice F nf cf] (.bool true))) (EG : Hid (Cb w 9 #[.slice G ng cg] (.bool false)))  :
    Calls Tryd.prog 7 #[.agg #[.slice L0 n0 c0, .slice L1 n1 c1], .slice F nf cf, .slice G ng cg] w fun e w' => e = .returned (.bool true) ∧ Below w.heap.size w w' := by
  have p0 : Kp w w.heap.size 52 (.slice L0 n0 c0) (.slice L1 n1 c1) w.heap.size 52 (.slice L0 n0 c0) (.slice L1 n1 c1) (w.alloc (.cells #[.slice L0 n0 c0, .slice L1 n1 c1] 52)) := ⟨(Below.refl _ _).alloc (Nat.le_refl _) _, Is.new _ _ _, Is.new _ _ _⟩
  go_enter Tryd.func7, Tryd.ntmps7
  go_wp2_with fail
  generalize hW : w.alloc (.cells #[.slice L0 n0 c0, .slice L1 n1 c1] 52) = W at *
  clear hW
  obtain ⟨a0, b0⟩ := p0.cells
  refine (E0.out.kp p0).mono ?_; rintro e w1 ⟨rfl, p1⟩
  obtain ⟨a1, b1⟩ := p1.cells
  clear p0 a0 b0
  go_wp2_with fail
  refine (E1.out.kp p1).mono ?_; rintro e w2 ⟨rfl, p2⟩
  obtain ⟨a2, b2⟩ := p2.cells
  clear p1 a1 b1
  go_wp2_with fail
  refine (EF.out.kp p2).mono ?_; rintro e w3 ⟨rfl, p3⟩
  obtain ⟨a3, b3⟩ := p3.cells
  clear p2 a2 b2
  go_wp2_with fail
  refine (EG.out.kp p3).mono ?_; rintro e w4 ⟨rfl, p4⟩
  obtain ⟨a4, b4⟩ := p4.cells
  clear p3 a3 b3
  go_wp2_with fail
  refine (WK.out.kp p4).mono ?_; rintro e wz ⟨rfl, pz⟩
  have Bz := Lib.hid pz.below
  go_wp2
  go_ret
  exact ⟨rfl, Bz.out⟩
theorem back_no4 (L0 L1 F G : Option Addr) (n0 c0 n1 c1 nf cf ng cg : Nat)  (w : World) (WK : Hid (Cb w 10 #[] (.bool true))) (E0 : Hid (Cb w 9 #[.slice L0 n0 c0] (.bool true))) (E1 : Hid (Cb w 9 #[.slice L1 n1 c1] (.bool true))) (EF : Hid (Cb w 9 #[.slice F nf cf] (.bool true))) (EG : Hid (Cb w 9 #[.slice G ng cg] (.bool true))) (M0 : Hid (Cb w 15 #[.slice L0 n0 c0] (.string ⟨#[]⟩)))  :
    Calls Tryd.prog 7 #[.agg #[.slice L0 n0 c0, .slice L1 n1 c1], .slice F nf cf, .slice G ng cg] w fun e w' => e = .returned (.bool true) ∧ Below w.heap.size w w' := by
  have p0 : Kp w w.heap.size 52 (.slice L0 n0 c0) (.slice L1 n1 c1) w.heap.size 52 (.slice L0 n0 c0) (.slice L1 n1 c1) (w.alloc (.cells #[.slice L0 n0 c0, .slice L1 n1 c1] 52)) := ⟨(Below.refl _ _).alloc (Nat.le_refl _) _, Is.new _ _ _, Is.new _ _ _⟩
  go_enter Tryd.func7, Tryd.ntmps7
  go_wp2_with fail
  generalize hW : w.alloc (.cells #[.slice L0 n0 c0, .slice L1 n1 c1] 52) = W at *
  clear hW
  obtain ⟨a0, b0⟩ := p0.cells
  refine (E0.out.kp p0).mono ?_; rintro e w1 ⟨rfl, p1⟩
  obtain ⟨a1, b1⟩ := p1.cells
  clear p0 a0 b0
  go_wp2_with fail
  refine (E1.out.kp p1).mono ?_; rintro e w2 ⟨rfl, p2⟩
  obtain ⟨a2, b2⟩ := p2.cells
  clear p1 a1 b1
  go_wp2_with fail
  refine (EF.out.kp p2).mono ?_; rintro e w3 ⟨rfl, p3⟩
  obtain ⟨a3, b3⟩ := p3.cells
  clear p2 a2 b2
  go_wp2_with fail
  refine (EG.out.kp p3).mono ?_; rintro e w4 ⟨rfl, p4⟩
  obtain ⟨a4, b4⟩ := p4.cells
  clear p3 a3 b3
  go_wp2_with fail
  refine (M0.out.kp p4).mono ?_; rintro e w5 ⟨rfl, p5⟩
  obtain ⟨a5, b5⟩ := p5.cells
  clear p4 a4 b4
  go_wp2_with fail
  refine (WK.out.kp p5).mono ?_; rintro e wz ⟨rfl, pz⟩
  have Bz := Lib.hid pz.below
  go_wp2
  go_ret
  exact ⟨rfl, Bz.out⟩
theorem back_no5 (L0 L1 F G : Option Addr) (n0 c0 n1 c1 nf cf ng cg : Nat) (Ma : ByteArray) (w : World) (WK : Hid (Cb w 10 #[] (.bool true))) (E0 : Hid (Cb w 9 #[.slice L0 n0 c0] (.bool true))) (E1 : Hid (Cb w 9 #[.slice L1 n1 c1] (.bool true))) (EF : Hid (Cb w 9 #[.slice F nf cf] (.bool true))) (EG : Hid (Cb w 9 #[.slice G ng cg] (.bool true))) (Ma1 : ¬ Ma.toList = []) (Ma2 : (Ma.toList == []) = false) (Ma3 : Ma.toList.isEmpty = false) (M0 : Hid (Cb w 15 #[.slice L0 n0 c0] (.string Ma))) (M1 : Hid (Cb w 15 #[.slice L1 n1 c1] (.string ⟨#[]⟩)))  :
    Calls Tryd.prog 7 #[.agg #[.slice L0 n0 c0, .slice L1 n1 c1], .slice F nf cf, .slice G ng cg] w fun e w' => e = .returned (.bool true) ∧ Below w.heap.size w w' := by
  have p0 : Kp w w.heap.size 52 (.slice L0 n0 c0) (.slice L1 n1 c1) w.heap.size 52 (.slice L0 n0 c0) (.slice L1 n1 c1) (w.alloc (.cells #[.slice L0 n0 c0, .slice L1 n1 c1] 52)) := ⟨(Below.refl _ _).alloc (Nat.le_refl _) _, Is.new _ _ _, Is.new _ _ _⟩
  go_enter Tryd.func7, Tryd.ntmps7
  go_wp2_with fail
  generalize hW : w.alloc (.cells #[.slice L0 n0 c0, .slice L1 n1 c1] 52) = W at *
  clear hW
  obtain ⟨a0, b0⟩ := p0.cells
  refine (E0.out.kp p0).mono ?_; rintro e w1 ⟨rfl, p1⟩
  obtain ⟨a1, b1⟩ := p1.cells
  clear p0 a0 b0
  go_wp2_with fail
  refine (E1.out.kp p1).mono ?_; rintro e w2 ⟨rfl, p2⟩
  obtain ⟨a2, b2⟩ := p2.cells
  clear p1 a1 b1
  go_wp2_with fail
  refine (EF.out.kp p2).mono ?_; rintro e w3 ⟨rfl, p3⟩
  obtain ⟨a3, b3⟩ := p3.cells
  clear p2 a2 b2
  go_wp2_with fail
  refine (EG.out.kp p3).mono ?_; rintro e w4 ⟨rfl, p4⟩
  obtain ⟨a4, b4⟩ := p4.cells
  clear p3 a3 b3
  go_wp2_with fail
  refine (M0.out.kp p4).mono ?_; rintro e w5 ⟨rfl, p5⟩
  obtain ⟨a5, b5⟩ := p5.cells
  clear p4 a4 b4
  go_wp2_with fail
  refine (M1.out.kp p5).mono ?_; rintro e w6 ⟨rfl, p6⟩
  obtain ⟨a6, b6⟩ := p6.cells
  clear p5 a5 b5
  go_wp2_with fail
  refine (WK.out.kp p6).mono ?_; rintro e wz ⟨rfl, pz⟩
  have Bz := Lib.hid pz.below
  go_wp2
  go_ret
  exact ⟨rfl, Bz.out⟩
theorem back_no6 (L0 L1 F G : Option Addr) (n0 c0 n1 c1 nf cf ng cg : Nat) (Ma Mb : ByteArray) (w : World) (WK : Hid (Cb w 10 #[] (.bool true))) (E0 : Hid (Cb w 9 #[.slice L0 n0 c0] (.bool true))) (E1 : Hid (Cb w 9 #[.slice L1 n1 c1] (.bool true))) (EF : Hid (Cb w 9 #[.slice F nf cf] (.bool true))) (EG : Hid (Cb w 9 #[.slice G ng cg] (.bool true))) (Ma1 : ¬ Ma.toList = []) (Ma2 : (Ma.toList == []) = false) (Ma3 : Ma.toList.isEmpty = false) (M0 : Hid (Cb w 15 #[.slice L0 n0 c0] (.string Ma))) (Mb1 : ¬ Mb.toList = []) (Mb2 : (Mb.toList == []) = false) (Mb3 : Mb.toList.isEmpty = false) (M1 : Hid (Cb w 15 #[.slice L1 n1 c1] (.string Mb))) (MF : Hid (Cb w 15 #[.slice F nf cf] (.string ⟨#[]⟩)))  :
    Calls Tryd.prog 7 #[.agg #[.slice L0 n0 c0, .slice L1 n1 c1], .slice F nf cf, .slice G ng cg] w fun e w' => e = .returned (.bool true) ∧ Below w.heap.size w w' := by
  have p0 : Kp w w.heap.size 52 (.slice L0 n0 c0) (.slice L1 n1 c1) w.heap.size 52 (.slice L0 n0 c0) (.slice L1 n1 c1) (w.alloc (.cells #[.slice L0 n0 c0, .slice L1 n1 c1] 52)) := ⟨(Below.refl _ _).alloc (Nat.le_refl _) _, Is.new _ _ _, Is.new _ _ _⟩
  go_enter Tryd.func7, Tryd.ntmps7
  go_wp2_with fail
  generalize hW : w.alloc (.cells #[.slice L0 n0 c0, .slice L1 n1 c1] 52) = W at *
  clear hW
  obtain ⟨a0, b0⟩ := p0.cells
  refine (E0.out.kp p0).mono ?_; rintro e w1 ⟨rfl, p1⟩
  obtain ⟨a1, b1⟩ := p1.cells
  clear p0 a0 b0
  go_wp2_with fail
  refine (E1.out.kp p1).mono ?_; rintro e w2 ⟨rfl, p2⟩
  obtain ⟨a2, b2⟩ := p2.cells
  clear p1 a1 b1
  go_wp2_with fail
  refine (EF.out.kp p2).mono ?_; rintro e w3 ⟨rfl, p3⟩
  obtain ⟨a3, b3⟩ := p3.cells
  clear p2 a2 b2
  go_wp2_with fail
  refine (EG.out.kp p3).mono ?_; rintro e w4 ⟨rfl, p4⟩
  obtain ⟨a4, b4⟩ := p4.cells
  clear p3 a3 b3
  go_wp2_with fail
  refine (M0.out.kp p4).mono ?_; rintro e w5 ⟨rfl, p5⟩
  obtain ⟨a5, b5⟩ := p5.cells
  clear p4 a4 b4
  go_wp2_with fail
  refine (M1.out.kp p5).mono ?_; rintro e w6 ⟨rfl, p6⟩
  obtain ⟨a6, b6⟩ := p6.cells
  clear p5 a5 b5
  go_wp2_with fail
  refine (MF.out.kp p6).mono ?_; rintro e w7 ⟨rfl, p7⟩
  obtain ⟨a7, b7⟩ := p7.cells
  clear p6 a6 b6
  go_wp2_with fail
  refine (WK.out.kp p7).mono ?_; rintro e wz ⟨rfl, pz⟩
  have Bz := Lib.hid pz.below
  go_wp2
  go_ret
  exact ⟨rfl, Bz.out⟩
theorem back_no7 (L0 L1 F G : Option Addr) (n0 c0 n1 c1 nf cf ng cg : Nat) (Ma Mb Mf : ByteArray) (w : World) (WK : Hid (Cb w 10 #[] (.bool true))) (E0 : Hid (Cb w 9 #[.slice L0 n0 c0] (.bool true))) (E1 : Hid (Cb w 9 #[.slice L1 n1 c1] (.bool true))) (EF : Hid (Cb w 9 #[.slice F nf cf] (.bool true))) (EG : Hid (Cb w 9 #[.slice G ng cg] (.bool true))) (Ma1 : ¬ Ma.toList = []) (Ma2 : (Ma.toList == []) = false) (Ma3 : Ma.toList.isEmpty = false) (M0 : Hid (Cb w 15 #[.slice L0 n0 c0] (.string Ma))) (Mb1 : ¬ Mb.toList = []) (Mb2 : (Mb.toList == []) = false) (Mb3 : Mb.toList.isEmpty = false) (M1 : Hid (Cb w 15 #[.slice L1 n1 c1] (.string Mb))) (Mf1 : ¬ Mf.toList = []) (Mf2 : (Mf.toList == []) = false) (Mf3 : Mf.toList.isEmpty = false) (MF : Hid (Cb w 15 #[.slice F nf cf] (.string Mf))) (MG : Hid (Cb w 15 #[.slice G ng cg] (.string ⟨#[]⟩)))  :
    Calls Tryd.prog 7 #[.agg #[.slice L0 n0 c0, .slice L1 n1 c1], .slice F nf cf, .slice G ng cg] w fun e w' => e = .returned (.bool true) ∧ Below w.heap.size w w' := by
  have p0 : Kp w w.heap.size 52 (.slice L0 n0 c0) (.slice L1 n1 c1) w.heap.size 52 (.slice L0 n0 c0) (.slice L1 n1 c1) (w.alloc (.cells #[.slice L0 n0 c0, .slice L1 n1 c1] 52)) := ⟨(Below.refl _ _).alloc (Nat.le_refl _) _, Is.new _ _ _, Is.new _ _ _⟩
  go_enter Tryd.func7, Tryd.ntmps7
  go_wp2_with fail
  generalize hW : w.alloc (.cells #[.slice L0 n0 c0, .slice L1 n1 c1] 52) = W at *
  clear hW
  obtain ⟨a0, b0⟩ := p0.cells
  refine (E0.out.kp p0).mono ?_; rintro e w1 ⟨rfl, p1⟩
  obtain ⟨a1, b1⟩ := p1.cells
  clear p0 a0 b0
  go_wp2_with fail
  refine (E1.out.kp p1).mono ?_; rintro e w2 ⟨rfl, p2⟩
  obtain ⟨a2, b2⟩ := p2.cells
  clear p1 a1 b1
  go_wp2_with fail
  refine (EF.out.kp p2).mono ?_; rintro e w3 ⟨rfl, p3⟩
  obtain ⟨a3, b3⟩ := p3.cells
  clear p2 a2 b2
  go_wp2_with fail
  refine (EG.out.kp p3).mono ?_; rintro e w4 ⟨rfl, p4⟩
  obtain ⟨a4, b4⟩ := p4.cells
  clear p3 a3 b3
  go_wp2_with fail
  refine (M0.out.kp p4).mono ?_; rintro e w5 ⟨rfl, p5⟩
  obtain ⟨a5, b5⟩ := p5.cells
  clear p4 a4 b4
  go_wp2_with fail
  refine (M1.out.kp p5).mono ?_; rintro e w6 ⟨rfl, p6⟩
  obtain ⟨a6, b6⟩ := p6.cells
  clear p5 a5 b5
  go_wp2_with fail
  refine (MF.out.kp p6).mono ?_; rintro e w7 ⟨rfl, p7⟩
  obtain ⟨a7, b7⟩ := p7.cells
  clear p6 a6 b6
  go_wp2_with fail
  refine (MG.out.kp p7).mono ?_; rintro e w8 ⟨rfl, p8⟩
  obtain ⟨a8, b8⟩ := p8.cells
  clear p7 a7 b7
  go_wp2_with fail
  refine (WK.out.kp p8).mono ?_; rintro e wz ⟨rfl, pz⟩
  have Bz := Lib.hid pz.below
  go_wp2
  go_ret
  exact ⟨rfl, Bz.out⟩
theorem back_no8 (L0 L1 F G : Option Addr) (n0 c0 n1 c1 nf cf ng cg : Nat) (Ma Mb Mf Mg : ByteArray) (w : World) (WK : Hid (Cb w 10 #[] (.bool true))) (E0 : Hid (Cb w 9 #[.slice L0 n0 c0] (.bool true))) (E1 : Hid (Cb w 9 #[.slice L1 n1 c1] (.bool true))) (EF : Hid (Cb w 9 #[.slice F nf cf] (.bool true))) (EG : Hid (Cb w 9 #[.slice G ng cg] (.bool true))) (Ma1 : ¬ Ma.toList = []) (Ma2 : (Ma.toList == []) = false) (Ma3 : Ma.toList.isEmpty = false) (M0 : Hid (Cb w 15 #[.slice L0 n0 c0] (.string Ma))) (Mb1 : ¬ Mb.toList = []) (Mb2 : (Mb.toList == []) = false) (Mb3 : Mb.toList.isEmpty = false) (M1 : Hid (Cb w 15 #[.slice L1 n1 c1] (.string Mb))) (Mf1 : ¬ Mf.toList = []) (Mf2 : (Mf.toList == []) = false) (Mf3 : Mf.toList.isEmpty = false) (MF : Hid (Cb w 15 #[.slice F nf cf] (.string Mf))) (Mg1 : ¬ Mg.toList = []) (Mg2 : (Mg.toList == []) = false) (Mg3 : Mg.toList.isEmpty = false) (MG : Hid (Cb w 15 #[.slice G ng cg] (.string Mg))) (hnf : (nf : Int) = 0) :
    Calls Tryd.prog 7 #[.agg #[.slice L0 n0 c0, .slice L1 n1 c1], .slice F nf cf, .slice G ng cg] w fun e w' => e = .returned (.bool true) ∧ Below w.heap.size w w' := by
  obtain rfl : nf = 0 := by omega
  clear hnf
  have p0 : Kp w w.heap.size 52 (.slice L0 n0 c0) (.slice L1 n1 c1) w.heap.size 52 (.slice L0 n0 c0) (.slice L1 n1 c1) (w.alloc (.cells #[.slice L0 n0 c0, .slice L1 n1 c1] 52)) := ⟨(Below.refl _ _).alloc (Nat.le_refl _) _, Is.new _ _ _, Is.new _ _ _⟩
  go_enter Tryd.func7, Tryd.ntmps7
  go_wp2_with fail
  generalize hW : w.alloc (.cells #[.slice L0 n0 c0, .slice L1 n1 c1] 52) = W at *
  clear hW
  obtain ⟨a0, b0⟩ := p0.cells
  refine (E0.out.kp p0).mono ?_; rintro e w1 ⟨rfl, p1⟩
  obtain ⟨a1, b1⟩ := p1.cells
  clear p0 a0 b0
  go_wp2_with fail
  refine (E1.out.kp p1).mono ?_; rintro e w2 ⟨rfl, p2⟩
  obtain ⟨a2, b2⟩ := p2.cells
  clear p1 a1 b1
  go_wp2_with fail
  refine (EF.out.kp p2).mono ?_; rintro e w3 ⟨rfl, p3⟩
  obtain ⟨a3, b3⟩ := p3.cells
  clear p2 a2 b2
  go_wp2_with fail
  refine (EG.out.kp p3).mono ?_; rintro e w4 ⟨rfl, p4⟩
  obtain ⟨a4, b4⟩ := p4.cells
  clear p3 a3 b3
  go_wp2_with fail
  refine (M0.out.kp p4).mono ?_; rintro e w5 ⟨rfl, p5⟩
  obtain ⟨a5, b5⟩ := p5.cells
  clear p4 a4 b4
  go_wp2_with fail
  refine (M1.out.kp p5).mono ?_; rintro e w6 ⟨rfl, p6⟩
  obtain ⟨a6, b6⟩ := p6.cells
  clear p5 a5 b5
  go_wp2_with fail
  refine (MF.out.kp p6).mono ?_; rintro e w7 ⟨rfl, p7⟩
  obtain ⟨a7, b7⟩ := p7.cells
  clear p6 a6 b6
  go_wp2_with fail
  refine (MG.out.kp p7).mono ?_; rintro e w8 ⟨rfl, p8⟩
  obtain ⟨a8, b8⟩ := p8.cells
  clear p7 a7 b7
  go_wp2_with fail
  refine (WK.out.kp p8).mono ?_; rintro e wz ⟨rfl, pz⟩
  have Bz := Lib.hid pz.below
  go_wp2
  go_ret
  exact ⟨rfl, Bz.out⟩
theorem back_no9 (L0 L1 F G : Option Addr) (n0 c0 n1 c1 nf cf ng cg : Nat) (Ma Mb Mf Mg : ByteArray) (w : World) (WK : Hid (Cb w 10 #[] (.bool true))) (E0 : Hid (Cb w 9 #[.slice L0 n0 c0] (.bool true))) (E1 : Hid (Cb w 9 #[.slice L1 n1 c1] (.bool true))) (EF : Hid (Cb w 9 #[.slice F nf cf] (.bool true))) (EG : Hid (Cb w 9 #[.slice G ng cg] (.bool true))) (Ma1 : ¬ Ma.toList = []) (Ma2 : (Ma.toList == []) = false) (Ma3 : Ma.toList.isEmpty = false) (M0 : Hid (Cb w 15 #[.slice L0 n0 c0] (.string Ma))) (Mb1 : ¬ Mb.toList = []) (Mb2 : (Mb.toList == []) = false) (Mb3 : Mb.toList.isEmpty = false) (M1 : Hid (Cb w 15 #[.slice L1 n1 c1] (.string Mb))) (Mf1 : ¬ Mf.toList = []) (Mf2 : (Mf.toList == []) = false) (Mf3 : Mf.toList.isEmpty = false) (MF : Hid (Cb w 15 #[.slice F nf cf] (.string Mf))) (Mg1 : ¬ Mg.toList = []) (Mg2 : (Mg.toList == []) = false) (Mg3 : Mg.toList.isEmpty = false) (MG : Hid (Cb w 15 #[.slice G ng cg] (.string Mg))) (hnf : ¬ (nf : Int) = 0) (hng : (ng : Int) = 0) :
    Calls Tryd.prog 7 #[.agg #[.slice L0 n0 c0, .slice L1 n1 c1], .slice F nf cf, .slice G ng cg] w fun e w' => e = .returned (.bool true) ∧ Below w.heap.size w w' := by
  have hnf' : ((nf : Int) == 0) = false := by simpa using hnf
  obtain rfl : ng = 0 := by omega
  clear hng
  have p0 : Kp w w.heap.size 52 (.slice L0 n0 c0) (.slice L1 n1 c1) w.heap.size 52 (.slice L0 n0 c0) (.slice L1 n1 c1) (w.alloc (.cells #[.slice L0 n0 c0, .slice L1 n1 c1] 52)) := ⟨(Below.refl _ _).alloc (Nat.le_refl _) _, Is.new _ _ _, Is.new _ _ _⟩
  go_enter Tryd.func7, Tryd.ntmps7
  go_wp2_with fail
  generalize hW : w.alloc (.cells #[.slice L0 n0 c0, .slice L1 n1 c1] 52) = W at *
  clear hW
  obtain ⟨a0, b0⟩ := p0.cells
  refine (E0.out.kp p0).mono ?_; rintro e w1 ⟨rfl, p1⟩
  obtain ⟨a1, b1⟩ := p1.cells
  clear p0 a0 b0
  go_wp2_with fail
  refine (E1.out.kp p1).mono ?_; rintro e w2 ⟨rfl, p2⟩
  obtain ⟨a2, b2⟩ := p2.cells
  clear p1 a1 b1
  go_wp2_with fail
  refine (EF.out.kp p2).mono ?_; rintro e w3 ⟨rfl, p3⟩
  obtain ⟨a3, b3⟩ := p3.cells
  clear p2 a2 b2
  go_wp2_with fail
  refine (EG.out.kp p3).mono ?_; rintro e w4 ⟨rfl, p4⟩
  obtain ⟨a4, b4⟩ := p4.cells
  clear p3 a3 b3
  go_wp2_with fail
  refine (M0.out.kp p4).mono ?_; rintro e w5 ⟨rfl, p5⟩
  obtain ⟨a5, b5⟩ := p5.cells
  clear p4 a4 b4
  go_wp2_with fail
  refine (M1.out.kp p5).mono ?_; rintro e w6 ⟨rfl, p6⟩
  obtain ⟨a6, b6⟩ := p6.cells
  clear p5 a5 b5
  go_wp2_with fail
  refine (MF.out.kp p6).mono ?_; rintro e w7 ⟨rfl, p7⟩
  obtain ⟨a7, b7⟩ := p7.cells
  clear p6 a6 b6
  go_wp2_with fail
  refine (MG.out.kp p7).mono ?_; rintro e w8 ⟨rfl, p8⟩
  obtain ⟨a8, b8⟩ := p8.cells
  clear p7 a7 b7
  go_wp2_with fail
  refine (WK.out.kp p8).mono ?_; rintro e wz ⟨rfl, pz⟩
  have Bz := Lib.hid pz.below
  go_wp2
  go_ret
  exact ⟨rfl, Bz.out⟩
set_option maxHeartbeats 4000000 in
theorem back_core (L0 L1 F G : Option Addr) (n0 c0 n1 c1 nf cf ng cg : Nat) (Ma Mb Mf Mg X Y F1 T1 F2 T2 : ByteArray) (p q u v : Bool) (w : World) (Ma1 : ¬ Ma.toList = []) (Ma2 : (Ma.toList == []) = false) (Ma3 : Ma.toList.isEmpty = false) (Mb1 : ¬ Mb.toList = []) (Mb2 : (Mb.toList == []) = false) (Mb3 : Mb.toList.isEmpty = false) (Mf1 : ¬ Mf.toList = []) (Mf2 : (Mf.toList == []) = false) (Mf3 : Mf.toList.isEmpty = false) (Mg1 : ¬ Mg.toList = []) (Mg2 : (Mg.toList == []) = false) (Mg3 : Mg.toList.isEmpty = false) (hnf : ¬ (nf : Int) = 0) (hng : ¬ (ng : Int) = 0) (WK : Hid (Cb w 10 #[] (.bool true)))
    (E0 : Hid (Cb w 9 #[.slice L0 n0 c0] (.bool true))) (E1 : Hid (Cb w 9 #[.slice L1 n1 c1] (.bool true))) (EF : Hid (Cb w 9 #[.slice F nf cf] (.bool true))) (EG : Hid (Cb w 9 #[.slice G ng cg] (.bool true)))
    (M0 : Hid (Cb w 15 #[.slice L0 n0 c0] (.string Ma))) (M1 : Hid (Cb w 15 #[.slice L1 n1 c1] (.string Mb))) (MF : Hid (Cb w 15 #[.slice F nf cf] (.string Mf))) (MG : Hid (Cb w 15 #[.slice G ng cg] (.string Mg)))
    (VA : Hid (Cb w 24 #[.string Ma, .slice F nf cf, .slice G ng cg] (.string X))) (VB : Hid (Cb w 24 #[.string Mb, .slice F nf cf, .slice G ng cg] (.string Y))) (SU : Hid (Cb w 11 #[.slice G ng cg] (.tuple #[.agg #[.string F1, .string T1], .agg #[.string F2, .string T2]])))
    (BP : Hid (Cb w 29 #[.slice L0 n0 c0, .slice F nf cf] (.bool p))) (BQ : Hid (Cb w 29 #[.slice L1 n1 c1, .slice F nf cf] (.bool q))) (BU : Hid (Cb w 29 #[.slice F nf cf, .slice G ng cg] (.bool u))) (BV : Hid (Cb w 29 #[.slice G ng cg, .slice F nf cf] (.bool v)))
    (D : Hid (p = false ∧ (X.toList == Ma.toList) = true ∨ p = true ∧ Cb w 30 #[.string X, .agg #[.string F1, .string T1]] (.bool true) ∧ Cb w 24 #[.string X, .slice G ng cg, .slice F nf cf] (.string Ma) ∧ (q = true → Op.bytesLess X.toList Y.toList = Op.bytesLess Ma.toList Mb.toList))) :
    Calls Tryd.prog 7 #[.agg #[.slice L0 n0 c0, .slice L1 n1 c1], .slice F nf cf, .slice G ng cg] w fun e w' => e = .returned (.bool true) ∧ Below w.heap.size w w' := by
  have hnf' : ((nf : Int) == 0) = false := by simpa using hnf
  have hng' : ((ng : Int) == 0) = false := by simpa using hng
  have p0 : Kp w w.heap.size 52 (.slice L0 n0 c0) (.slice L1 n1 c1) w.heap.size 52 (.slice L0 n0 c0) (.slice L1 n1 c1) (w.alloc (.cells #[.slice L0 n0 c0, .slice L1 n1 c1] 52)) := ⟨(Below.refl _ _).alloc (Nat.le_refl _) _, Is.new _ _ _, Is.new _ _ _⟩
  go_enter Tryd.func7, Tryd.ntmps7
  go_wp2_with fail
  generalize hW : w.alloc (.cells #[.slice L0 n0 c0, .slice L1 n1 c1] 52) = W at *
  clear hW
  obtain ⟨a0, b0⟩ := p0.cells
  refine (E0.out.kp p0).mono ?_; rintro e w1 ⟨rfl, p1⟩
  obtain ⟨a1, b1⟩ := p1.cells
  clear p0 a0 b0
  go_wp2_with fail
  refine (E1.out.kp p1).mono ?_; rintro e w2 ⟨rfl, p2⟩
  obtain ⟨a2, b2⟩ := p2.cells
  clear p1 a1 b1
  go_wp2_with fail
  refine (EF.out.kp p2).mono ?_; rintro e w3 ⟨rfl, p3⟩
  obtain ⟨a3, b3⟩ := p3.cells
  clear p2 a2 b2
  go_wp2_with fail
  refine (EG.out.kp p3).mono ?_; rintro e w4 ⟨rfl, p4⟩
  obtain ⟨a4, b4⟩ := p4.cells
  clear p3 a3 b3
  go_wp2_with fail
  refine (M0.out.kp p4).mono ?_; rintro e w5 ⟨rfl, p5⟩
  obtain ⟨a5, b5⟩ := p5.cells
  clear p4 a4 b4
  go_wp2_with fail
  refine (M1.out.kp p5).mono ?_; rintro e w6 ⟨rfl, p6⟩
  obtain ⟨a6, b6⟩ := p6.cells
  clear p5 a5 b5
  go_wp2_with fail
  refine (MF.out.kp p6).mono ?_; rintro e w7 ⟨rfl, p7⟩
  obtain ⟨a7, b7⟩ := p7.cells
  clear p6 a6 b6
  go_wp2_with fail
  refine (MG.out.kp p7).mono ?_; rintro e w8 ⟨rfl, p8⟩
  obtain ⟨a8, b8⟩ := p8.cells
  clear p7 a7 b7
  have m0 := M0.out; have m1 := M1.out
  have cM0 := Lib.hid (fun wx (h : Kp w w.heap.size 52 (.slice L0 n0 c0) (.slice L1 n1 c1) w.heap.size 52 (.slice L0 n0 c0) (.slice L1 n1 c1) wx) => m0.kp h)
  have cM1 := Lib.hid (fun wx (h : Kp w w.heap.size 52 (.slice L0 n0 c0) (.slice L1 n1 c1) w.heap.size 52 (.slice L0 n0 c0) (.slice L1 n1 c1) wx) => m1.kp h)
  clear m0 m1
  go_upto_region 3 with fail
  have p8d := p8.drew
  go_region_held3 (fun wx => wx.cell? ⟨w.heap.size, 0, none⟩ = some (.slice L0 n0 c0) ∧ wx.cell? ⟨w.heap.size, 1, none⟩ = some (.slice L1 n1 c1))
    (first | (with_reducible exact Kp.cells (by assumption)))
    (first
      | (with_reducible refine (cM0.out _ (by assumption)).mono ?_; rintro e w9 ⟨rfl, p9⟩)
      | (with_reducible refine (cM1.out _ (by assumption)).mono ?_; rintro e w10 ⟨rfl, p10⟩))
  all_goals
    clear p8 p8d p9 a8 b8
    go_wp2_with fail
    refine (VA.out.kp p10).mono ?_; rintro e w11 ⟨rfl, p11⟩
    go_wp2_with fail
    refine (VB.out.kp p11).mono ?_; rintro e w12 ⟨rfl, p12⟩
    go_wp2_with fail
    refine (SU.out.kp p12).mono ?_; rintro e w13 ⟨rfl, p13⟩
    clear p10 p11 p12
    have hX := Boxes.new w13 26 #[.string F1, .string T1] 26 #[.string F2, .string T2]
    have p14 : Kp w w.heap.size 52 (.slice L0 n0 c0) (.slice L1 n1 c1) w13.heap.size 26 (.string F1) (.string T1) ((w13.alloc (.cells #[.string F1, .string T1] 26)).alloc (.cells #[.string F2, .string T2] 26)) := ⟨p13.below.trans (hX.below.mono p13.below.size), p13.one.kept hX.below, hX.one⟩
    have bp := BP.out; have bq := BQ.out
    have cBP := Lib.hid (fun wx (h : Kp w w.heap.size 52 (.slice L0 n0 c0) (.slice L1 n1 c1) w13.heap.size 26 (.string F1) (.string T1) wx) => bp.kp h)
    have cBQ := Lib.hid (fun wx (h : Kp w w.heap.size 52 (.slice L0 n0 c0) (.slice L1 n1 c1) w13.heap.size 26 (.string F1) (.string T1) wx) => bq.kp h)
    clear hX p13 bp bq
    go_upto_region 6 with fail
    generalize hW2 : (w13.alloc (.cells #[.string F1, .string T1] 26)).alloc (.cells #[.string F2, .string T2] 26) = W2 at *
    clear hW2
    have p14d := p14.drew
    obtain ⟨a14, b14⟩ := p14.cells
    go_region_held3 (fun wx => wx.cell? ⟨w.heap.size, 0, none⟩ = some (.slice L0 n0 c0) ∧ wx.cell? ⟨w.heap.size, 1, none⟩ = some (.slice L1 n1 c1))
      (first | (with_reducible exact Kp.cells (by assumption)))
      (first
        | (with_reducible refine (cBP.out _ (by assumption)).mono ?_; rintro e w15 ⟨rfl, p15⟩)
        | (with_reducible refine (cBQ.out _ (by assumption)).mono ?_; rintro e w16 ⟨rfl, p16⟩))
    all_goals
      clear p14 p14d p15 a14 b14
      obtain ⟨d0, d1⟩ := p16.cells2
      rcases D.out with ⟨rfl, hXM⟩ | ⟨rfl, hIN, hMV, hLT⟩
      · go_wp2_with fail
        refine (WK.out.kp p16).mono ?_; rintro e wz ⟨rfl, pz⟩
        have Bz := Lib.hid pz.below
        go_wp2
        go_ret
        exact ⟨rfl, Bz.out⟩
      · have IN := Lib.hid hIN; have MV := Lib.hid hMV; have LT := Lib.hid hLT
        clear hIN hMV hLT
        cases q
        all_goals
          first
          | have lt := LT.out (by trivial)
          | skip
          go_wp2_with fail
          refine (IN.out.kp p16).mono ?_; rintro e w17 ⟨rfl, p17⟩
          go_wp2_with fail
          refine (BU.out.kp p17).mono ?_; rintro e w18 ⟨rfl, p18⟩
          cases u
          · go_wp2_with fail
            refine (BV.out.kp p18).mono ?_; rintro e w19 ⟨rfl, p19⟩
            cases v
            · go_wp2_with fail
              refine (MV.out.kp p19).mono ?_; rintro e w20 ⟨rfl, p20⟩
              go_wp2_with fail
              refine (WK.out.kp p20).mono ?_; rintro e wz ⟨rfl, pz⟩
              have Bz := Lib.hid pz.below
              go_wp2
              go_ret
              exact ⟨rfl, Bz.out⟩
            · go_wp2_with fail
              refine (WK.out.kp p19).mono ?_; rintro e wz ⟨rfl, pz⟩
              have Bz := Lib.hid pz.below
              go_wp2
              go_ret
              exact ⟨rfl, Bz.out⟩
          · go_wp2_with fail
            refine (WK.out.kp p18).mono ?_; rintro e wz ⟨rfl, pz⟩
            have Bz := Lib.hid pz.below
            go_wp2
            go_ret
            exact ⟨rfl, Bz.out⟩
theorem back_law (L0 L1 F G : Option Addr) (l0 l1 fr tt : List B) (c0 c1 cf cg : Nat) (h0 : l0.length ≤ maxLen) (k0 : l0.length ≤ c0) (y0 : ∀ x ∈ l0, x.length ≤ maxLen) (h1 : l1.length ≤ maxLen) (k1 : l1.length ≤ c1) (y1 : ∀ x ∈ l1, x.length ≤ maxLen) (h2 : fr.length ≤ maxLen) (k2 : fr.length ≤ cf) (y2 : ∀ x ∈ fr, x.length ≤ maxLen) (h3 : tt.length ≤ maxLen) (k3 : tt.length ≤ cg) (y3 : ∀ x ∈ tt, x.length ≤ maxLen)
    (w : World) (r0 : Rs w L0 l0) (r1 : Rs w L1 l1) (r2 : Rs w F fr) (r3 : Rs w G tt) (hL : Laid w) :
    Calls Tryd.prog 7 #[.agg #[.slice L0 l0.length c0, .slice L1 l1.length c1], .slice F fr.length cf, .slice G tt.length cg] w fun e w' => e = .returned (.bool true) ∧ Below w.heap.size w w' := by
  have E0 := few_cb (c := c0) h0 r0 y0
  have E1 := few_cb (c := c1) h1 r1 y1
  have E2 := few_cb (c := cf) h2 r2 y2
  have E3 := few_cb (c := cg) h3 r3 y3
  have WK := Lib.hid (works_cb hL)
  cases e0 : fewB l0
  · rw [e0] at E0
    exact back_no0 L0 L1 F G _ _ _ _ _ _ _ _ w WK (Lib.hid E0)
  cases e1 : fewB l1
  · rw [e0] at E0; rw [e1] at E1
    exact back_no1 L0 L1 F G _ _ _ _ _ _ _ _ w WK (Lib.hid E0) (Lib.hid E1)
  cases e2 : fewB fr
  · rw [e0] at E0; rw [e1] at E1; rw [e2] at E2
    exact back_no2 L0 L1 F G _ _ _ _ _ _ _ _ w WK (Lib.hid E0) (Lib.hid E1) (Lib.hid E2)
  cases e3 : fewB tt
  · rw [e0] at E0; rw [e1] at E1; rw [e2] at E2; rw [e3] at E3
    exact back_no3 L0 L1 F G _ _ _ _ _ _ _ _ w WK (Lib.hid E0) (Lib.hid E1) (Lib.hid E2) (Lib.hid E3)
  rw [e0] at E0; rw [e1] at E1; rw [e2] at E2; rw [e3] at E3
  have E0 := Lib.hid E0; have E1 := Lib.hid E1; have E2 := Lib.hid E2; have E3 := Lib.hid E3
  have I0 := In.few r0 k0 ((fewB_iff l0).1 e0)
  have I1 := In.few r1 k1 ((fewB_iff l1).1 e1)
  have I2 := In.few r2 k2 ((fewB_iff fr).1 e2)
  have I3 := In.few r3 k3 ((fewB_iff tt).1 e3)
  have M0 := Lib.hid (meta_cb I0 hL); have M1 := Lib.hid (meta_cb I1 hL); have M2 := Lib.hid (meta_cb I2 hL); have M3 := Lib.hid (meta_cb I3 hL)
  have no : ∀ l : List B, right l = false → metaK l = [] := fun l h => if_neg (by rw [h]; decide)
  have ys : ∀ l : List B, right l = true → metaK l ≠ [] := fun l h => by rw [meta_is h]; simp
  cases q0 : right l0
  · rw [no l0 q0] at M0
    exact back_no4 L0 L1 F G _ _ _ _ _ _ _ _ w WK E0 E1 E2 E3 M0
  have z0 := list_ne (ys l0 q0)
  cases q1 : right l1
  · rw [no l1 q1] at M1
    exact back_no5 L0 L1 F G _ _ _ _ _ _ _ _ _ w WK E0 E1 E2 E3 z0.1 z0.2.1 z0.2.2 M0 M1
  have z1 := list_ne (ys l1 q1)
  cases q2 : right fr
  · rw [no fr q2] at M2
    exact back_no6 L0 L1 F G _ _ _ _ _ _ _ _ _ _ w WK E0 E1 E2 E3 z0.1 z0.2.1 z0.2.2 M0 z1.1 z1.2.1 z1.2.2 M1 M2
  have z2 := list_ne (ys fr q2)
  cases q3 : right tt
  · rw [no tt q3] at M3
    exact back_no7 L0 L1 F G _ _ _ _ _ _ _ _ _ _ _ w WK E0 E1 E2 E3 z0.1 z0.2.1 z0.2.2 M0 z1.1 z1.2.1 z1.2.2 M1 z2.1 z2.2.1 z2.2.2 M2 M3
  have z3 := list_ne (ys tt q3)
  by_cases f0 : fr = []
  · exact back_no8 L0 L1 F G _ _ _ _ _ _ _ _ _ _ _ _ w WK E0 E1 E2 E3 z0.1 z0.2.1 z0.2.2 M0 z1.1 z1.2.1 z1.2.2 M1 z2.1 z2.2.1 z2.2.2 M2 z3.1 z3.2.1 z3.2.2 M3 (by rw [f0]; rfl)
  have hf : ¬ (fr.length : Int) = 0 := by have := List.length_pos_iff.2 f0; omega
  by_cases t0 : tt = []
  · exact back_no9 L0 L1 F G _ _ _ _ _ _ _ _ _ _ _ _ w WK E0 E1 E2 E3 z0.1 z0.2.1 z0.2.2 M0 z1.1 z1.2.1 z1.2.2 M1 z2.1 z2.2.1 z2.2.2 M2 z3.1 z3.2.1 z3.2.2 M3 hf (by rw [t0]; rfl)
  have hg : ¬ (tt.length : Int) = 0 := by have := List.length_pos_iff.2 t0; omega
  have len : ∀ l : List B, right l = true → (metaK l).length ≤ 103 := fun l h => by rw [meta_is h]; have := right_len h; simp; omega
  have mv : ∀ (k : B) (hk : k.length ≤ 900) (A C : Option Addr) (a b : List B) (c d : Nat), In w A a c → In w C b d → Cb w 24 #[.string (bs k), .slice A a.length c, .slice C b.length d] (.string (bs (moveK k a b))) := fun k hk A C a b c d ia ib wx hb => by
    have := move_any (bs k) (by rw [bs_size]; exact hk) A C a b c d wx (ia.kept hb) (ib.kept hb) (hL.later hb)
    rw [bs_data] at this
    exact this
  have la := len l0 q0; have lb := len l1 q1
  have lm : (moveK (metaK l0) fr tt).length ≤ 900 := by
    cases hw : within fr l0
    · rw [move_not q0 q2 f0 hw]; omega
    · obtain ⟨s, a1, a2, _⟩ := moved q0 q2 q3 f0 t0 hw
      rw [a2]
      have := right_len q3
      rw [a1] at la
      simp at la ⊢
      omega
  refine back_core L0 L1 F G _ _ _ _ _ _ _ _ (bs (metaK l0)) (bs (metaK l1)) (bs (metaK fr)) (bs (metaK tt)) (bs (moveK (metaK l0) fr tt)) (bs (moveK (metaK l1) fr tt)) (bs (subF 109 tt)) (bs (subT 109 tt)) (bs (subF 100 tt)) (bs (subT 100 tt)) (within fr l0) (within fr l1) (within tt fr) (within fr tt) w
    z0.1 z0.2.1 z0.2.2 z1.1 z1.2.1 z1.2.2 z2.1 z2.2.1 z2.2.2 z3.1 z3.2.1 z3.2.2 hf hg WK E0 E1 E2 E3 M0 M1 M2 M3 (Lib.hid (mv _ (by omega) F G fr tt cf cg I2 I3)) (Lib.hid (mv _ (by omega) F G fr tt cf cg I2 I3))
    (Lib.hid fun wx hb => subtrees_any G tt cg wx (I3.kept hb) (hL.later hb)) (Lib.hid (begins_cb I0 I2)) (Lib.hid (begins_cb I1 I2)) (Lib.hid (begins_cb I2 I3)) (Lib.hid (begins_cb I3 I2)) (Lib.hid ?_)
  cases hw : within fr l0
  · refine .inl ⟨rfl, ?_⟩
    rw [move_not q0 q2 f0 hw]
    exact same_text.2 rfl
  · refine .inr ⟨rfl, in_cb (moved_in q0 q2 q3 f0 t0 hw), ?_, fun hq => ?_⟩
    · have := mv (moveK (metaK l0) fr tt) lm G F tt fr cg cf I3 I2
      rw [moved_back q0 q2 q3 f0 t0 hw] at this
      exact this
    · rw [text_list, text_list, text_list, text_list, bs_data, bs_data, bs_data, bs_data]
      exact moved_lt q0 q1 q2 q3 f0 t0 hw hq
end Go.Proofs.YtnpgoahdemfkpaaDoor
