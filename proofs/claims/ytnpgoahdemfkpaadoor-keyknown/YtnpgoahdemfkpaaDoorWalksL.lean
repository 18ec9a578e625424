/- Moves, in the program. Conditions: the listed families as the program's text lays them; keys of a thousand bytes at most. -/
import Derived.Test.YtnpgoahdemfkpaaDoorWalksK
namespace Go.Proofs.YtnpgoahdemfkpaaDoor
open Go.ChangeShapes Go.WideShapes Go.RowKit Go.Path
set_option maxRecDepth 100000
set_option linter.unusedVariables false
set_option linter.unusedSimpArgs false
theorem ix0 (w : World) : (Instr.index 60 (.agg #[.string ⟨#[109]⟩, .string ⟨#[110]⟩, .string ⟨#[100]⟩, .string ⟨#[101]⟩]) (.int .i64 0)).run Tryd.prog w = .ok (.agg #[.string ⟨#[109]⟩, .string ⟨#[110]⟩]) w := by kernel_rfl
theorem ix1 (w : World) : (Instr.index 60 (.agg #[.string ⟨#[109]⟩, .string ⟨#[110]⟩, .string ⟨#[100]⟩, .string ⟨#[101]⟩]) (.int .i64 1)).run Tryd.prog w = .ok (.agg #[.string ⟨#[100]⟩, .string ⟨#[101]⟩]) w := by kernel_rfl
set_option maxHeartbeats 4000000 in
theorem move_core (A C : Option Addr) (n c m d : Nat) (k h0 h1 s0 s1 t0 t1 R : ByteArray) (f0 f1 z0 z1 ok0 ok1 : Bool) (hn : ¬ (n : Int) = 0) (hm : ¬ (m : Int) = 0) (hS0 : s0.size ≤ 1000) (hS1 : s1.size ≤ 1000) (hT0 : t0.size ≤ 1000) (hT1 : t1.size ≤ 1000) (w : World) (hL : Laid w)
    (RF : Hid (Calls Tryd.prog 36 #[.slice A n c] w fun e w' => e = .returned (.bool true) ∧ w = w'))
    (RT : Hid (Calls Tryd.prog 36 #[.slice C m d] w fun e w' => e = .returned (.bool true) ∧ w = w'))
    (H0 : Hid (∀ wx, Below w.heap.size w wx → Calls Tryd.prog 40 #[.agg #[.string ⟨#[109]⟩, .string ⟨#[110]⟩], .slice A n c] wx fun e w' => e = .returned (.string h0) ∧ Below wx.heap.size wx w'))
    (H1 : Hid (∀ wx, Below w.heap.size w wx → Calls Tryd.prog 40 #[.agg #[.string ⟨#[100]⟩, .string ⟨#[101]⟩], .slice A n c] wx fun e w' => e = .returned (.string h1) ∧ Below wx.heap.size wx w'))
    (T0 : Hid (∀ wx, Below w.heap.size w wx → Calls Tryd.prog 40 #[.agg #[.string ⟨#[109]⟩, .string ⟨#[110]⟩], .slice C m d] wx fun e w' => e = .returned (.string t0) ∧ Below wx.heap.size wx w'))
    (T1 : Hid (∀ wx, Below w.heap.size w wx → Calls Tryd.prog 40 #[.agg #[.string ⟨#[100]⟩, .string ⟨#[101]⟩], .slice C m d] wx fun e w' => e = .returned (.string t1) ∧ Below wx.heap.size wx w'))
    (C0 : Hid (∀ wx, Calls Tryd.prog 41 #[.string k, .string h0] wx fun e w' => e = .returned (.tuple #[.string s0, .bool f0]) ∧ wx = w'))
    (C1 : Hid (∀ wx, Calls Tryd.prog 41 #[.string k, .string h1] wx fun e w' => e = .returned (.tuple #[.string s1, .bool f1]) ∧ wx = w'))
    (P0 : Hid (∀ wx, Calls Tryd.prog 42 #[.string s0, .string ⟨#[0]⟩] wx fun e w' => e = .returned (.bool z0) ∧ wx = w'))
    (P1 : Hid (∀ wx, Calls Tryd.prog 42 #[.string s1, .string ⟨#[0]⟩] wx fun e w' => e = .returned (.bool z1) ∧ wx = w'))
    (W0 : Hid (f0 = false ∨ f0 = true ∧ (s0 = ⟨#[]⟩ ∨ ¬ s0.toList = [] ∧ (s0.toList == []) = false ∧ s0.toList.isEmpty = false ∧ (z0 = true ∨ z0 = false))))
    (W1 : Hid (f1 = false ∨ f1 = true ∧ (s1 = ⟨#[]⟩ ∨ ¬ s1.toList = [] ∧ (s1.toList == []) = false ∧ s1.toList.isEmpty = false ∧ (z1 = true ∨ z1 = false))))
    (Y0 : Hid (f0 = true ∧ s0 = ⟨#[]⟩ ∨ f0 = true ∧ z0 = true → ok0 = true)) (O0 : Hid (f0 = false ∨ ¬ s0.toList = [] ∧ z0 = false → ok0 = false))
    (Y1 : Hid (f1 = true ∧ s1 = ⟨#[]⟩ ∨ f1 = true ∧ z1 = true → ok1 = true)) (O1 : Hid (f1 = false ∨ ¬ s1.toList = [] ∧ z1 = false → ok1 = false))
    (R0 : Hid (ok0 = true → R = t0 ++ s0)) (R1 : Hid (ok0 = false → ok1 = true → R = t1 ++ s1)) (R2 : Hid (ok0 = false → ok1 = false → R = k)) :
    Calls Tryd.prog 24 #[.string k, .slice A n c, .slice C m d] w fun e w' => e = .returned (.string R) ∧ Below w.heap.size w w' := by
  have hn' : ((n : Int) == 0) = false := by simpa using hn
  have hm' : ((m : Int) == 0) = false := by simpa using hm
  have o0 : ¬ 9223372036854775807 < t0.size + s0.size := by omega
  have o1 : ¬ 9223372036854775807 < t1.size + s1.size := by omega
  have o2 : ¬ 9223372036854775807 < t0.size + (⟨#[]⟩ : ByteArray).size := by
    have : (⟨#[]⟩ : ByteArray).size = 0 := rfl
    omega
  have o3 : ¬ 9223372036854775807 < t1.size + (⟨#[]⟩ : ByteArray).size := by
    have : (⟨#[]⟩ : ByteArray).size = 0 := rfl
    omega
  have o4 : ¬ 9223372036854775807 < t0.size + 0 := by omega
  have o5 : ¬ 9223372036854775807 < t1.size + 0 := by omega
  have o6 : ¬ 9223372036854775807 < t0.size := by omega
  have o7 : ¬ 9223372036854775807 < t1.size := by omega
  obtain ⟨⟨l1, l2⟩, ⟨l3, l4⟩, l5⟩ := hL
  go_enter Tryd.func24, Tryd.ntmps24
  go_wp2_with fail
  refine RF.out.mono ?_; rintro e w1 ⟨rfl, rfl⟩
  go_wp2_with fail
  refine RT.out.mono ?_; rintro e w1 ⟨rfl, rfl⟩
  go_wp2
  clear l1 l2 l3 l4 l5
  go_loopw [33] (fun v wr => ∃ q : Nat, q ≤ 2 ∧ v = .int .i64 q ∧ Below w.heap.size w wr ∧ (1 ≤ q → ok0 = false) ∧ (2 ≤ q → ok1 = false)) (fun v _ => 2 - (intOf v).toNat)
  case atStart => exact ⟨0, by omega, rfl, Below.refl _ _, fun h => by omega, fun h => by omega⟩
  case round =>
    obtain ⟨q, hq, rfl, hb, hk1, hk2⟩ := hrel
    have BB := Lib.hid hb; have HK1 := Lib.hid hk1; have HK2 := Lib.hid hk2
    clear hb hk1 hk2
    have x0 := ix0; have x1 := ix1
    rcases q with _ | _ | q
    · rcases W0.out with hf | ⟨hf, hw⟩
      · rw [hf] at C0
        have HO := Lib.hid (O0.out (.inl hf))
        go_wp2_with fail
        refine (H0.out _ (BB.out.alloc BB.out.size _)).mono ?_; rintro e w1 ⟨rfl, b1⟩
        have B1 := Lib.hid ((BB.out.alloc BB.out.size (.cells #[.string ⟨#[109]⟩, .string ⟨#[110]⟩] 57)).trans (b1.mono (by have := BB.out.size; simp; omega)))
        clear b1
        go_wp2_with fail
        refine (C0.out _).mono ?_; rintro e w2 ⟨rfl, rfl⟩
        go_wp2
        exact ⟨⟨1, by omega, rfl, B1.out, fun _ => HO.out, fun h => by omega⟩, by simp [intOf]⟩
      · rw [hf] at C0
        rcases hw with hs | ⟨hs, hs1, hs2, hz⟩
        · have HR := Lib.hid (R0.out (Y0.out (.inl ⟨hf, hs⟩)))
          rw [hs] at C0 HR
          go_wp2_with fail
          refine (H0.out _ (BB.out.alloc BB.out.size _)).mono ?_; rintro e w1 ⟨rfl, b1⟩
          have B1 := Lib.hid ((BB.out.alloc BB.out.size (.cells #[.string ⟨#[109]⟩, .string ⟨#[110]⟩] 57)).trans (b1.mono (by have := BB.out.size; simp; omega)))
          have I1 := (Is.new wr 57 #[.string ⟨#[109]⟩, .string ⟨#[110]⟩]).kept b1
          have c0 := I1.cell 0; have c1 := I1.cell 1
          simp at c0 c1
          clear b1 I1
          go_wp2_with fail
          refine (C0.out _).mono ?_; rintro e w2 ⟨rfl, rfl⟩
          go_wp2_with fail
          refine (T0.out _ B1.out).mono ?_; rintro e w2 ⟨rfl, b2⟩
          have B2 := Lib.hid (B1.out.trans (b2.mono B1.out.size)); clear b2
          go_wp2
          go_ret
          rw [HR.out]; exact ⟨rfl, B2.out⟩
        · rcases hz with hz | hz
          · rw [hz] at P0
            have HR := Lib.hid (R0.out (Y0.out (.inr ⟨hf, hz⟩)))
            go_wp2_with fail
            refine (H0.out _ (BB.out.alloc BB.out.size _)).mono ?_; rintro e w1 ⟨rfl, b1⟩
            have B1 := Lib.hid ((BB.out.alloc BB.out.size (.cells #[.string ⟨#[109]⟩, .string ⟨#[110]⟩] 57)).trans (b1.mono (by have := BB.out.size; simp; omega)))
            have I1 := (Is.new wr 57 #[.string ⟨#[109]⟩, .string ⟨#[110]⟩]).kept b1
            have c0 := I1.cell 0; have c1 := I1.cell 1
            simp at c0 c1
            clear b1 I1
            go_wp2_with fail
            refine (C0.out _).mono ?_; rintro e w2 ⟨rfl, rfl⟩
            go_wp2_with fail
            refine (P0.out _).mono ?_; rintro e w2 ⟨rfl, rfl⟩
            go_wp2_with fail
            refine (T0.out _ B1.out).mono ?_; rintro e w2 ⟨rfl, b2⟩
            have B2 := Lib.hid (B1.out.trans (b2.mono B1.out.size)); clear b2
            go_wp2
            go_ret
            rw [HR.out]; exact ⟨rfl, B2.out⟩
          · rw [hz] at P0
            have HO := Lib.hid (O0.out (.inr ⟨hs, hz⟩))
            go_wp2_with fail
            refine (H0.out _ (BB.out.alloc BB.out.size _)).mono ?_; rintro e w1 ⟨rfl, b1⟩
            have B1 := Lib.hid ((BB.out.alloc BB.out.size (.cells #[.string ⟨#[109]⟩, .string ⟨#[110]⟩] 57)).trans (b1.mono (by have := BB.out.size; simp; omega)))
            clear b1
            go_wp2_with fail
            refine (C0.out _).mono ?_; rintro e w2 ⟨rfl, rfl⟩
            go_wp2_with fail
            refine (P0.out _).mono ?_; rintro e w2 ⟨rfl, rfl⟩
            go_wp2
            exact ⟨⟨1, by omega, rfl, B1.out, fun _ => HO.out, fun h => by omega⟩, by simp [intOf]⟩
    · rcases W1.out with hf | ⟨hf, hw⟩
      · rw [hf] at C1
        have HO := Lib.hid (O1.out (.inl hf))
        go_wp2_with fail
        refine (H1.out _ (BB.out.alloc BB.out.size _)).mono ?_; rintro e w1 ⟨rfl, b1⟩
        have B1 := Lib.hid ((BB.out.alloc BB.out.size (.cells #[.string ⟨#[100]⟩, .string ⟨#[101]⟩] 57)).trans (b1.mono (by have := BB.out.size; simp; omega)))
        clear b1
        go_wp2_with fail
        refine (C1.out _).mono ?_; rintro e w2 ⟨rfl, rfl⟩
        go_wp2
        exact ⟨⟨2, by omega, rfl, B1.out, fun _ => HK1.out (by decide), fun _ => HO.out⟩, by simp [intOf]⟩
      · rw [hf] at C1
        rcases hw with hs | ⟨hs, hs1, hs2, hz⟩
        · have HR := Lib.hid (R1.out (HK1.out (by decide)) (Y1.out (.inl ⟨hf, hs⟩)))
          rw [hs] at C1 HR
          go_wp2_with fail
          refine (H1.out _ (BB.out.alloc BB.out.size _)).mono ?_; rintro e w1 ⟨rfl, b1⟩
          have B1 := Lib.hid ((BB.out.alloc BB.out.size (.cells #[.string ⟨#[100]⟩, .string ⟨#[101]⟩] 57)).trans (b1.mono (by have := BB.out.size; simp; omega)))
          have I1 := (Is.new wr 57 #[.string ⟨#[100]⟩, .string ⟨#[101]⟩]).kept b1
          have c0 := I1.cell 0; have c1 := I1.cell 1
          simp at c0 c1
          clear b1 I1
          go_wp2_with fail
          refine (C1.out _).mono ?_; rintro e w2 ⟨rfl, rfl⟩
          go_wp2_with fail
          refine (T1.out _ B1.out).mono ?_; rintro e w2 ⟨rfl, b2⟩
          have B2 := Lib.hid (B1.out.trans (b2.mono B1.out.size)); clear b2
          go_wp2
          go_ret
          rw [HR.out]; exact ⟨rfl, B2.out⟩
        · rcases hz with hz | hz
          · rw [hz] at P1
            have HR := Lib.hid (R1.out (HK1.out (by decide)) (Y1.out (.inr ⟨hf, hz⟩)))
            go_wp2_with fail
            refine (H1.out _ (BB.out.alloc BB.out.size _)).mono ?_; rintro e w1 ⟨rfl, b1⟩
            have B1 := Lib.hid ((BB.out.alloc BB.out.size (.cells #[.string ⟨#[100]⟩, .string ⟨#[101]⟩] 57)).trans (b1.mono (by have := BB.out.size; simp; omega)))
            have I1 := (Is.new wr 57 #[.string ⟨#[100]⟩, .string ⟨#[101]⟩]).kept b1
            have c0 := I1.cell 0; have c1 := I1.cell 1
            simp at c0 c1
            clear b1 I1
            go_wp2_with fail
            refine (C1.out _).mono ?_; rintro e w2 ⟨rfl, rfl⟩
            go_wp2_with fail
            refine (P1.out _).mono ?_; rintro e w2 ⟨rfl, rfl⟩
            go_wp2_with fail
            refine (T1.out _ B1.out).mono ?_; rintro e w2 ⟨rfl, b2⟩
            have B2 := Lib.hid (B1.out.trans (b2.mono B1.out.size)); clear b2
            go_wp2
            go_ret
            rw [HR.out]; exact ⟨rfl, B2.out⟩
          · rw [hz] at P1
            have HO := Lib.hid (O1.out (.inr ⟨hs, hz⟩))
            go_wp2_with fail
            refine (H1.out _ (BB.out.alloc BB.out.size _)).mono ?_; rintro e w1 ⟨rfl, b1⟩
            have B1 := Lib.hid ((BB.out.alloc BB.out.size (.cells #[.string ⟨#[100]⟩, .string ⟨#[101]⟩] 57)).trans (b1.mono (by have := BB.out.size; simp; omega)))
            clear b1
            go_wp2_with fail
            refine (C1.out _).mono ?_; rintro e w2 ⟨rfl, rfl⟩
            go_wp2_with fail
            refine (P1.out _).mono ?_; rintro e w2 ⟨rfl, rfl⟩
            go_wp2
            exact ⟨⟨2, by omega, rfl, B1.out, fun _ => HK1.out (by decide), fun _ => HO.out⟩, by simp [intOf]⟩
    · obtain rfl : q = 0 := by omega
      have HR := Lib.hid (R2.out (HK1.out (by decide)) (HK2.out (by decide)))
      go_wp2
      go_ret
      rw [HR.out]; exact ⟨rfl, BB.out⟩
end Go.Proofs.YtnpgoahdemfkpaaDoor
