/- The laws KeyMakes, KeyMoves and KeyTakes. Conditions: the listed families as the program's text lays them; what comes in is as long as may be. -/
import Derived.Test.YtnpgoahdemfkpaaDoorWalksS
import Derived.Test.YtnpgoahdemfkpaaDoorWalksH
namespace Go.Proofs.YtnpgoahdemfkpaaDoor
open Go.ChangeShapes Go.WideShapes Go.RowKit Go.Path
set_option maxRecDepth 100000
set_option linter.unusedVariables false
set_option linter.unusedSimpArgs false
theorem In.few {w : World} {A : Option Addr} {xs : List B} {c : Nat} (h : Rs w A xs) (hc : xs.length ≤ c) (hf : Few xs) : In w A xs c := ⟨h, by have := hf.1; omega, hc, fun x hx => by have := hf.2 x hx; unfold maxLen; omega⟩
theorem takes_law (k : ByteArray) (hk : k.size ≤ maxLen) (w : World) (hL : Laid w) : Calls Tryd.prog 5 #[.string k] w fun e w' => e = .returned (.bool true) ∧ Below w.heap.size w w' := by
  unfold maxLen at hk
  have WK := Lib.hid (fun w' (hb : Below w.heap.size w w') => works_later hL hb)
  by_cases h5 : 500 < k.size
  · go_enter Tryd.func5, Tryd.ntmps5
    go_wp2_with fail
    refine (WK.out _ (Below.refl _ _)).mono ?_; rintro e w1 ⟨rfl, b1⟩
    have B1 := Lib.hid b1; clear b1
    go_wp2
    go_ret
    exact ⟨rfl, B1.out⟩
  · have P := Lib.hid (take_any k (by omega) w hL)
    have Q := Lib.hid (rtake_any k (by omega))
    rw [← take_eq] at Q
    unfold GivesTake at P Q
    obtain ⟨T0, hT0⟩ : ∃ T0, T0 = takeP k.data.toList := ⟨_, rfl⟩
    rw [← hT0] at P Q
    have hl : T0.l.length ≤ 1000000 := by
      rw [hT0]
      unfold takeP noT
      split
      · have := (parts_few k.data.toList).1
        have hz : k.data.toList.length = k.size := (Lib.size_eq k).symm
        show (parts k.data.toList).2.1.length ≤ _
        omega
      · simp
    clear hT0
    obtain ⟨tc, tl, ti, te⟩ := T0
    simp only at P Q hl
    have S := Lib.hid (fun A C c d wx h h' => rsame_any A C tl tl c d hl hl wx h h')
    rw [show decide (tl = tl) = true from by simp] at S
    generalize tl.length = n at *
    clear hL
    go_enter Tryd.func5, Tryd.ntmps5
    go_wp2_with fail
    refine P.out.mono ?_; rintro e w1 ⟨A, c, rfl, o1, b1⟩
    have R1 := Lib.hid o1.rs; have B1 := Lib.hid b1; clear o1 b1
    go_wp2_with fail
    refine (Q.out _).mono ?_; rintro e w2 ⟨A2, c2, rfl, o2, b2⟩
    have R2 := Lib.hid o2.rs
    have R1' := Lib.hid (R1.out.kept b2)
    have B2 := Lib.hid (B1.out.trans (b2.mono B1.out.size)); clear o2 b2
    go_wp2_with fail
    refine (S.out _ _ _ _ _ R1'.out R2.out).mono ?_; rintro e w3 ⟨rfl, b3⟩
    have B3 := Lib.hid (B2.out.trans (b3.mono B2.out.size)); clear b3
    go_wp2_with fail
    refine (WK.out _ B3.out).mono ?_; rintro e w4 ⟨rfl, b4⟩
    have B4 := Lib.hid b4; clear b4
    go_wp2
    go_ret
    exact ⟨rfl, B4.out⟩
theorem moves_law (k : ByteArray) (hk : k.size ≤ maxLen) (A C : Option Addr) (fr tt : List B) (c d : Nat) (hl : fr.length ≤ maxLen) (hc : fr.length ≤ c) (hx : ∀ x ∈ fr, x.length ≤ maxLen) (hl' : tt.length ≤ maxLen) (hc' : tt.length ≤ d) (hx' : ∀ x ∈ tt, x.length ≤ maxLen) (w : World) (h : Rs w A fr) (h' : Rs w C tt) (hL : Laid w) :
    Calls Tryd.prog 4 #[.string k, .slice A fr.length c, .slice C tt.length d] w fun e w' => e = .returned (.bool true) ∧ Below w.heap.size w w' := by
  have WK := Lib.hid (fun w' (hb : Below w.heap.size w w') => works_later hL hb)
  have F := Lib.hid (few_any A fr c hl w h hx)
  have F' := Lib.hid (few_any C tt d hl' w h' hx')
  have M := Lib.hid (fun (hk : k.size ≤ 900) (hf : Few fr) (ht : Few tt) => move_any k hk A C fr tt c d w (In.few h hc hf) (In.few h' hc' ht) hL)
  have M' := Lib.hid (fun (hk : k.size ≤ 900) (hf : Few fr) (ht : Few tt) wx (hb : Below w.heap.size w wx) => rmove_any k hk A C fr tt c d wx (In.few (h.kept hb) hc hf) (In.few (h'.kept hb) hc' ht))
  unfold maxLen at hk hl hl'
  generalize bs (moveK k.data.toList fr tt) = R at *
  clear h h' hx hx' hL
  generalize fr.length = n at *
  generalize tt.length = m at *
  by_cases h5 : 500 < k.size
  · go_enter Tryd.func4, Tryd.ntmps4
    go_wp2_with fail
    refine (WK.out _ (Below.refl _ _)).mono ?_; rintro e w1 ⟨rfl, b1⟩
    have B1 := Lib.hid b1; clear b1
    go_wp2
    go_ret
    exact ⟨rfl, B1.out⟩
  · go_enter Tryd.func4, Tryd.ntmps4
    go_wp2_with fail
    refine F.out.mono ?_; rintro e w1 ⟨b, rfl, rfl, hf⟩
    have HF := Lib.hid hf; clear hf
    cases b
    · go_wp2_with fail
      refine (WK.out _ (Below.refl _ _)).mono ?_; rintro e w1 ⟨rfl, b1⟩
      have B1 := Lib.hid b1; clear b1
      go_wp2
      go_ret
      exact ⟨rfl, B1.out⟩
    go_wp2_with fail
    refine F'.out.mono ?_; rintro e w1 ⟨b, rfl, rfl, hf⟩
    have HF' := Lib.hid hf; clear hf
    cases b
    · go_wp2_with fail
      refine (WK.out _ (Below.refl _ _)).mono ?_; rintro e w1 ⟨rfl, b1⟩
      have B1 := Lib.hid b1; clear b1
      go_wp2
      go_ret
      exact ⟨rfl, B1.out⟩
    go_wp2_with fail
    refine (M.out (by omega) (HF.out (by trivial)) (HF'.out (by trivial))).mono ?_; rintro e w1 ⟨rfl, b1⟩
    have B1 := Lib.hid b1; clear b1
    go_wp2_with fail
    refine (M'.out (by omega) (HF.out (by trivial)) (HF'.out (by trivial)) _ B1.out).mono ?_; rintro e w2 ⟨rfl, b2⟩
    have B2 := Lib.hid (B1.out.trans (b2.mono B1.out.size)); clear b2
    go_wp2_with fail
    refine (WK.out _ B2.out).mono ?_; rintro e w3 ⟨rfl, b3⟩
    have B3 := Lib.hid b3; clear b3
    go_wp2
    go_ret
    exact ⟨rfl, B3.out⟩
set_option maxHeartbeats 2000000 in
theorem makes_core (A : Option Addr) (l : List B) (n c : Nat) (i : Int) (M K P F1 T1 F2 T2 F3 T3 F4 T4 : ByteArray) (w : World)
    (WK : Hid (∀ w', Below w.heap.size w w' → Calls Tryd.prog 10 #[] w' fun e w'' => e = .returned (.bool true) ∧ Below w.heap.size w w''))
    (FW : Hid (Calls Tryd.prog 9 #[.slice A n c] w (FewPost l w)))
    (X11 : Hid (Few l → ∀ wx, Below w.heap.size w wx → Calls Tryd.prog 11 #[.slice A n c] wx fun e w' => e = .returned (.tuple #[.agg #[.string F1, .string T1], .agg #[.string F2, .string T2]]) ∧ Below wx.heap.size wx w'))
    (X12 : Hid (Few l → ∀ wx, Below w.heap.size w wx → Calls Tryd.prog 12 #[.slice A n c] wx fun e w' => e = .returned (.tuple #[.string F1, .string T1, .string F2, .string T2]) ∧ wx = w'))
    (X13 : Hid (Few l → ∀ wx, Below w.heap.size w wx → Calls Tryd.prog 13 #[.slice A n c] wx fun e w' => e = .returned (.tuple #[.string F3, .string T3]) ∧ wx = w'))
    (X14 : Hid (Few l → ∀ wx, Below w.heap.size w wx → Calls Tryd.prog 14 #[.slice A n c] wx fun e w' => e = .returned (.tuple #[.string F4, .string T4]) ∧ wx = w'))
    (X15 : Hid (Few l → ∀ wx, Below w.heap.size w wx → Calls Tryd.prog 15 #[.slice A n c] wx fun e w' => e = .returned (.string M) ∧ Below wx.heap.size wx w'))
    (X16 : Hid (Few l → ∀ wx, Below w.heap.size w wx → Calls Tryd.prog 16 #[.slice A n c] wx fun e w' => e = .returned (.string M) ∧ wx = w'))
    (X17 : Hid (Few l → ∀ wx, Below w.heap.size w wx → Calls Tryd.prog 17 #[.slice A n c, .int .i64 i] wx fun e w' => e = .returned (.string K) ∧ Below wx.heap.size wx w'))
    (X18 : Hid (Few l → ∀ wx, Below w.heap.size w wx → Calls Tryd.prog 18 #[.slice A n c, .int .i64 i] wx fun e w' => e = .returned (.string K) ∧ Below wx.heap.size wx w'))
    (X19 : Hid (Few l → ∀ wx, Below w.heap.size w wx → Calls Tryd.prog 19 #[.slice A n c] wx fun e w' => e = .returned (.string P) ∧ Below wx.heap.size wx w'))
    (X20 : Hid (Few l → ∀ wx, Below w.heap.size w wx → Calls Tryd.prog 20 #[.slice A n c] wx fun e w' => e = .returned (.string P) ∧ wx = w'))
    (X22 : Hid (Few l → ∀ wx, Below w.heap.size w wx → Calls Tryd.prog 22 #[.slice A n c] wx fun e w' => e = .returned (.agg #[.string F3, .string T3]) ∧ Below wx.heap.size wx w'))
    (X23 : Hid (Few l → ∀ wx, Below w.heap.size w wx → Calls Tryd.prog 23 #[.slice A n c] wx fun e w' => e = .returned (.agg #[.string F4, .string T4]) ∧ Below wx.heap.size wx w')) :
    Calls Tryd.prog 3 #[.slice A n c, .int .i64 i] w fun e w' => e = .returned (.bool true) ∧ Below w.heap.size w w' := by
  have IS := Lib.hid is_true
  go_enter Tryd.func3, Tryd.ntmps3
  go_wp2_with fail
  refine FW.out.mono ?_; rintro e w0 ⟨b, rfl, rfl, hf⟩
  have HF := Lib.hid hf; clear hf
  cases b
  · go_wp2_with fail
    refine (WK.out _ (Below.refl _ _)).mono ?_; rintro e w1 ⟨rfl, b1⟩
    have B1 := Lib.hid b1; clear b1
    go_wp2
    go_ret
    exact ⟨rfl, B1.out⟩
  have G := Lib.hid (HF.out (by trivial))
  go_wp2_with fail
  refine (X11.out G.out _ (Below.refl _ _)).mono ?_; rintro e w1 ⟨rfl, b1⟩
  have hX := Boxes.new w1 26 #[.string F1, .string T1] 26 #[.string F2, .string T2]
  have HX := Lib.hid hX
  have HBW := Lib.hid (b1.trans (hX.below.mono b1.size))
  clear hX b1
  go_wp2_with fail
  generalize hWW : (w1.alloc (.cells #[.string F1, .string T1] 26)).alloc (.cells #[.string F2, .string T2] 26) = W at *
  clear hWW
  refine (X12.out G.out _ HBW.out).mono ?_; rintro e w2 ⟨rfl, rfl⟩
  go_wp2_with fail
  refine (X13.out G.out _ HBW.out).mono ?_; rintro e w2 ⟨rfl, rfl⟩
  go_wp2_with fail
  refine (X14.out G.out _ HBW.out).mono ?_; rintro e w2 ⟨rfl, rfl⟩
  go_wp2_with fail
  refine (X15.out G.out _ HBW.out).mono ?_; rintro e w3 ⟨rfl, b3⟩
  have HX3 := Lib.hid (HX.out.later b3)
  have BW3 := Lib.hid (HBW.out.trans (b3.mono HBW.out.size)); clear b3
  go_wp2_with fail
  refine (X16.out G.out _ BW3.out).mono ?_; rintro e wz ⟨rfl, rfl⟩
  go_wp2_with fail
  refine (X17.out G.out _ BW3.out).mono ?_; rintro e w4 ⟨rfl, b4⟩
  have HX4 := Lib.hid (HX3.out.later b4)
  have BW4 := Lib.hid (BW3.out.trans (b4.mono BW3.out.size)); clear b4
  go_wp2_with fail
  refine (X18.out G.out _ BW4.out).mono ?_; rintro e w5 ⟨rfl, b5⟩
  have HX5 := Lib.hid (HX4.out.later b5)
  have BW5 := Lib.hid (BW4.out.trans (b5.mono BW4.out.size)); clear b5
  go_wp2_with fail
  refine (X19.out G.out _ BW5.out).mono ?_; rintro e w6 ⟨rfl, b6⟩
  have HX6 := Lib.hid (HX5.out.later b6)
  have BW6 := Lib.hid (BW5.out.trans (b6.mono BW5.out.size)); clear b6
  go_wp2_with fail
  refine (X20.out G.out _ BW6.out).mono ?_; rintro e wz ⟨rfl, rfl⟩
  obtain ⟨⟨c0, c1⟩, d0, d1⟩ := HX6.out.cells
  go_wp2_with fail
  refine (IS.out F1 T1 _).mono ?_; rintro e w7 ⟨rfl, b7⟩
  have HX7 := Lib.hid (HX6.out.later b7)
  have BW7 := Lib.hid (BW6.out.trans (b7.mono BW6.out.size)); clear b7
  clear c0 c1 d0 d1
  obtain ⟨⟨c0, c1⟩, d0, d1⟩ := HX7.out.cells
  go_wp2_with fail
  refine (IS.out F2 T2 _).mono ?_; rintro e w8 ⟨rfl, b8⟩
  have HX8 := Lib.hid (HX7.out.later b8)
  have BW8 := Lib.hid (BW7.out.trans (b8.mono BW7.out.size)); clear b8
  clear c0 c1 d0 d1
  go_wp2_with fail
  refine (X22.out G.out _ BW8.out).mono ?_; rintro e w9 ⟨rfl, b9⟩
  have HX9 := Lib.hid (HX8.out.later b9)
  have BW9 := Lib.hid (BW8.out.trans (b9.mono BW8.out.size)); clear b9
  go_wp2_with fail
  refine (IS.out F3 T3 _).mono ?_; rintro e w10 ⟨rfl, b10⟩
  have HX10 := Lib.hid (HX9.out.later b10)
  have BW10 := Lib.hid (BW9.out.trans (b10.mono BW9.out.size)); clear b10
  go_wp2_with fail
  refine (X23.out G.out _ BW10.out).mono ?_; rintro e w11 ⟨rfl, b11⟩
  have HX11 := Lib.hid (HX10.out.later b11)
  have BW11 := Lib.hid (BW10.out.trans (b11.mono BW10.out.size)); clear b11
  go_wp2_with fail
  refine (IS.out F4 T4 _).mono ?_; rintro e w12 ⟨rfl, b12⟩
  have HX12 := Lib.hid (HX11.out.later b12)
  have BW12 := Lib.hid (BW11.out.trans (b12.mono BW11.out.size)); clear b12
  go_wp2_with fail
  refine (WK.out _ BW12.out).mono ?_; rintro e w13 ⟨rfl, b13⟩
  have B13 := Lib.hid b13; clear b13
  go_wp2
  go_ret
  exact ⟨rfl, B13.out⟩
theorem makes_law (A : Option Addr) (l : List B) (c : Nat) (i : Int) (hi : -9223372036854775808 ≤ i ∧ i ≤ 9223372036854775807) (hl : l.length ≤ maxLen) (hc : l.length ≤ c) (hx : ∀ x ∈ l, x.length ≤ maxLen) (w : World) (h : Rs w A l) (hL : Laid w) :
    Calls Tryd.prog 3 #[.slice A l.length c, .int .i64 i] w fun e w' => e = .returned (.bool true) ∧ Below w.heap.size w w' := by
  have WK := Lib.hid (fun w' (hb : Below w.heap.size w w') => works_later hL hb)
  have I := fun hf => In.few h hc hf
  exact makes_core A l l.length c i (bs (metaK l)) (bs (blockK l i)) (bs (pastK l)) (bs (subF 109 l)) (bs (subT 109 l)) (bs (subF 100 l)) (bs (subT 100 l)) (bs (belowF l)) (bs (belowT l)) (bs (blocksF l)) (bs (blocksT l)) w WK (Lib.hid (few_any A l c hl w h hx))
    (Lib.hid fun hf wx hb => subtrees_any A l c wx ((I hf).kept hb) (hL.later hb)) (Lib.hid fun hf wx hb => rsubtree_any A l c wx ((I hf).kept hb)) (Lib.hid fun hf wx hb => rbelow_any A l c wx ((I hf).kept hb)) (Lib.hid fun hf wx hb => rblocks_any A l c wx ((I hf).kept hb))
    (Lib.hid fun hf wx hb => meta_any A l c wx ((I hf).kept hb) (hL.later hb)) (Lib.hid fun hf wx hb => rmeta_any A l c wx ((I hf).kept hb)) (Lib.hid fun hf wx hb => block_any A l c i hi wx ((I hf).kept hb) (hL.later hb)) (Lib.hid fun hf wx hb => rblock_any A l c i hi wx ((I hf).kept hb))
    (Lib.hid fun hf wx hb => past_any A l c wx ((I hf).kept hb) (hL.later hb)) (Lib.hid fun hf wx hb => rpast_any A l c wx ((I hf).kept hb)) (Lib.hid fun hf wx hb => below_any A l c wx ((I hf).kept hb) (hL.later hb)) (Lib.hid fun hf wx hb => blocks_any A l c wx ((I hf).kept hb) (hL.later hb))
end Go.Proofs.YtnpgoahdemfkpaaDoor
