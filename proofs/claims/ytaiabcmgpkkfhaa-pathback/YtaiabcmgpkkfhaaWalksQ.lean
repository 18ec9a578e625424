/- The law PathBack. Conditions: what comes in is as long as may be. -/
import Derived.Test.YtaiabcmgpkkfhaaWalksP
namespace Go.Proofs.Ytaiabcmgpkkfhaa
open Go.ChangeShapes Go.WideShapes Go.RowKit Go.Path
set_option maxRecDepth 100000
set_option linter.unusedVariables false
set_option linter.unusedSimpArgs false
/-- A call that answers true or false, and touches nothing old. -/
abbrev Says (f : Nat) (args : Array Value) (v : Bool) (w : World) : Prop := Calls Try.prog f args w fun e w' => e = .returned (.bool v) ∧ Below w.heap.size w w'
set_option maxHeartbeats 1000000 in
theorem back_efz (A : Option Addr) (l : List B) (c : Nat) (s p T : ByteArray) (w : World) (HR : Hid (Rs w A l)) (HC : Hid (0 ≤ c)) (hs : s.size ≤ 200) (hp : p.size ≤ 1000)
    (F : Hid (Calls Try.prog 15 #[.slice A 0 c] w (FewPost l w))) (AW : Hid (∀ w, Says 9 #[] true w))
    (TX : Hid (Few l → ∀ w, Rs w A l → Calls Try.prog 16 #[.string s, .slice A 0 c] w fun e w' => e = .returned (.tuple #[.string T, .int .i64 (0 : Nat)]) ∧ Below w.heap.size w w'))
    (P1 : Hid (∀ w, Calls Try.prog 10 #[.string T] w fun e w' => ∃ A c, e = .returned (.tuple #[.string s, .slice A 0 c, .int .i64 (0 : Nat)]) ∧ Own w' w.heap.size A 0 c l ∧ Below w.heap.size w w'))
    (SA : Hid (Few l → ∀ A C c d w, Rs w A l → Rs w C l → Says 28 #[.slice A 0 c, .slice C 0 d] true w))
    (m : List B) (nm : Nat) (q : ByteArray) (P2 : Hid (∀ w, Calls Try.prog 10 #[.string p] w fun e w' => ∃ A c, e = .returned (.tuple #[.string q, .slice A nm c, .int .i64 (0 : Nat)]) ∧ Own w' w.heap.size A nm c m ∧ Below w.heap.size w w'))
    (TM : Hid (∀ A c w, nm ≤ c → Rs w A m → Calls Try.prog 16 #[.string q, .slice A nm c] w fun e w' => e = .returned (.tuple #[.string p, .int .i64 (0 : Nat)]) ∧ Below w.heap.size w w'))
    (UP : Hid (Few l → ∀ w, Rs w A l → Calls Try.prog 18 #[.slice A 0 c] w fun e w' => ∃ C d x, e = .returned (.tuple #[.slice C 0 d, .string x]) ∧ 0 ≤ d ∧ Rs w' C l.dropLast ∧ Below w.heap.size w w'))
    (W1 : Hid (Few l → ∀ w, Rs w A l → Says 21 #[.slice A 0 c, .slice A 0 c] true w))
    (W2 : Hid (Few l → ∀ C d w, Rs w C l.dropLast → Rs w A l → Says 21 #[.slice C 0 d, .slice A 0 c] true w))
    (W3 : Hid (Few l → ∀ w, Rs w A l → Says 21 #[.slice none 0 0, .slice A 0 c] true w)) :
    Says 7 #[.string s, .slice A 0 c, .string p] true w := by
  go_enter Try.func7, Try.ntmps7
  go_wp2_with fail
  refine F.out.mono ?_; rintro e w1 ⟨b, rfl, rfl, hf⟩
  have HF := Lib.hid hf; clear hf
  cases b
  · go_wp2_with fail
    refine (AW.out _).mono ?_; rintro e w1 ⟨rfl, b1⟩
    have B1 := Lib.hid b1; clear b1
    go_wp2
    go_ret
    exact ⟨rfl, B1.out⟩
  have G := Lib.hid (HF.out (by trivial)); clear HF
  go_wp2_with fail
  refine (TX.out G.out _ HR.out).mono ?_; rintro e w1 ⟨rfl, b1⟩
  have B1 := Lib.hid b1; clear b1
  go_wp2_with fail
  refine (P1.out _).mono ?_; rintro e w2 ⟨A2, c2, rfl, o2, b2⟩
  have R2 := Lib.hid o2.rs; have B2 := Lib.hid (B1.out.trans (b2.mono B1.out.size)); clear o2 b2
  go_wp2_with fail
  refine (SA.out G.out _ _ _ _ _ (HR.out.kept B2.out) R2.out).mono ?_; rintro e w3 ⟨rfl, b3⟩
  have B3 := Lib.hid (B2.out.trans (b3.mono B2.out.size)); clear b3
  go_wp2_with fail
  refine (P2.out _).mono ?_; rintro e w4 ⟨A4, c4, rfl, o4, b4⟩
  have R4 := Lib.hid o4.rs; have C4 := Lib.hid o4.2.1; have B4 := Lib.hid (B3.out.trans (b4.mono B3.out.size)); clear o4 b4
  go_wp2_with fail
  refine (TM.out _ _ _ C4.out R4.out).mono ?_; rintro e w5 ⟨rfl, b5⟩
  have B5 := Lib.hid (B4.out.trans (b5.mono B4.out.size)); clear b5
  go_wp2_with fail
  refine (UP.out G.out _ (HR.out.kept B5.out)).mono ?_; rintro e w6 ⟨C, d, x, rfl, hd, r6, b6⟩
  have R6 := Lib.hid r6; have D6 := Lib.hid hd; have B6 := Lib.hid (B5.out.trans (b6.mono B5.out.size)); clear r6 b6 hd
  go_wp2_with fail
  refine (W1.out G.out _ (HR.out.kept B6.out)).mono ?_; rintro e w7 ⟨rfl, b7⟩
  have R7 := Lib.hid (R6.out.kept b7); have B7 := Lib.hid (B6.out.trans (b7.mono B6.out.size)); clear b7
  go_wp2_with fail
  refine (W2.out G.out _ _ _ R7.out (HR.out.kept B7.out)).mono ?_; rintro e w8 ⟨rfl, b8⟩
  have R8 := Lib.hid (R7.out.kept b8); have B8 := Lib.hid (B7.out.trans (b8.mono B7.out.size)); clear b8
  go_wp2_with fail
  refine (W3.out G.out _ (HR.out.kept B8.out)).mono ?_; rintro e w9 ⟨rfl, b9⟩
  have R9 := Lib.hid (R8.out.kept b9); have B9 := Lib.hid (B8.out.trans (b9.mono B8.out.size)); clear b9
  have B10 := B9
  go_wp2_with fail
  refine (AW.out _).mono ?_; rintro e w11 ⟨rfl, b11⟩
  have B11 := Lib.hid (B10.out.trans (b11.mono B10.out.size)); clear b11
  go_wp2
  go_ret
  exact ⟨rfl, B11.out⟩
set_option maxHeartbeats 1000000 in
theorem back_efx (A : Option Addr) (l : List B) (c n : Nat) (s p T : ByteArray) (w : World) (HR : Hid (Rs w A l)) (HC : Hid (n ≤ c)) (hs : s.size ≤ 200) (hp : p.size ≤ 1000) (hn : 0 < n) (hn30 : n ≤ 9223372036854775807)
    (F : Hid (Calls Try.prog 15 #[.slice A n c] w (FewPost l w))) (AW : Hid (∀ w, Says 9 #[] true w))
    (TX : Hid (Few l → ∀ w, Rs w A l → Calls Try.prog 16 #[.string s, .slice A n c] w fun e w' => e = .returned (.tuple #[.string T, .int .i64 (0 : Nat)]) ∧ Below w.heap.size w w'))
    (P1 : Hid (∀ w, Calls Try.prog 10 #[.string T] w fun e w' => ∃ A c, e = .returned (.tuple #[.string s, .slice A n c, .int .i64 (0 : Nat)]) ∧ Own w' w.heap.size A n c l ∧ Below w.heap.size w w'))
    (SA : Hid (Few l → ∀ A C c d w, Rs w A l → Rs w C l → Says 28 #[.slice A n c, .slice C n d] true w))
    (m : List B) (nm : Nat) (q : ByteArray) (P2 : Hid (∀ w, Calls Try.prog 10 #[.string p] w fun e w' => ∃ A c, e = .returned (.tuple #[.string q, .slice A nm c, .int .i64 (0 : Nat)]) ∧ Own w' w.heap.size A nm c m ∧ Below w.heap.size w w'))
    (TM : Hid (∀ A c w, nm ≤ c → Rs w A m → Calls Try.prog 16 #[.string q, .slice A nm c] w fun e w' => e = .returned (.tuple #[.string p, .int .i64 (0 : Nat)]) ∧ Below w.heap.size w w'))
    (UP : Hid (Few l → ∀ w, Rs w A l → Calls Try.prog 18 #[.slice A n c] w fun e w' => ∃ C d x, e = .returned (.tuple #[.slice C (n - 1) d, .string x]) ∧ (n - 1) ≤ d ∧ Rs w' C l.dropLast ∧ Below w.heap.size w w'))
    (W1 : Hid (Few l → ∀ w, Rs w A l → Says 21 #[.slice A n c, .slice A n c] true w))
    (W2 : Hid (Few l → ∀ C d w, Rs w C l.dropLast → Rs w A l → Says 21 #[.slice C (n - 1) d, .slice A n c] true w))
    (W3 : Hid (Few l → ∀ w, Rs w A l → Says 21 #[.slice none 0 0, .slice A n c] true w))
    (W4 : Hid (Few l → ∀ C d w, (n - 1) ≤ d → Rs w A l → Rs w C l.dropLast → Says 21 #[.slice A n c, .slice C (n - 1) d] false w)) :
    Says 7 #[.string s, .slice A n c, .string p] true w := by
  have hn0 : ¬ (n : Int) = 0 := by omega
  have hn1 : ((n : Int) == 0) = false := by simpa using hn0
  go_enter Try.func7, Try.ntmps7
  go_wp2_with fail
  refine F.out.mono ?_; rintro e w1 ⟨b, rfl, rfl, hf⟩
  have HF := Lib.hid hf; clear hf
  cases b
  · go_wp2_with fail
    refine (AW.out _).mono ?_; rintro e w1 ⟨rfl, b1⟩
    have B1 := Lib.hid b1; clear b1
    go_wp2
    go_ret
    exact ⟨rfl, B1.out⟩
  have G := Lib.hid (HF.out (by trivial)); clear HF
  go_wp2_with fail
  refine (TX.out G.out _ HR.out).mono ?_; rintro e w1 ⟨rfl, b1⟩
  have B1 := Lib.hid b1; clear b1
  go_wp2_with fail
  refine (P1.out _).mono ?_; rintro e w2 ⟨A2, c2, rfl, o2, b2⟩
  have R2 := Lib.hid o2.rs; have B2 := Lib.hid (B1.out.trans (b2.mono B1.out.size)); clear o2 b2
  go_wp2_with fail
  refine (SA.out G.out _ _ _ _ _ (HR.out.kept B2.out) R2.out).mono ?_; rintro e w3 ⟨rfl, b3⟩
  have B3 := Lib.hid (B2.out.trans (b3.mono B2.out.size)); clear b3
  go_wp2_with fail
  refine (P2.out _).mono ?_; rintro e w4 ⟨A4, c4, rfl, o4, b4⟩
  have R4 := Lib.hid o4.rs; have C4 := Lib.hid o4.2.1; have B4 := Lib.hid (B3.out.trans (b4.mono B3.out.size)); clear o4 b4
  go_wp2_with fail
  refine (TM.out _ _ _ C4.out R4.out).mono ?_; rintro e w5 ⟨rfl, b5⟩
  have B5 := Lib.hid (B4.out.trans (b5.mono B4.out.size)); clear b5
  go_wp2_with fail
  refine (UP.out G.out _ (HR.out.kept B5.out)).mono ?_; rintro e w6 ⟨C, d, x, rfl, hd, r6, b6⟩
  have R6 := Lib.hid r6; have D6 := Lib.hid hd; have B6 := Lib.hid (B5.out.trans (b6.mono B5.out.size)); clear r6 b6 hd
  go_wp2_with fail
  refine (W1.out G.out _ (HR.out.kept B6.out)).mono ?_; rintro e w7 ⟨rfl, b7⟩
  have R7 := Lib.hid (R6.out.kept b7); have B7 := Lib.hid (B6.out.trans (b7.mono B6.out.size)); clear b7
  go_wp2_with fail
  refine (W2.out G.out _ _ _ R7.out (HR.out.kept B7.out)).mono ?_; rintro e w8 ⟨rfl, b8⟩
  have R8 := Lib.hid (R7.out.kept b8); have B8 := Lib.hid (B7.out.trans (b8.mono B7.out.size)); clear b8
  go_wp2_with fail
  refine (W3.out G.out _ (HR.out.kept B8.out)).mono ?_; rintro e w9 ⟨rfl, b9⟩
  have R9 := Lib.hid (R8.out.kept b9); have B9 := Lib.hid (B8.out.trans (b9.mono B8.out.size)); clear b9
  go_wp2_with fail
  refine (W4.out G.out _ _ _ D6.out (HR.out.kept B9.out) R9.out).mono ?_; rintro e w10 ⟨rfl, b10⟩
  have B10 := Lib.hid (B9.out.trans (b10.mono B9.out.size)); clear b10
  go_wp2_with fail
  refine (AW.out _).mono ?_; rintro e w11 ⟨rfl, b11⟩
  have B11 := Lib.hid (B10.out.trans (b11.mono B10.out.size)); clear b11
  go_wp2
  go_ret
  exact ⟨rfl, B11.out⟩
set_option maxHeartbeats 1000000 in
theorem back_exz (A : Option Addr) (l : List B) (c : Nat) (s p T : ByteArray) (w : World) (HR : Hid (Rs w A l)) (HC : Hid (0 ≤ c)) (hs : s.size ≤ 200) (hp : p.size ≤ 1000)
    (F : Hid (Calls Try.prog 15 #[.slice A 0 c] w (FewPost l w))) (AW : Hid (∀ w, Says 9 #[] true w))
    (TX : Hid (Few l → ∀ w, Rs w A l → Calls Try.prog 16 #[.string s, .slice A 0 c] w fun e w' => e = .returned (.tuple #[.string T, .int .i64 (0 : Nat)]) ∧ Below w.heap.size w w'))
    (P1 : Hid (∀ w, Calls Try.prog 10 #[.string T] w fun e w' => ∃ A c, e = .returned (.tuple #[.string s, .slice A 0 c, .int .i64 (0 : Nat)]) ∧ Own w' w.heap.size A 0 c l ∧ Below w.heap.size w w'))
    (SA : Hid (Few l → ∀ A C c d w, Rs w A l → Rs w C l → Says 28 #[.slice A 0 c, .slice C 0 d] true w))
    (nm k : Nat) (q : ByteArray) (hk : ¬ (k : Int) = 0) (hk2 : ((k : Int) == 0) = false) (P2 : Hid (∀ w, Calls Try.prog 10 #[.string p] w fun e w' => ∃ A c, e = .returned (.tuple #[.string q, .slice A nm c, .int .i64 k]) ∧ Below w.heap.size w w'))
    (UP : Hid (Few l → ∀ w, Rs w A l → Calls Try.prog 18 #[.slice A 0 c] w fun e w' => ∃ C d x, e = .returned (.tuple #[.slice C 0 d, .string x]) ∧ 0 ≤ d ∧ Rs w' C l.dropLast ∧ Below w.heap.size w w'))
    (W1 : Hid (Few l → ∀ w, Rs w A l → Says 21 #[.slice A 0 c, .slice A 0 c] true w))
    (W2 : Hid (Few l → ∀ C d w, Rs w C l.dropLast → Rs w A l → Says 21 #[.slice C 0 d, .slice A 0 c] true w))
    (W3 : Hid (Few l → ∀ w, Rs w A l → Says 21 #[.slice none 0 0, .slice A 0 c] true w)) :
    Says 7 #[.string s, .slice A 0 c, .string p] true w := by
  go_enter Try.func7, Try.ntmps7
  go_wp2_with fail
  refine F.out.mono ?_; rintro e w1 ⟨b, rfl, rfl, hf⟩
  have HF := Lib.hid hf; clear hf
  cases b
  · go_wp2_with fail
    refine (AW.out _).mono ?_; rintro e w1 ⟨rfl, b1⟩
    have B1 := Lib.hid b1; clear b1
    go_wp2
    go_ret
    exact ⟨rfl, B1.out⟩
  have G := Lib.hid (HF.out (by trivial)); clear HF
  go_wp2_with fail
  refine (TX.out G.out _ HR.out).mono ?_; rintro e w1 ⟨rfl, b1⟩
  have B1 := Lib.hid b1; clear b1
  go_wp2_with fail
  refine (P1.out _).mono ?_; rintro e w2 ⟨A2, c2, rfl, o2, b2⟩
  have R2 := Lib.hid o2.rs; have B2 := Lib.hid (B1.out.trans (b2.mono B1.out.size)); clear o2 b2
  go_wp2_with fail
  refine (SA.out G.out _ _ _ _ _ (HR.out.kept B2.out) R2.out).mono ?_; rintro e w3 ⟨rfl, b3⟩
  have B3 := Lib.hid (B2.out.trans (b3.mono B2.out.size)); clear b3
  go_wp2_with fail
  refine (P2.out _).mono ?_; rintro e w5 ⟨A4, c4, rfl, b4⟩
  have B5 := Lib.hid (B3.out.trans (b4.mono B3.out.size)); clear b4
  go_wp2_with fail
  refine (UP.out G.out _ (HR.out.kept B5.out)).mono ?_; rintro e w6 ⟨C, d, x, rfl, hd, r6, b6⟩
  have R6 := Lib.hid r6; have D6 := Lib.hid hd; have B6 := Lib.hid (B5.out.trans (b6.mono B5.out.size)); clear r6 b6 hd
  go_wp2_with fail
  refine (W1.out G.out _ (HR.out.kept B6.out)).mono ?_; rintro e w7 ⟨rfl, b7⟩
  have R7 := Lib.hid (R6.out.kept b7); have B7 := Lib.hid (B6.out.trans (b7.mono B6.out.size)); clear b7
  go_wp2_with fail
  refine (W2.out G.out _ _ _ R7.out (HR.out.kept B7.out)).mono ?_; rintro e w8 ⟨rfl, b8⟩
  have R8 := Lib.hid (R7.out.kept b8); have B8 := Lib.hid (B7.out.trans (b8.mono B7.out.size)); clear b8
  go_wp2_with fail
  refine (W3.out G.out _ (HR.out.kept B8.out)).mono ?_; rintro e w9 ⟨rfl, b9⟩
  have R9 := Lib.hid (R8.out.kept b9); have B9 := Lib.hid (B8.out.trans (b9.mono B8.out.size)); clear b9
  have B10 := B9
  go_wp2_with fail
  refine (AW.out _).mono ?_; rintro e w11 ⟨rfl, b11⟩
  have B11 := Lib.hid (B10.out.trans (b11.mono B10.out.size)); clear b11
  go_wp2
  go_ret
  exact ⟨rfl, B11.out⟩
set_option maxHeartbeats 1000000 in
theorem back_exx (A : Option Addr) (l : List B) (c n : Nat) (s p T : ByteArray) (w : World) (HR : Hid (Rs w A l)) (HC : Hid (n ≤ c)) (hs : s.size ≤ 200) (hp : p.size ≤ 1000) (hn : 0 < n) (hn30 : n ≤ 9223372036854775807)
    (F : Hid (Calls Try.prog 15 #[.slice A n c] w (FewPost l w))) (AW : Hid (∀ w, Says 9 #[] true w))
    (TX : Hid (Few l → ∀ w, Rs w A l → Calls Try.prog 16 #[.string s, .slice A n c] w fun e w' => e = .returned (.tuple #[.string T, .int .i64 (0 : Nat)]) ∧ Below w.heap.size w w'))
    (P1 : Hid (∀ w, Calls Try.prog 10 #[.string T] w fun e w' => ∃ A c, e = .returned (.tuple #[.string s, .slice A n c, .int .i64 (0 : Nat)]) ∧ Own w' w.heap.size A n c l ∧ Below w.heap.size w w'))
    (SA : Hid (Few l → ∀ A C c d w, Rs w A l → Rs w C l → Says 28 #[.slice A n c, .slice C n d] true w))
    (nm k : Nat) (q : ByteArray) (hk : ¬ (k : Int) = 0) (hk2 : ((k : Int) == 0) = false) (P2 : Hid (∀ w, Calls Try.prog 10 #[.string p] w fun e w' => ∃ A c, e = .returned (.tuple #[.string q, .slice A nm c, .int .i64 k]) ∧ Below w.heap.size w w'))
    (UP : Hid (Few l → ∀ w, Rs w A l → Calls Try.prog 18 #[.slice A n c] w fun e w' => ∃ C d x, e = .returned (.tuple #[.slice C (n - 1) d, .string x]) ∧ (n - 1) ≤ d ∧ Rs w' C l.dropLast ∧ Below w.heap.size w w'))
    (W1 : Hid (Few l → ∀ w, Rs w A l → Says 21 #[.slice A n c, .slice A n c] true w))
    (W2 : Hid (Few l → ∀ C d w, Rs w C l.dropLast → Rs w A l → Says 21 #[.slice C (n - 1) d, .slice A n c] true w))
    (W3 : Hid (Few l → ∀ w, Rs w A l → Says 21 #[.slice none 0 0, .slice A n c] true w))
    (W4 : Hid (Few l → ∀ C d w, (n - 1) ≤ d → Rs w A l → Rs w C l.dropLast → Says 21 #[.slice A n c, .slice C (n - 1) d] false w)) :
    Says 7 #[.string s, .slice A n c, .string p] true w := by
  have hn0 : ¬ (n : Int) = 0 := by omega
  have hn1 : ((n : Int) == 0) = false := by simpa using hn0
  go_enter Try.func7, Try.ntmps7
  go_wp2_with fail
  refine F.out.mono ?_; rintro e w1 ⟨b, rfl, rfl, hf⟩
  have HF := Lib.hid hf; clear hf
  cases b
  · go_wp2_with fail
    refine (AW.out _).mono ?_; rintro e w1 ⟨rfl, b1⟩
    have B1 := Lib.hid b1; clear b1
    go_wp2
    go_ret
    exact ⟨rfl, B1.out⟩
  have G := Lib.hid (HF.out (by trivial)); clear HF
  go_wp2_with fail
  refine (TX.out G.out _ HR.out).mono ?_; rintro e w1 ⟨rfl, b1⟩
  have B1 := Lib.hid b1; clear b1
  go_wp2_with fail
  refine (P1.out _).mono ?_; rintro e w2 ⟨A2, c2, rfl, o2, b2⟩
  have R2 := Lib.hid o2.rs; have B2 := Lib.hid (B1.out.trans (b2.mono B1.out.size)); clear o2 b2
  go_wp2_with fail
  refine (SA.out G.out _ _ _ _ _ (HR.out.kept B2.out) R2.out).mono ?_; rintro e w3 ⟨rfl, b3⟩
  have B3 := Lib.hid (B2.out.trans (b3.mono B2.out.size)); clear b3
  go_wp2_with fail
  refine (P2.out _).mono ?_; rintro e w5 ⟨A4, c4, rfl, b4⟩
  have B5 := Lib.hid (B3.out.trans (b4.mono B3.out.size)); clear b4
  go_wp2_with fail
  refine (UP.out G.out _ (HR.out.kept B5.out)).mono ?_; rintro e w6 ⟨C, d, x, rfl, hd, r6, b6⟩
  have R6 := Lib.hid r6; have D6 := Lib.hid hd; have B6 := Lib.hid (B5.out.trans (b6.mono B5.out.size)); clear r6 b6 hd
  go_wp2_with fail
  refine (W1.out G.out _ (HR.out.kept B6.out)).mono ?_; rintro e w7 ⟨rfl, b7⟩
  have R7 := Lib.hid (R6.out.kept b7); have B7 := Lib.hid (B6.out.trans (b7.mono B6.out.size)); clear b7
  go_wp2_with fail
  refine (W2.out G.out _ _ _ R7.out (HR.out.kept B7.out)).mono ?_; rintro e w8 ⟨rfl, b8⟩
  have R8 := Lib.hid (R7.out.kept b8); have B8 := Lib.hid (B7.out.trans (b8.mono B7.out.size)); clear b8
  go_wp2_with fail
  refine (W3.out G.out _ (HR.out.kept B8.out)).mono ?_; rintro e w9 ⟨rfl, b9⟩
  have R9 := Lib.hid (R8.out.kept b9); have B9 := Lib.hid (B8.out.trans (b9.mono B8.out.size)); clear b9
  go_wp2_with fail
  refine (W4.out G.out _ _ _ D6.out (HR.out.kept B9.out) R9.out).mono ?_; rintro e w10 ⟨rfl, b10⟩
  have B10 := Lib.hid (B9.out.trans (b10.mono B9.out.size)); clear b10
  go_wp2_with fail
  refine (AW.out _).mono ?_; rintro e w11 ⟨rfl, b11⟩
  have B11 := Lib.hid (B10.out.trans (b11.mono B10.out.size)); clear b11
  go_wp2
  go_ret
  exact ⟨rfl, B11.out⟩
set_option maxHeartbeats 1000000 in
theorem back_xfz (A : Option Addr) (l : List B) (c E : Nat) (s p T : ByteArray) (w : World) (HR : Hid (Rs w A l)) (HC : Hid (0 ≤ c)) (hs : s.size ≤ 200) (hp : p.size ≤ 1000)
    (F : Hid (Calls Try.prog 15 #[.slice A 0 c] w (FewPost l w))) (AW : Hid (∀ w, Says 9 #[] true w))
    (hE : ¬ (E : Int) = 0) (hE2 : ((E : Int) == 0) = false)
    (TX : Hid (Few l → ∀ w, Rs w A l → Calls Try.prog 16 #[.string s, .slice A 0 c] w fun e w' => e = .returned (.tuple #[.string T, .int .i64 (E : Nat)]) ∧ Below w.heap.size w w'))
    (m : List B) (nm : Nat) (q : ByteArray) (P2 : Hid (∀ w, Calls Try.prog 10 #[.string p] w fun e w' => ∃ A c, e = .returned (.tuple #[.string q, .slice A nm c, .int .i64 (0 : Nat)]) ∧ Own w' w.heap.size A nm c m ∧ Below w.heap.size w w'))
    (TM : Hid (∀ A c w, nm ≤ c → Rs w A m → Calls Try.prog 16 #[.string q, .slice A nm c] w fun e w' => e = .returned (.tuple #[.string p, .int .i64 (0 : Nat)]) ∧ Below w.heap.size w w'))
    (UP : Hid (Few l → ∀ w, Rs w A l → Calls Try.prog 18 #[.slice A 0 c] w fun e w' => ∃ C d x, e = .returned (.tuple #[.slice C 0 d, .string x]) ∧ 0 ≤ d ∧ Rs w' C l.dropLast ∧ Below w.heap.size w w'))
    (W1 : Hid (Few l → ∀ w, Rs w A l → Says 21 #[.slice A 0 c, .slice A 0 c] true w))
    (W2 : Hid (Few l → ∀ C d w, Rs w C l.dropLast → Rs w A l → Says 21 #[.slice C 0 d, .slice A 0 c] true w))
    (W3 : Hid (Few l → ∀ w, Rs w A l → Says 21 #[.slice none 0 0, .slice A 0 c] true w)) :
    Says 7 #[.string s, .slice A 0 c, .string p] true w := by
  go_enter Try.func7, Try.ntmps7
  go_wp2_with fail
  refine F.out.mono ?_; rintro e w1 ⟨b, rfl, rfl, hf⟩
  have HF := Lib.hid hf; clear hf
  cases b
  · go_wp2_with fail
    refine (AW.out _).mono ?_; rintro e w1 ⟨rfl, b1⟩
    have B1 := Lib.hid b1; clear b1
    go_wp2
    go_ret
    exact ⟨rfl, B1.out⟩
  have G := Lib.hid (HF.out (by trivial)); clear HF
  go_wp2_with fail
  refine (TX.out G.out _ HR.out).mono ?_; rintro e w1 ⟨rfl, b1⟩
  have B1 := Lib.hid b1; clear b1
  go_wp2_with fail
  refine (P2.out _).mono ?_; rintro e w4 ⟨A4, c4, rfl, o4, b4⟩
  have R4 := Lib.hid o4.rs; have C4 := Lib.hid o4.2.1; have B4 := Lib.hid (B1.out.trans (b4.mono B1.out.size)); clear o4 b4
  go_wp2_with fail
  refine (TM.out _ _ _ C4.out R4.out).mono ?_; rintro e w5 ⟨rfl, b5⟩
  have B5 := Lib.hid (B4.out.trans (b5.mono B4.out.size)); clear b5
  go_wp2_with fail
  refine (UP.out G.out _ (HR.out.kept B5.out)).mono ?_; rintro e w6 ⟨C, d, x, rfl, hd, r6, b6⟩
  have R6 := Lib.hid r6; have D6 := Lib.hid hd; have B6 := Lib.hid (B5.out.trans (b6.mono B5.out.size)); clear r6 b6 hd
  go_wp2_with fail
  refine (W1.out G.out _ (HR.out.kept B6.out)).mono ?_; rintro e w7 ⟨rfl, b7⟩
  have R7 := Lib.hid (R6.out.kept b7); have B7 := Lib.hid (B6.out.trans (b7.mono B6.out.size)); clear b7
  go_wp2_with fail
  refine (W2.out G.out _ _ _ R7.out (HR.out.kept B7.out)).mono ?_; rintro e w8 ⟨rfl, b8⟩
  have R8 := Lib.hid (R7.out.kept b8); have B8 := Lib.hid (B7.out.trans (b8.mono B7.out.size)); clear b8
  go_wp2_with fail
  refine (W3.out G.out _ (HR.out.kept B8.out)).mono ?_; rintro e w9 ⟨rfl, b9⟩
  have R9 := Lib.hid (R8.out.kept b9); have B9 := Lib.hid (B8.out.trans (b9.mono B8.out.size)); clear b9
  have B10 := B9
  go_wp2_with fail
  refine (AW.out _).mono ?_; rintro e w11 ⟨rfl, b11⟩
  have B11 := Lib.hid (B10.out.trans (b11.mono B10.out.size)); clear b11
  go_wp2
  go_ret
  exact ⟨rfl, B11.out⟩
set_option maxHeartbeats 1000000 in
theorem back_xfx (A : Option Addr) (l : List B) (c E n : Nat) (s p T : ByteArray) (w : World) (HR : Hid (Rs w A l)) (HC : Hid (n ≤ c)) (hs : s.size ≤ 200) (hp : p.size ≤ 1000) (hn : 0 < n) (hn30 : n ≤ 9223372036854775807)
    (F : Hid (Calls Try.prog 15 #[.slice A n c] w (FewPost l w))) (AW : Hid (∀ w, Says 9 #[] true w))
    (hE : ¬ (E : Int) = 0) (hE2 : ((E : Int) == 0) = false)
    (TX : Hid (Few l → ∀ w, Rs w A l → Calls Try.prog 16 #[.string s, .slice A n c] w fun e w' => e = .returned (.tuple #[.string T, .int .i64 (E : Nat)]) ∧ Below w.heap.size w w'))
    (m : List B) (nm : Nat) (q : ByteArray) (P2 : Hid (∀ w, Calls Try.prog 10 #[.string p] w fun e w' => ∃ A c, e = .returned (.tuple #[.string q, .slice A nm c, .int .i64 (0 : Nat)]) ∧ Own w' w.heap.size A nm c m ∧ Below w.heap.size w w'))
    (TM : Hid (∀ A c w, nm ≤ c → Rs w A m → Calls Try.prog 16 #[.string q, .slice A nm c] w fun e w' => e = .returned (.tuple #[.string p, .int .i64 (0 : Nat)]) ∧ Below w.heap.size w w'))
    (UP : Hid (Few l → ∀ w, Rs w A l → Calls Try.prog 18 #[.slice A n c] w fun e w' => ∃ C d x, e = .returned (.tuple #[.slice C (n - 1) d, .string x]) ∧ (n - 1) ≤ d ∧ Rs w' C l.dropLast ∧ Below w.heap.size w w'))
    (W1 : Hid (Few l → ∀ w, Rs w A l → Says 21 #[.slice A n c, .slice A n c] true w))
    (W2 : Hid (Few l → ∀ C d w, Rs w C l.dropLast → Rs w A l → Says 21 #[.slice C (n - 1) d, .slice A n c] true w))
    (W3 : Hid (Few l → ∀ w, Rs w A l → Says 21 #[.slice none 0 0, .slice A n c] true w))
    (W4 : Hid (Few l → ∀ C d w, (n - 1) ≤ d → Rs w A l → Rs w C l.dropLast → Says 21 #[.slice A n c, .slice C (n - 1) d] false w)) :
    Says 7 #[.string s, .slice A n c, .string p] true w := by
  have hn0 : ¬ (n : Int) = 0 := by omega
  have hn1 : ((n : Int) == 0) = false := by simpa using hn0
  go_enter Try.func7, Try.ntmps7
  go_wp2_with fail
  refine F.out.mono ?_; rintro e w1 ⟨b, rfl, rfl, hf⟩
  have HF := Lib.hid hf; clear hf
  cases b
  · go_wp2_with fail
    refine (AW.out _).mono ?_; rintro e w1 ⟨rfl, b1⟩
    have B1 := Lib.hid b1; clear b1
    go_wp2
    go_ret
    exact ⟨rfl, B1.out⟩
  have G := Lib.hid (HF.out (by trivial)); clear HF
  go_wp2_with fail
  refine (TX.out G.out _ HR.out).mono ?_; rintro e w1 ⟨rfl, b1⟩
  have B1 := Lib.hid b1; clear b1
  go_wp2_with fail
  refine (P2.out _).mono ?_; rintro e w4 ⟨A4, c4, rfl, o4, b4⟩
  have R4 := Lib.hid o4.rs; have C4 := Lib.hid o4.2.1; have B4 := Lib.hid (B1.out.trans (b4.mono B1.out.size)); clear o4 b4
  go_wp2_with fail
  refine (TM.out _ _ _ C4.out R4.out).mono ?_; rintro e w5 ⟨rfl, b5⟩
  have B5 := Lib.hid (B4.out.trans (b5.mono B4.out.size)); clear b5
  go_wp2_with fail
  refine (UP.out G.out _ (HR.out.kept B5.out)).mono ?_; rintro e w6 ⟨C, d, x, rfl, hd, r6, b6⟩
  have R6 := Lib.hid r6; have D6 := Lib.hid hd; have B6 := Lib.hid (B5.out.trans (b6.mono B5.out.size)); clear r6 b6 hd
  go_wp2_with fail
  refine (W1.out G.out _ (HR.out.kept B6.out)).mono ?_; rintro e w7 ⟨rfl, b7⟩
  have R7 := Lib.hid (R6.out.kept b7); have B7 := Lib.hid (B6.out.trans (b7.mono B6.out.size)); clear b7
  go_wp2_with fail
  refine (W2.out G.out _ _ _ R7.out (HR.out.kept B7.out)).mono ?_; rintro e w8 ⟨rfl, b8⟩
  have R8 := Lib.hid (R7.out.kept b8); have B8 := Lib.hid (B7.out.trans (b8.mono B7.out.size)); clear b8
  go_wp2_with fail
  refine (W3.out G.out _ (HR.out.kept B8.out)).mono ?_; rintro e w9 ⟨rfl, b9⟩
  have R9 := Lib.hid (R8.out.kept b9); have B9 := Lib.hid (B8.out.trans (b9.mono B8.out.size)); clear b9
  go_wp2_with fail
  refine (W4.out G.out _ _ _ D6.out (HR.out.kept B9.out) R9.out).mono ?_; rintro e w10 ⟨rfl, b10⟩
  have B10 := Lib.hid (B9.out.trans (b10.mono B9.out.size)); clear b10
  go_wp2_with fail
  refine (AW.out _).mono ?_; rintro e w11 ⟨rfl, b11⟩
  have B11 := Lib.hid (B10.out.trans (b11.mono B10.out.size)); clear b11
  go_wp2
  go_ret
  exact ⟨rfl, B11.out⟩
set_option maxHeartbeats 1000000 in
theorem back_xxz (A : Option Addr) (l : List B) (c E : Nat) (s p T : ByteArray) (w : World) (HR : Hid (Rs w A l)) (HC : Hid (0 ≤ c)) (hs : s.size ≤ 200) (hp : p.size ≤ 1000)
    (F : Hid (Calls Try.prog 15 #[.slice A 0 c] w (FewPost l w))) (AW : Hid (∀ w, Says 9 #[] true w))
    (hE : ¬ (E : Int) = 0) (hE2 : ((E : Int) == 0) = false)
    (TX : Hid (Few l → ∀ w, Rs w A l → Calls Try.prog 16 #[.string s, .slice A 0 c] w fun e w' => e = .returned (.tuple #[.string T, .int .i64 (E : Nat)]) ∧ Below w.heap.size w w'))
    (nm k : Nat) (q : ByteArray) (hk : ¬ (k : Int) = 0) (hk2 : ((k : Int) == 0) = false) (P2 : Hid (∀ w, Calls Try.prog 10 #[.string p] w fun e w' => ∃ A c, e = .returned (.tuple #[.string q, .slice A nm c, .int .i64 k]) ∧ Below w.heap.size w w'))
    (UP : Hid (Few l → ∀ w, Rs w A l → Calls Try.prog 18 #[.slice A 0 c] w fun e w' => ∃ C d x, e = .returned (.tuple #[.slice C 0 d, .string x]) ∧ 0 ≤ d ∧ Rs w' C l.dropLast ∧ Below w.heap.size w w'))
    (W1 : Hid (Few l → ∀ w, Rs w A l → Says 21 #[.slice A 0 c, .slice A 0 c] true w))
    (W2 : Hid (Few l → ∀ C d w, Rs w C l.dropLast → Rs w A l → Says 21 #[.slice C 0 d, .slice A 0 c] true w))
    (W3 : Hid (Few l → ∀ w, Rs w A l → Says 21 #[.slice none 0 0, .slice A 0 c] true w)) :
    Says 7 #[.string s, .slice A 0 c, .string p] true w := by
  go_enter Try.func7, Try.ntmps7
  go_wp2_with fail
  refine F.out.mono ?_; rintro e w1 ⟨b, rfl, rfl, hf⟩
  have HF := Lib.hid hf; clear hf
  cases b
  · go_wp2_with fail
    refine (AW.out _).mono ?_; rintro e w1 ⟨rfl, b1⟩
    have B1 := Lib.hid b1; clear b1
    go_wp2
    go_ret
    exact ⟨rfl, B1.out⟩
  have G := Lib.hid (HF.out (by trivial)); clear HF
  go_wp2_with fail
  refine (TX.out G.out _ HR.out).mono ?_; rintro e w1 ⟨rfl, b1⟩
  have B1 := Lib.hid b1; clear b1
  go_wp2_with fail
  refine (P2.out _).mono ?_; rintro e w5 ⟨A4, c4, rfl, b4⟩
  have B5 := Lib.hid (B1.out.trans (b4.mono B1.out.size)); clear b4
  go_wp2_with fail
  refine (UP.out G.out _ (HR.out.kept B5.out)).mono ?_; rintro e w6 ⟨C, d, x, rfl, hd, r6, b6⟩
  have R6 := Lib.hid r6; have D6 := Lib.hid hd; have B6 := Lib.hid (B5.out.trans (b6.mono B5.out.size)); clear r6 b6 hd
  go_wp2_with fail
  refine (W1.out G.out _ (HR.out.kept B6.out)).mono ?_; rintro e w7 ⟨rfl, b7⟩
  have R7 := Lib.hid (R6.out.kept b7); have B7 := Lib.hid (B6.out.trans (b7.mono B6.out.size)); clear b7
  go_wp2_with fail
  refine (W2.out G.out _ _ _ R7.out (HR.out.kept B7.out)).mono ?_; rintro e w8 ⟨rfl, b8⟩
  have R8 := Lib.hid (R7.out.kept b8); have B8 := Lib.hid (B7.out.trans (b8.mono B7.out.size)); clear b8
  go_wp2_with fail
  refine (W3.out G.out _ (HR.out.kept B8.out)).mono ?_; rintro e w9 ⟨rfl, b9⟩
  have R9 := Lib.hid (R8.out.kept b9); have B9 := Lib.hid (B8.out.trans (b9.mono B8.out.size)); clear b9
  have B10 := B9
  go_wp2_with fail
  refine (AW.out _).mono ?_; rintro e w11 ⟨rfl, b11⟩
  have B11 := Lib.hid (B10.out.trans (b11.mono B10.out.size)); clear b11
  go_wp2
  go_ret
  exact ⟨rfl, B11.out⟩
set_option maxHeartbeats 1000000 in
theorem back_xxx (A : Option Addr) (l : List B) (c E n : Nat) (s p T : ByteArray) (w : World) (HR : Hid (Rs w A l)) (HC : Hid (n ≤ c)) (hs : s.size ≤ 200) (hp : p.size ≤ 1000) (hn : 0 < n) (hn30 : n ≤ 9223372036854775807)
    (F : Hid (Calls Try.prog 15 #[.slice A n c] w (FewPost l w))) (AW : Hid (∀ w, Says 9 #[] true w))
    (hE : ¬ (E : Int) = 0) (hE2 : ((E : Int) == 0) = false)
    (TX : Hid (Few l → ∀ w, Rs w A l → Calls Try.prog 16 #[.string s, .slice A n c] w fun e w' => e = .returned (.tuple #[.string T, .int .i64 (E : Nat)]) ∧ Below w.heap.size w w'))
    (nm k : Nat) (q : ByteArray) (hk : ¬ (k : Int) = 0) (hk2 : ((k : Int) == 0) = false) (P2 : Hid (∀ w, Calls Try.prog 10 #[.string p] w fun e w' => ∃ A c, e = .returned (.tuple #[.string q, .slice A nm c, .int .i64 k]) ∧ Below w.heap.size w w'))
    (UP : Hid (Few l → ∀ w, Rs w A l → Calls Try.prog 18 #[.slice A n c] w fun e w' => ∃ C d x, e = .returned (.tuple #[.slice C (n - 1) d, .string x]) ∧ (n - 1) ≤ d ∧ Rs w' C l.dropLast ∧ Below w.heap.size w w'))
    (W1 : Hid (Few l → ∀ w, Rs w A l → Says 21 #[.slice A n c, .slice A n c] true w))
    (W2 : Hid (Few l → ∀ C d w, Rs w C l.dropLast → Rs w A l → Says 21 #[.slice C (n - 1) d, .slice A n c] true w))
    (W3 : Hid (Few l → ∀ w, Rs w A l → Says 21 #[.slice none 0 0, .slice A n c] true w))
    (W4 : Hid (Few l → ∀ C d w, (n - 1) ≤ d → Rs w A l → Rs w C l.dropLast → Says 21 #[.slice A n c, .slice C (n - 1) d] false w)) :
    Says 7 #[.string s, .slice A n c, .string p] true w := by
  have hn0 : ¬ (n : Int) = 0 := by omega
  have hn1 : ((n : Int) == 0) = false := by simpa using hn0
  go_enter Try.func7, Try.ntmps7
  go_wp2_with fail
  refine F.out.mono ?_; rintro e w1 ⟨b, rfl, rfl, hf⟩
  have HF := Lib.hid hf; clear hf
  cases b
  · go_wp2_with fail
    refine (AW.out _).mono ?_; rintro e w1 ⟨rfl, b1⟩
    have B1 := Lib.hid b1; clear b1
    go_wp2
    go_ret
    exact ⟨rfl, B1.out⟩
  have G := Lib.hid (HF.out (by trivial)); clear HF
  go_wp2_with fail
  refine (TX.out G.out _ HR.out).mono ?_; rintro e w1 ⟨rfl, b1⟩
  have B1 := Lib.hid b1; clear b1
  go_wp2_with fail
  refine (P2.out _).mono ?_; rintro e w5 ⟨A4, c4, rfl, b4⟩
  have B5 := Lib.hid (B1.out.trans (b4.mono B1.out.size)); clear b4
  go_wp2_with fail
  refine (UP.out G.out _ (HR.out.kept B5.out)).mono ?_; rintro e w6 ⟨C, d, x, rfl, hd, r6, b6⟩
  have R6 := Lib.hid r6; have D6 := Lib.hid hd; have B6 := Lib.hid (B5.out.trans (b6.mono B5.out.size)); clear r6 b6 hd
  go_wp2_with fail
  refine (W1.out G.out _ (HR.out.kept B6.out)).mono ?_; rintro e w7 ⟨rfl, b7⟩
  have R7 := Lib.hid (R6.out.kept b7); have B7 := Lib.hid (B6.out.trans (b7.mono B6.out.size)); clear b7
  go_wp2_with fail
  refine (W2.out G.out _ _ _ R7.out (HR.out.kept B7.out)).mono ?_; rintro e w8 ⟨rfl, b8⟩
  have R8 := Lib.hid (R7.out.kept b8); have B8 := Lib.hid (B7.out.trans (b8.mono B7.out.size)); clear b8
  go_wp2_with fail
  refine (W3.out G.out _ (HR.out.kept B8.out)).mono ?_; rintro e w9 ⟨rfl, b9⟩
  have R9 := Lib.hid (R8.out.kept b9); have B9 := Lib.hid (B8.out.trans (b9.mono B8.out.size)); clear b9
  go_wp2_with fail
  refine (W4.out G.out _ _ _ D6.out (HR.out.kept B9.out) R9.out).mono ?_; rintro e w10 ⟨rfl, b10⟩
  have B10 := Lib.hid (B9.out.trans (b10.mono B9.out.size)); clear b10
  go_wp2_with fail
  refine (AW.out _).mono ?_; rintro e w11 ⟨rfl, b11⟩
  have B11 := Lib.hid (B10.out.trans (b11.mono B10.out.size)); clear b11
  go_wp2
  go_ret
  exact ⟨rfl, B11.out⟩
end Go.Proofs.Ytaiabcmgpkkfhaa
