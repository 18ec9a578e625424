/- The laws that ask the document's answer, walked. Conditions: the program's table as it is laid. -/
import Derived.Test.YtmjgbafoemdlpaaDoorSealL
namespace Go.Proofs.YtmjgbafoemdlpaaDoor
open Go.ChangeShapes Go.WideShapes Go.RowKit Go.Codec
set_option maxRecDepth 100000
set_option linter.unusedVariables false
theorem works_later {w w' : World} (ht : Laid w) (hb : Below w.heap.size w w') :
    Calls Tryd.prog 10 #[] w' fun e w'' => e = .returned (.bool true) ∧ Below w.heap.size w w'' :=
  (works_any w' (ht.later hb)).mono fun _ _ ⟨he, b⟩ => ⟨he, hb.trans (b.mono hb.size)⟩
set_option maxHeartbeats 2000000 in
theorem tells (s : ByteArray) (n : Int) (hs : s.size ≤ maxLen) (w : World) (ht : Laid w) :
    Calls Tryd.prog 3 #[.string s, .int .i64 n] w fun e w' => e = .returned (.bool true) ∧ Below w.heap.size w w' := by
  unfold maxLen at hs
  have HT := Lib.hid ht; clear ht
  by_cases h5 : (5000 : Int) < (s.size : Int)
  · have HW := Lib.hid (works_later HT.out (Below.refl _ _))
    go_enter Tryd.func3, Tryd.ntmps3
    go_wp2_with fail
    refine HW.out.mono ?_; rintro e w1 ⟨rfl, b1⟩
    go_wp2
    go_ret
    exact ⟨rfl, b1⟩
  · have hsz : s.size ≤ 1073741824 := by omega
    have H1 := Lib.hid (fun w' h => seal_any s hsz w' h)
    have H2 := Lib.hid (fun w' => rseal_any s hsz w')
    have H3 := Lib.hid (fun w' h => open_any s hsz w' h)
    have H4 := Lib.hid (fun w' => ropen_any s hsz w')
    have H5 := Lib.hid (fun w' => pad_any s n hsz w')
    have H6 := Lib.hid (fun w' => rpad_any s n hsz w')
    generalize bs (Seal.sealL s.data.toList).1 = A at *
    generalize (Seal.sealL s.data.toList).2 = x at *
    generalize bs (Seal.opn s.data.toList).1 = B at *
    generalize bs (Seal.opn s.data.toList).2.1 = C at *
    generalize (Seal.opn s.data.toList).2.2 = y at *
    generalize bs (Seal.pad s.data.toList n).1 = D at *
    generalize (Seal.pad s.data.toList n).2 = z at *
    have HW := Lib.hid (fun w' (hb : Below w.heap.size w w') => works_later HT.out hb)
    clear hsz
    go_enter Tryd.func3, Tryd.ntmps3
    go_wp2_with fail
    refine (H1.out _ HT.out).mono ?_; rintro e w1 ⟨rfl, b⟩
    have B1 := Lib.hid b; clear b
    go_wp2_with fail
    refine (H2.out _).mono ?_; rintro e w2 ⟨rfl, b⟩
    have B2 := Lib.hid (B1.out.trans (b.mono B1.out.size)); clear b
    go_wp2_with fail
    refine (H3.out _ (HT.out.later B2.out)).mono ?_; rintro e w3 ⟨rfl, b⟩
    have B3 := Lib.hid (B2.out.trans (b.mono B2.out.size)); clear b
    go_wp2_with fail
    refine (H4.out _).mono ?_; rintro e w4 ⟨rfl, b⟩
    have B4 := Lib.hid (B3.out.trans (b.mono B3.out.size)); clear b
    go_wp2_with fail
    refine (H5.out _).mono ?_; rintro e w5 ⟨rfl, b⟩
    have B5 := Lib.hid (B4.out.trans (b.mono B4.out.size)); clear b
    go_wp2_with fail
    refine (H6.out _).mono ?_; rintro e w6 ⟨rfl, b⟩
    have B6 := Lib.hid (B5.out.trans (b.mono B5.out.size)); clear b
    go_wp2_with fail
    refine (HW.out _ B6.out).mono ?_; rintro e w7 ⟨rfl, b7⟩
    go_wp2
    go_ret
    exact ⟨rfl, b7⟩
set_option maxHeartbeats 2000000 in
theorem stamps (g i : Nat) (s : ByteArray) (n : Int) (hg : g < 18446744073709551616) (hi : i < 4294967296) (hs : s.size ≤ maxLen) (w : World) (ht : Laid w) :
    Calls Tryd.prog 4 #[.agg #[.int .u64 g, .int .u32 i], .string s, .int .i64 n] w fun e w' => e = .returned (.bool true) ∧ Below w.heap.size w w' := by
  unfold maxLen at hs
  have HT := Lib.hid ht; clear ht
  have HB := Lib.hid ((Below.refl w.heap.size w).alloc (Nat.le_refl _) (.cells #[.int .u64 g, .int .u32 i] 38))
  have HW := Lib.hid (fun w' (hb : Below w.heap.size w w') => works_later HT.out hb)
  by_cases h5 : (5000 : Int) < (s.size : Int)
  · clear hg hi
    go_enter Tryd.func4, Tryd.ntmps4
    go_wp2_with fail
    refine (HW.out _ HB.out).mono ?_; rintro e w1 ⟨rfl, b1⟩
    go_wp2
    go_ret
    exact ⟨rfl, b1⟩
  · have hsz : s.size ≤ 1073741824 := by omega
    have H1 := Lib.hid (fun w' => stamp_any g i s n hsz w')
    have H2 := Lib.hid (fun w' => rstamp_any g i s n hsz hg hi w')
    have H3 := Lib.hid (fun w' => un_any s hsz w')
    have H4 := Lib.hid (fun w' => run_any s hsz w')
    have HI := Lib.hid (Is.new w 38 #[.int .u64 g, .int .u32 i])
    generalize bs (Seal.stamp g i s.data.toList n).1 = A at *
    generalize (Seal.stamp g i s.data.toList n).2 = x at *
    generalize bs (Seal.unstamp s.data.toList).2.2.1 = C at *
    generalize (Seal.unstamp s.data.toList).2.2.2 = y at *
    generalize (Seal.unstamp s.data.toList).1 = p at *
    generalize (Seal.unstamp s.data.toList).2.1 = q at *
    clear hsz hg hi
    go_enter Tryd.func4, Tryd.ntmps4
    go_wp2_with fail
    refine (H1.out _).mono ?_; rintro e w1 ⟨rfl, b⟩
    have hI := HI.out.kept (grow_below b none) (by simp)
    have c0 := hI.cell 0
    have c1 := hI.cell 1
    simp at c0 c1
    have B1 := Lib.hid (HB.out.trans (b.mono HB.out.size)); clear b hI
    go_wp2_with fail
    refine (H2.out _).mono ?_; rintro e w2 ⟨rfl, b⟩
    have B2 := Lib.hid (B1.out.trans (b.mono B1.out.size)); clear b c0 c1
    go_wp2_with fail
    refine (H3.out _).mono ?_; rintro e w3 ⟨rfl, b⟩
    have B3 := Lib.hid (B2.out.trans (b.mono B2.out.size)); clear b
    go_wp2_with fail
    refine (H4.out _).mono ?_; rintro e w4 ⟨rfl, b⟩
    have B4 := Lib.hid (B3.out.trans (b.mono B3.out.size)); clear b
    go_wp2_with fail
    refine (HW.out _ B4.out).mono ?_; rintro e w7 ⟨rfl, b7⟩
    go_wp2
    go_ret
    exact ⟨rfl, b7⟩
end Go.Proofs.YtmjgbafoemdlpaaDoor
