/- The law that what was stamped is told, and what is told is stamped just so, walked. Conditions: the program's table as it is laid. -/
import Derived.Test.YtmjgbafoemdlpaaDoorSealM
namespace Go.Proofs.YtmjgbafoemdlpaaDoor
open Go.ChangeShapes Go.WideShapes Go.RowKit Go.Codec
set_option maxRecDepth 100000
set_option linter.unusedVariables false
theorem once_big (g i : Nat) (s t : ByteArray) (hst : (3000 : Int) < (s.size : Int) ∨ ¬ (3000 : Int) < (s.size : Int) ∧ (3000 : Int) < (t.size : Int)) (w : World) (ht : Laid w) (hs : s.size ≤ maxLen) (htl : t.size ≤ maxLen) :
    Calls Tryd.prog 7 #[.agg #[.int .u64 g, .int .u32 i], .string s, .string t] w fun e w' => e = .returned (.bool true) ∧ Below w.heap.size w w' := by
  unfold maxLen at hs htl
  have HB := Lib.hid ((Below.refl w.heap.size w).alloc (Nat.le_refl _) (.cells #[.int .u64 g, .int .u32 i] 38))
  have HW := Lib.hid (fun w' (hb : Below w.heap.size w w') => works_later ht hb)
  clear ht
  rcases hst with h | ⟨h, h'⟩
  · go_enter Tryd.func7, Tryd.ntmps7
    go_wp2_with fail
    refine (HW.out _ HB.out).mono ?_; rintro e w1 ⟨rfl, b1⟩
    go_wp2
    go_ret
    exact ⟨rfl, b1⟩
  · go_enter Tryd.func7, Tryd.ntmps7
    go_wp2_with fail
    refine (HW.out _ HB.out).mono ?_; rintro e w1 ⟨rfl, b1⟩
    go_wp2
    go_ret
    exact ⟨rfl, b1⟩
set_option maxHeartbeats 2000000 in
theorem once_core (g i p q : Nat) (s t U C : ByteArray) (y : Int) (h1 : ¬ (3000 : Int) < (s.size : Int)) (h2 : ¬ (3000 : Int) < (t.size : Int)) (w : World) (HT : Hid (Laid w))
    (H1 : Hid (∀ w, Calls Tryd.prog 23 #[.agg #[.int .u64 g, .int .u32 i], .string s, .int .i64 ((s.size : Int) + 26)] w fun e w' => e = .returned (.string U) ∧ Below w.heap.size w w'))
    (H2 : Hid (∀ w, Calls Tryd.prog 19 #[.string U] w fun e w' => e = .returned (.tuple #[.int .u64 g, .int .u32 i, .string s, .int .i64 0]) ∧ Below w.heap.size w w'))
    (H3 : Hid (∀ w, Calls Tryd.prog 19 #[.string t] w fun e w' => e = .returned (.tuple #[.int .u64 p, .int .u32 q, .string C, .int .i64 y]) ∧ Below w.heap.size w w'))
    (H4 : Hid (¬ y = 0 ∧ (∀ w, Calls Tryd.prog 24 #[.string t, .int .i64 y] w fun e w' => e = .returned (.bool true) ∧ Below w.heap.size w w') ∨
      y = 0 ∧ (∀ w, Calls Tryd.prog 23 #[.agg #[.int .u64 p, .int .u32 q], .string C, .int .i64 (t.size : Int)] w fun e w' => e = .returned (.string t) ∧ Below w.heap.size w w'))) :
    Calls Tryd.prog 7 #[.agg #[.int .u64 g, .int .u32 i], .string s, .string t] w fun e w' => e = .returned (.bool true) ∧ Below w.heap.size w w' := by
  have HB := Lib.hid ((Below.refl w.heap.size w).alloc (Nat.le_refl _) (.cells #[.int .u64 g, .int .u32 i] 38))
  have HW := Lib.hid (fun w' (hb : Below w.heap.size w w') => works_later HT.out hb)
  have HI := Lib.hid (Is.new w 38 #[.int .u64 g, .int .u32 i])
  go_enter Tryd.func7, Tryd.ntmps7
  go_wp2_with fail
  refine (H1.out _).mono ?_; rintro e w1 ⟨rfl, b⟩
  have HI1 := Lib.hid (HI.out.kept (grow_below b none) (by simp))
  have B1 := Lib.hid (HB.out.trans (b.mono HB.out.size)); clear b
  go_wp2_with fail
  refine (H2.out _).mono ?_; rintro e w2 ⟨rfl, b⟩
  have hI := HI1.out.kept (grow_below b none) (by simp)
  have c0 := hI.cell 0
  have c1 := hI.cell 1
  simp at c0 c1
  have B2 := Lib.hid (B1.out.trans (b.mono B1.out.size)); clear b hI
  go_wp2_with fail
  refine (H3.out _).mono ?_; rintro e w3 ⟨rfl, b⟩
  have B3 := Lib.hid (B2.out.trans (b.mono B2.out.size)); clear b c0 c1
  rcases H4.out with ⟨hy, h⟩ | ⟨rfl, h⟩
  · replace h := Lib.hid h
    go_wp2_with fail
    refine (h.out _).mono ?_; rintro e w4 ⟨rfl, b⟩
    have B4 := Lib.hid (B3.out.trans (b.mono B3.out.size)); clear b
    go_wp2_with fail
    refine (HW.out _ B4.out).mono ?_; rintro e w5 ⟨rfl, b5⟩
    go_wp2
    go_ret
    exact ⟨rfl, b5⟩
  · replace h := Lib.hid h
    go_wp2_with fail
    refine (h.out _).mono ?_; rintro e w4 ⟨rfl, b⟩
    have B4 := Lib.hid (B3.out.trans (b.mono B3.out.size)); clear b
    go_wp2_with fail
    refine (HW.out _ B4.out).mono ?_; rintro e w5 ⟨rfl, b5⟩
    go_wp2
    go_ret
    exact ⟨rfl, b5⟩
theorem un_len (l : List UInt8) : (Seal.unstamp l).2.2.1.length ≤ l.length := by
  unfold Seal.unstamp
  split
  · simp
  · split
    · simp
    · split
      · simp [List.length_take, List.length_drop]; omega
      · simp
theorem once (g i : Nat) (s t : ByteArray) (hg : g < 18446744073709551616) (hi : i < 4294967296) (hs : s.size ≤ maxLen) (htl : t.size ≤ maxLen) (w : World) (ht : Laid w) :
    Calls Tryd.prog 7 #[.agg #[.int .u64 g, .int .u32 i], .string s, .string t] w fun e w' => e = .returned (.bool true) ∧ Below w.heap.size w w' := by
  by_cases h1 : (3000 : Int) < (s.size : Int)
  · exact once_big g i s t (.inl h1) w ht hs htl
  by_cases h2 : (3000 : Int) < (t.size : Int)
  · exact once_big g i s t (.inr ⟨h1, h2⟩) w ht hs htl
  have hl : s.data.toList.length = s.size := (Lib.size_eq s).symm
  have htt : t.data.toList.length = t.size := (Lib.size_eq t).symm
  have e1 : (Seal.stamp g i s.data.toList ((s.size : Int) + 26)).1 = Seal.sheet g i s.data.toList 0 := by
    unfold Seal.stamp
    rw [if_neg (by omega), if_neg (by omega), hl, show ((s.size : Int) + 26).toNat - 26 - s.size = 0 by omega]
  have hsl := Seal.sheet_length g i s.data.toList 0
  have H2 := fun w => un_any (bs (Seal.sheet g i s.data.toList 0)) (by rw [bs_size]; omega) w
  rw [bs_list, Seal.unstamp_sheet g i s.data.toList 0 (by omega) hg hi] at H2
  simp only [list_bs] at H2
  have H3 := fun w => un_any t (by omega) w
  refine once_core g i _ _ s t (bs (Seal.sheet g i s.data.toList 0)) _ _ h1 h2 w (Lib.hid ht) (Lib.hid fun w => stamped_any g i s _ _ (by omega) e1 w) (Lib.hid H2) (Lib.hid H3) (Lib.hid ?_)
  by_cases hy : (Seal.unstamp t.data.toList).2.2.2 = 0
  · right
    refine ⟨hy, fun w => ?_⟩
    have hb := Seal.stamp_back _ hy
    have hu := un_len t.data.toList
    have h := stamped_any (Seal.unstamp t.data.toList).1 (Seal.unstamp t.data.toList).2.1 (bs (Seal.unstamp t.data.toList).2.2.1) (t.size : Int) t.data.toList (by rw [bs_size]; omega) (by rw [bs_list, ← htt, hb]) w
    rw [list_bs] at h
    exact h
  · left
    refine ⟨hy, fun w => ?_⟩
    obtain ⟨a1, a2, a3⟩ := Seal.unstamp_none _ hy
    refine none_true t _ (by omega) ?_ w
    exact Prod.ext a1 (Prod.ext a2 (Prod.ext a3 rfl))
end Go.Proofs.YtmjgbafoemdlpaaDoor
