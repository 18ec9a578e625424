/- The law on long texts, walked. Conditions: the program's table as it is laid. -/
import Derived.Test.YtmjgbafoemdlpaaDoorSealM
namespace Go.Proofs.YtmjgbafoemdlpaaDoor
open Go.ChangeShapes Go.WideShapes Go.RowKit Go.Codec
set_option maxRecDepth 100000
set_option linter.unusedVariables false
theorem make_run32 (n : Nat) (hn : n ≤ 1099511627776) (w : World) : (Instr.makeSlice 46 (.int .u32 (n : Int)) (.int .u32 (n : Int))).run Tryd.prog w = .ok (.slice (some ⟨w.heap.size, 0, none⟩) n n) (mk w n) :=
  run_make_row' 46 5 (.int .u8 0) 1 Tryd.underlying46 info5 rfl .u32 .u32 n (by omega) (by omega) w
def oneAt (n r : Nat) : List UInt8 := (Seal.noughts n).set r 1
theorem oneAt_length (n r : Nat) : (oneAt n r).length = n := by simp [oneAt, Seal.noughts_length]
theorem one_text_at (n r : Nat) (hr : r < n) (w : World) : (convert 46 9 (.slice (some ⟨w.heap.size, 0, none⟩) n n)).run Tryd.prog ((mk w n).setCell ⟨w.heap.size, r, none⟩ (.int .u8 1)) = .ok (.string (bs (oneAt n r))) ((mk w n).setCell ⟨w.heap.size, r, none⟩ (.int .u8 1)) := by
  have hI : Is ((mk w n).setCell ⟨w.heap.size, r, none⟩ (.int .u8 1)) w.heap.size 5 ((madeCells #[.int .u8 0] n).setIfInBounds r (.int .u8 1)) := (Is.new w 5 (madeCells #[.int .u8 0] n)).put r _
  have h := run_convert_bytes_back (P := Tryd.prog) ((mk w n).setCell ⟨w.heap.size, r, none⟩ (.int .u8 1)) 46 9 5 ⟨w.heap.size, 0, none⟩ n (oneAt n r) Tryd.underlying46 Tryd.underlying5 Tryd.underlying9 (fun j hj => by
    have hj' : j < n := by rw [oneAt_length] at hj; exact hj
    have e : (⟨w.heap.size, 0, none⟩ : Addr).add j = ⟨w.heap.size, j, none⟩ := by unfold Addr.add; split <;> simp_all
    rw [e, hI.cell j, ← Array.getElem?_toList, Array.toList_setIfInBounds, toList_madeCells_one]
    by_cases hjr : r = j
    · subst hjr
      simp [oneAt, Seal.noughts, hj']
    · simp [oneAt, Seal.noughts, hj', hjr])
  rw [oneAt_length] at h
  exact h
set_option maxHeartbeats 2000000 in
theorem long_core (n at_ : Nat) (size : Int) (m r : Nat) (hn : n < 4294967296) (hat : at_ < 4294967296) (hm : (n : Int) % 70000 = (m : Int)) (hml : m < 70000) (w w1 w2 : World) (S : ByteArray) (hS : S.size ≤ 1073741824)
    (hmk : (Instr.makeSlice 46 (.int .u32 (m : Int)) (.int .u32 (m : Int))).run Tryd.prog w = .ok (.slice (some ⟨w.heap.size, 0, none⟩) m m) w1)
    (hst : m = 0 ∧ w1 = w2 ∨ 0 < m ∧ (at_ : Int).tmod (m : Int) = (r : Int) ∧ r < m ∧ w1.cell? ⟨w.heap.size, r, none⟩ = some (.int .u8 0) ∧ w1.frozen? ⟨w.heap.size, r, none⟩ = false ∧ w.heap.size < w1.heap.size ∧ w1.setCell ⟨w.heap.size, r, none⟩ (.int .u8 1) = w2)
    (hcv : (convert 46 9 (.slice (some ⟨w.heap.size, 0, none⟩) m m)).run Tryd.prog w2 = .ok (.string S) w2) (HB : Hid (Below w.heap.size w w2)) (HT : Hid (Laid w)) :
    Calls Tryd.prog 5 #[.int .u32 n, .int .u32 at_, .int .i64 size] w fun e w' => e = .returned (.bool true) ∧ Below w.heap.size w w' := by
  have H1 := Lib.hid (fun w' h => seal_any S hS w' h)
  have H2 := Lib.hid (fun w' => rseal_any S hS w')
  have H3 := Lib.hid (fun w' => un_any S hS w')
  have H4 := Lib.hid (fun w' => run_any S hS w')
  have H5 := Lib.hid (fun w' => stamp_any 7 8 S size hS w')
  have H6 := Lib.hid (fun w' => rstamp_any 7 8 S size hS (by omega) (by omega) w')
  have HW := Lib.hid (fun w' (hb : Below w.heap.size w w') => works_later HT.out hb)
  generalize bs (Seal.sealL S.data.toList).1 = A at *
  generalize (Seal.sealL S.data.toList).2 = x at *
  generalize bs (Seal.unstamp S.data.toList).2.2.1 = C at *
  generalize (Seal.unstamp S.data.toList).2.2.2 = y at *
  generalize (Seal.unstamp S.data.toList).1 = p at *
  generalize (Seal.unstamp S.data.toList).2.1 = q at *
  generalize bs (Seal.stamp 7 8 S.data.toList size).1 = D at *
  generalize (Seal.stamp 7 8 S.data.toList size).2 = z at *
  have hu : IntKind.i64.wrap (at_ : Int) = (at_ : Int) := by rw [IntKind.wrap_i64]; omega
  have hm' : (n : Int).tmod 70000 = (m : Int) := by rw [Int.tmod_eq_emod_of_nonneg (by omega)]; exact hm
  clear hS
  rcases hst with ⟨rfl, rfl⟩ | ⟨hm0, hr, hrm, hc, hf, hlt, rfl⟩
  · rw [show ((0 : Nat) : Int) = 0 from rfl] at hmk hm hm'
    go_enter Tryd.func5, Tryd.ntmps5
    go_wp2_with fail
    refine (H1.out _ (HT.out.later HB.out)).mono ?_; rintro e w3 ⟨rfl, b⟩
    have B1 := Lib.hid (HB.out.trans (b.mono HB.out.size)); clear b
    go_wp2_with fail
    refine (H2.out _).mono ?_; rintro e w4 ⟨rfl, b⟩
    have B2 := Lib.hid (B1.out.trans (b.mono B1.out.size)); clear b
    go_wp2_with fail
    refine (H3.out _).mono ?_; rintro e w5 ⟨rfl, b⟩
    have B3 := Lib.hid (B2.out.trans (b.mono B2.out.size)); clear b
    go_wp2_with fail
    refine (H4.out _).mono ?_; rintro e w6 ⟨rfl, b⟩
    have B4 := Lib.hid (B3.out.trans (b.mono B3.out.size)); clear b
    go_wp2_with fail
    refine (H5.out _).mono ?_; rintro e w7 ⟨rfl, b⟩
    have B5 := Lib.hid (B4.out.trans (b.mono B4.out.size)); clear b
    go_wp2_with fail
    refine (H6.out _).mono ?_; rintro e w8 ⟨rfl, b⟩
    have B6 := Lib.hid (B5.out.trans (b.mono B5.out.size)); clear b
    go_wp2_with fail
    refine (HW.out _ B6.out).mono ?_; rintro e w9 ⟨rfl, b9⟩
    go_wp2
    go_ret
    exact ⟨rfl, b9⟩
  · have hm1 : (0 : Int) < (m : Int) := by omega
    go_enter Tryd.func5, Tryd.ntmps5
    go_wp2_with fail
    refine (H1.out _ (HT.out.later HB.out)).mono ?_; rintro e w3 ⟨rfl, b⟩
    have B1 := Lib.hid (HB.out.trans (b.mono HB.out.size)); clear b
    go_wp2_with fail
    refine (H2.out _).mono ?_; rintro e w4 ⟨rfl, b⟩
    have B2 := Lib.hid (B1.out.trans (b.mono B1.out.size)); clear b
    go_wp2_with fail
    refine (H3.out _).mono ?_; rintro e w5 ⟨rfl, b⟩
    have B3 := Lib.hid (B2.out.trans (b.mono B2.out.size)); clear b
    go_wp2_with fail
    refine (H4.out _).mono ?_; rintro e w6 ⟨rfl, b⟩
    have B4 := Lib.hid (B3.out.trans (b.mono B3.out.size)); clear b
    go_wp2_with fail
    refine (H5.out _).mono ?_; rintro e w7 ⟨rfl, b⟩
    have B5 := Lib.hid (B4.out.trans (b.mono B4.out.size)); clear b
    go_wp2_with fail
    refine (H6.out _).mono ?_; rintro e w8 ⟨rfl, b⟩
    have B6 := Lib.hid (B5.out.trans (b.mono B5.out.size)); clear b
    go_wp2_with fail
    refine (HW.out _ B6.out).mono ?_; rintro e w9 ⟨rfl, b9⟩
    go_wp2
    go_ret
    exact ⟨rfl, b9⟩
theorem long (n at_ : Nat) (size : Int) (hn : n < 4294967296) (hat : at_ < 4294967296) (w : World) (ht : Laid w) :
    Calls Tryd.prog 5 #[.int .u32 n, .int .u32 at_, .int .i64 size] w fun e w' => e = .returned (.bool true) ∧ Below w.heap.size w w' := by
  obtain ⟨m, hm⟩ : ∃ m, m = n % 70000 := ⟨_, rfl⟩
  by_cases h0 : m = 0
  · subst h0
    exact long_core n at_ size 0 0 hn hat (by omega) (by omega) w (mk w 0) (mk w 0) (bs (Seal.noughts 0)) (by rw [bs_size]; decide) (make_run32 0 (by omega) w) (.inl ⟨rfl, rfl⟩) (nought_text 0 w) (Lib.hid (mk_below w 0)) (Lib.hid ht)
  · have hr : at_ % m < m := Nat.mod_lt _ (by omega)
    have hI := Is.new w 5 (madeCells #[.int .u8 0] m)
    refine long_core n at_ size m (at_ % m) hn hat (by omega) (by omega) w (mk w m) _ (bs (oneAt m (at_ % m))) (by rw [bs_size, oneAt_length]; omega) (make_run32 m (by omega) w) (.inr ⟨by omega, ?_, hr, ?_, hI.frozen _, hI.lt, rfl⟩) (one_text_at m _ hr w) (Lib.hid ((mk_below w m).setCell (Nat.le_refl _) _)) (Lib.hid ht)
    · rw [Int.tmod_eq_emod_of_nonneg (by omega)]; rfl
    · refine (hI.cell _).trans ?_
      rw [← Array.getElem?_toList, toList_madeCells_one]
      simp [hr]
end Go.Proofs.YtmjgbafoemdlpaaDoor
