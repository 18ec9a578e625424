/- The writer: copies of texts, numbers as bytes. Conditions: lengths below 2^40. -/
import Derived.Test.YtlidieffaaicaaaGreatCodA
namespace Go.Proofs.YtlidieffaaicaaaGreat
open Go.ChangeShapes Go.WideShapes Go.RowKit Go.Codec
set_option maxRecDepth 100000
theorem info5 : (Tryz.prog.info? 5).map (fun i => (i.zero, i.size, i.bytes)) = some (some (.int .u8 0), 1, 1) := by kernel_rfl
theorem info5' : (Tryz.prog.info? 5).map (·.size) = some 1 := by kernel_rfl
theorem cells5 : Tryz.prog.cellsOf 5 = 1 := by kernel_rfl
def mk (w : World) (n : Nat) : World := w.alloc (.cells (madeCells #[.int .u8 0] n) 5)
theorem make_run (n : Nat) (hn : n ≤ 1099511627776) (w : World) : (Instr.makeSlice 72 (.int .i64 (n : Int)) (.int .i64 (n : Int))).run Tryz.prog w = .ok (.slice (some ⟨w.heap.size, 0, none⟩) n n) (mk w n) :=
  run_make_row' 72 5 (.int .u8 0) 1 Tryz.underlying72 info5 rfl .i64 .i64 n (by omega) (by omega) w
theorem clone_lite (s : ByteArray) (hs : s.size ≤ 1099511627776) (w : World) :
    Calls Tryz.prog 111 #[.string s] w fun e w' => e = .returned (.string s) ∧ Below w.heap.size w w' := by
  by_cases h0 : s.size = 0
  · have e := empty_of_size h0
    subst e
    go_enter Tryz.func111, Tryz.ntmps111
    go_wp2
    go_ret
    exact ⟨rfl, Below.refl _ _⟩
  · have hmk := make_run s.size hs w
    have hmz : (madeCells #[Value.int .u8 0] s.size).size = s.size := by rw [size_madeCells]
    have hcp := Lib.run_copy_row_string (P := Tryz.prog) (mk w s.size) 72 9 3 5 w.heap.size 0 s.size s.size s (madeCells #[.int .u8 0] s.size) 5 Tryz.underlying72 info5' (heap_alloc_new w _) (Nat.le_refl _) (by omega)
    obtain ⟨Y, hY⟩ : ∃ Y, Y = ((madeCells #[Value.int .u8 0] s.size).toList.take 0 ++ Lib.byteCells s.data.toList ++ (madeCells #[Value.int .u8 0] s.size).toList.drop (0 + s.size)).toArray := ⟨_, rfl⟩
    rw [← hY] at hcp
    have hYl : Y.toList = Lib.byteCells s.data.toList := by
      rw [hY, List.toList_toArray, List.take_zero, List.nil_append, List.drop_of_length_le (by rw [Array.length_toList]; omega), List.append_nil]
    have hYs : Y.size = s.size := by rw [← Array.length_toList, hYl, Lib.byteCells_length, ← Lib.size_eq]
    have hgY : ((mk w s.size).setRow w.heap.size Y).heap[w.heap.size]? = some (.cells Y 5 (0, 0)) := setRow_heap _ _ (madeCells #[.int .u8 0] s.size) _ 5 (0, 0) (heap_alloc_new w _)
    have hne : s.data.toList ≠ [] := fun e => h0 (by rw [Lib.size_eq, e]; rfl)
    have hUS := Lib.run_unsafeString_row (P := Tryz.prog) ((mk w s.size).setRow w.heap.size Y) 146 3 9 5 Tryz.underlying146 cells5 w.heap.size Y.size (by unfold World.shape?; rw [hgY]) s.data.toList hne (by rw [← Lib.size_eq]; omega) (by rw [← Lib.size_eq]; omega)
      (fun j x hx => Lib.cells_of_row hgY Y.size j _ (by rw [List.take_of_length_le (by rw [Array.length_toList]; exact Nat.le_refl _), hYl]; simp [Lib.byteCells, hx]))
    rw [← Lib.size_eq] at hUS
    clear hY
    have HY := Lib.hid hYl; have HZ := Lib.hid hYs; have HG := Lib.hid hgY; have HM := Lib.hid hmz
    clear hYl hYs hgY hmz hne
    go_enter Tryz.func111, Tryz.ntmps111
    go_wp2
    go_ret
    have hb1 : Below w.heap.size w (mk w s.size) := (Below.refl _ w).alloc (Nat.le_refl _) _
    have hb2 : Below w.heap.size (mk w s.size) ((mk w s.size).setRow w.heap.size Y) := ⟨rfl, rfl, rfl, by simp, fun k hk => setRow_other _ _ _ _ (by omega)⟩
    exact ⟨rfl, Lib.below_freeze (hb1.trans hb2) (p := ⟨w.heap.size, 0, none⟩) (Nat.le_refl _) _⟩
theorem clone (s : ByteArray) (hs : s.size ≤ 1099511627776) (w : World) :
    Calls Tryz.prog 84 #[.string s] w fun e w' => e = .returned (.string s) ∧ Below w.heap.size w w' := by
  go_enter Tryz.func84, Tryz.ntmps84
  go_wp2_with (go_at_call 111; refine (clone_lite s hs _).mono ?_; rintro e w' ⟨rfl, hb⟩)
  go_ret
  exact ⟨rfl, hb⟩
/-- A row of m bytes of which the first k are those of l. -/
def part (l : List UInt8) (k m : Nat) : Array Value := ((l.take k).map (fun b : UInt8 => Value.int .u8 b.toNat) ++ List.replicate (m - k) (Value.int .u8 0)).toArray
theorem part_zero (l : List UInt8) (m : Nat) : part l 0 m = madeCells #[.int .u8 0] m := by
  apply Array.ext'
  rw [toList_madeCells_one]
  simp [part]
theorem part_at (l : List UInt8) (k m : Nat) (hl : l.length = m) (hk : k < m) : (part l k m)[k]? = some (.int .u8 0) := by
  obtain ⟨d, hd⟩ : ∃ d, m - k = d + 1 := ⟨m - k - 1, by omega⟩
  have hlen : (List.map (fun b : UInt8 => Value.int .u8 b.toNat) (List.take k l)).length = k := by simp; omega
  simp only [part, List.getElem?_toArray]
  rw [List.getElem?_append_right (by omega), hd, hlen, Nat.sub_self]
  simp
theorem part_step (l : List UInt8) (k m : Nat) (b : UInt8) (hl : l.length = m) (hk : k < m) (hb : l[k]? = some b) : (part l k m).setIfInBounds k (.int .u8 b.toNat) = part l (k + 1) m := by
  obtain ⟨d, hd⟩ : ∃ d, m - k = d + 1 := ⟨m - k - 1, by omega⟩
  have hd' : m - (k + 1) = d := by omega
  have hlen : (List.map (fun b : UInt8 => Value.int .u8 b.toNat) (List.take k l)).length = k := by simp; omega
  apply Array.ext'
  simp only [part, Array.toList_setIfInBounds]
  rw [hd, hd', List.replicate_succ, List.set_append, if_neg (by omega), hlen, Nat.sub_self, List.take_add_one, hb]
  simp
theorem part_full (l : List UInt8) (m : Nat) (hl : l.length = m) : part l m m = (l.map (fun b : UInt8 => Value.int .u8 b.toNat)).toArray := by
  simp [part, ← hl]
theorem text_run (l : List UInt8) (m : Nat) (hl : l.length = m) (w : World) : (convert 72 9 (.slice (some ⟨w.heap.size, 0, none⟩) m m)).run Tryz.prog (w.alloc (.cells (part l m m) 5)) = .ok (.string (bs l)) (w.alloc (.cells (part l m m) 5)) := by
  have h := run_convert_bytes_back (P := Tryz.prog) (w.alloc (.cells (part l m m) 5)) 72 9 5 ⟨w.heap.size, 0, none⟩ m l Tryz.underlying72 Tryz.underlying5 Tryz.underlying9 (fun j hj => by
    have e : (⟨w.heap.size, 0, none⟩ : Addr).add j = ⟨w.heap.size, j, none⟩ := by unfold Addr.add; split <;> simp_all
    rw [e]
    refine (World.cell?_alloc_mark w _ 5 (0, 0) j).trans ?_
    rw [part_full l m hl]
    simp [hj])
  rw [hl] at h
  exact h
theorem byte_of (n k m : Nat) : (n : Int) / 2 ^ (8 * (m - 1 - k)) % 256 = (((UInt8.ofNat (n / 256 ^ (m - 1 - k))).toNat : Nat) : Int) := by
  rw [pow_eight]
  have e : ((2 : Int) ^ (8 * (m - 1 - k))) = ((2 ^ (8 * (m - 1 - k)) : Nat) : Int) := by simp
  rw [e]
  simp
set_option maxHeartbeats 400000 in
theorem put64_loop (n : Nat) (a : Value) (w : World) (Q : Ending → World → Prop)
    (hadd : Calls Tryz.prog 118 #[a, .string (bs (be 8 n))] (w.alloc (.cells (part (be 8 n) 8 8) 5)) fun e w' => e = .returned (.tuple #[]) ∧ Q e w') :
    Calls Tryz.prog 97 #[a, .int .u64 n] w Q := by
  have hmk : (Instr.makeSlice 72 (.int .i64 8) (.int .i64 8)).run Tryz.prog w = .ok (.slice (some ⟨w.heap.size, 0, none⟩) 8 8) (w.alloc (.cells (part (be 8 n) 0 8) 5)) := by
    rw [part_zero]; exact make_run 8 (by omega) w
  have hcv := text_run (be 8 n) 8 (be_length _ _) w
  have HC := Lib.hid hcv; clear hcv
  have HA := Lib.hid hadd; clear hadd
  go_enter Tryz.func97, Tryz.ntmps97
  go_wp2_with (go_at_call 112; refine (width64 _).mono ?_; rintro e w' ⟨rfl, rfl⟩)
  go_loopw [11] (fun i W => ∃ k : Nat, k ≤ 8 ∧ i = .int .i64 k ∧ W = w.alloc (.cells (part (be 8 n) k 8) 5)) (fun i _ => 8 - (intOf i).toNat)
  case atStart => exact ⟨0, by omega, rfl, rfl⟩
  case round =>
    obtain ⟨k, hk, rfl, rfl⟩ := hrel
    by_cases hlt : k < 8
    · have hat := part_at (be 8 n) k 8 (be_length _ _) hlt
      have HS := Lib.hid (part_step (be 8 n) k 8 _ (be_length _ _) hlt (be_get 8 n k hlt))
      have HB := Lib.hid (byte_of n k 8)
      go_wp2_with (go_at_call 113; refine (behind 8 k hlt (by omega) _).mono ?_; rintro e w' ⟨rfl, rfl⟩)
      refine ⟨⟨k + 1, by omega, by go_num, ?_⟩, ?_⟩
      · have hs := HS.out
        rw [← HB.out] at hs
        exact congrArg (fun x => w.alloc (.cells x 5)) hs
      · simp [intOf]; omega
    · obtain rfl : k = 8 := by omega
      have hcv := HC.out
      go_wp2_with (go_at_call 118; refine HA.out.mono ?_; rintro e w' ⟨rfl, hq⟩)
      go_end0
      exact hq
set_option maxHeartbeats 400000 in
set_option maxHeartbeats 400000 in
theorem put16_loop (n : Nat) (a : Value) (w : World) (Q : Ending → World → Prop)
    (hadd : Calls Tryz.prog 118 #[a, .string (bs (be 2 n))] (w.alloc (.cells (part (be 2 n) 2 2) 5)) fun e w' => e = .returned (.tuple #[]) ∧ Q e w') :
    Calls Tryz.prog 98 #[a, .int .u16 n] w Q := by
  have hmk : (Instr.makeSlice 72 (.int .i64 2) (.int .i64 2)).run Tryz.prog w = .ok (.slice (some ⟨w.heap.size, 0, none⟩) 2 2) (w.alloc (.cells (part (be 2 n) 0 2) 5)) := by
    rw [part_zero]; exact make_run 2 (by omega) w
  have hcv := text_run (be 2 n) 2 (be_length _ _) w
  have HC := Lib.hid hcv; clear hcv
  have HA := Lib.hid hadd; clear hadd
  go_enter Tryz.func98, Tryz.ntmps98
  go_wp2_with (go_at_call 114; refine (width16 _).mono ?_; rintro e w' ⟨rfl, rfl⟩)
  go_loopw [11] (fun i W => ∃ k : Nat, k ≤ 2 ∧ i = .int .i64 k ∧ W = w.alloc (.cells (part (be 2 n) k 2) 5)) (fun i _ => 2 - (intOf i).toNat)
  case atStart => exact ⟨0, by omega, rfl, rfl⟩
  case round =>
    obtain ⟨k, hk, rfl, rfl⟩ := hrel
    by_cases hlt : k < 2
    · have hat := part_at (be 2 n) k 2 (be_length _ _) hlt
      have HS := Lib.hid (part_step (be 2 n) k 2 _ (be_length _ _) hlt (be_get 2 n k hlt))
      have HB := Lib.hid (byte_of n k 2)
      go_wp2_with (go_at_call 113; refine (behind 2 k hlt (by omega) _).mono ?_; rintro e w' ⟨rfl, rfl⟩)
      refine ⟨⟨k + 1, by omega, by go_num, ?_⟩, ?_⟩
      · have hs := HS.out
        rw [← HB.out] at hs
        exact congrArg (fun x => w.alloc (.cells x 5)) hs
      · simp [intOf]; omega
    · obtain rfl : k = 2 := by omega
      have hcv := HC.out
      go_wp2_with (go_at_call 118; refine HA.out.mono ?_; rintro e w' ⟨rfl, hq⟩)
      go_end0
      exact hq
set_option maxHeartbeats 400000 in
theorem put32_loop (n : Nat) (a : Value) (w : World) (Q : Ending → World → Prop)
    (hadd : Calls Tryz.prog 118 #[a, .string (bs (be 4 n))] (w.alloc (.cells (part (be 4 n) 4 4) 5)) fun e w' => e = .returned (.tuple #[]) ∧ Q e w') :
    Calls Tryz.prog 119 #[a, .int .u32 n] w Q := by
  have hmk : (Instr.makeSlice 72 (.int .i64 4) (.int .i64 4)).run Tryz.prog w = .ok (.slice (some ⟨w.heap.size, 0, none⟩) 4 4) (w.alloc (.cells (part (be 4 n) 0 4) 5)) := by
    rw [part_zero]; exact make_run 4 (by omega) w
  have hcv := text_run (be 4 n) 4 (be_length _ _) w
  have HC := Lib.hid hcv; clear hcv
  have HA := Lib.hid hadd; clear hadd
  go_enter Tryz.func119, Tryz.ntmps119
  go_wp2_with (go_at_call 132; refine (width32 _).mono ?_; rintro e w' ⟨rfl, rfl⟩)
  go_loopw [11] (fun i W => ∃ k : Nat, k ≤ 4 ∧ i = .int .i64 k ∧ W = w.alloc (.cells (part (be 4 n) k 4) 5)) (fun i _ => 4 - (intOf i).toNat)
  case atStart => exact ⟨0, by omega, rfl, rfl⟩
  case round =>
    obtain ⟨k, hk, rfl, rfl⟩ := hrel
    by_cases hlt : k < 4
    · have hat := part_at (be 4 n) k 4 (be_length _ _) hlt
      have HS := Lib.hid (part_step (be 4 n) k 4 _ (be_length _ _) hlt (be_get 4 n k hlt))
      have HB := Lib.hid (byte_of n k 4)
      go_wp2_with (go_at_call 113; refine (behind 4 k hlt (by omega) _).mono ?_; rintro e w' ⟨rfl, rfl⟩)
      refine ⟨⟨k + 1, by omega, by go_num, ?_⟩, ?_⟩
      · have hs := HS.out
        rw [← HB.out] at hs
        exact congrArg (fun x => w.alloc (.cells x 5)) hs
      · simp [intOf]; omega
    · obtain rfl : k = 4 := by omega
      have hcv := HC.out
      go_wp2_with (go_at_call 118; refine HA.out.mono ?_; rintro e w' ⟨rfl, hq⟩)
      go_end0
      exact hq
end Go.Proofs.YtlidieffaaicaaaGreat
