/- The document's numbers as bytes. Conditions: lengths below 2^40. -/
import Derived.Test.YtoeaclfbmppnmaaCodF
namespace Go.Proofs.Ytoeaclfbmppnmaa
open Go.ChangeShapes Go.WideShapes Go.RowKit Go.Codec
set_option maxRecDepth 100000
theorem tailRow_at (k : Nat) (m : List UInt8) : (tailRow (k + 1) m)[k]? = some (.int .u8 0) := by
  simp only [tailRow, List.getElem?_toArray]
  rw [List.getElem?_append_left (by simp)]
  simp
theorem tailRow_put (k : Nat) (m : List UInt8) (b : UInt8) : (tailRow (k + 1) m).setIfInBounds k (.int .u8 b.toNat) = tailRow k (b :: m) := by
  apply Array.ext'
  simp only [tailRow, Array.toList_setIfInBounds]
  have e : List.replicate (k + 1) (Value.int .u8 0) = List.replicate k (Value.int .u8 0) ++ [Value.int .u8 0] := List.replicate_succ'
  rw [e, List.append_assoc, List.set_append, if_neg (by simp), List.length_replicate, Nat.sub_self]
  simp [Lib.byteCells]
set_option maxHeartbeats 1000000 in
theorem rnumber_any (n width : Nat) (hn : n < 18446744073709551616) (hw : width ≤ 8) (w : World) :
    Calls Try.prog 32 #[.int .u64 n, .int .i64 width] w fun e w' => e = .returned (.string (bs (be width n))) ∧ Below w.heap.size w w' := by
  have hmk : (Instr.makeSlice 69 (.int .i64 width) (.int .i64 width)).run Try.prog w = .ok (.slice (some ⟨w.heap.size, 0, none⟩) width width) (w.alloc (.cells (tailRow width []) 5)) := by
    rw [← made_tail]; exact make_run width (by omega) w
  go_enter Try.func32, Try.ntmps32
  go_wp2
  clear hmk
  go_loopw [0, 6] (fun v i W => ∃ k j : Nat, k + j = width ∧ i = .int .i64 ((k : Int) - 1) ∧ v = .int .u64 ((n / 256 ^ j : Nat) : Int) ∧ W = w.alloc (.cells (tailRow k (be j n)) 5)) (fun _ i _ => (intOf i + 1).toNat)
  case atStart => exact ⟨width, 0, by omega, rfl, by simp, rfl⟩
  case round =>
    obtain ⟨k, j, hkj, rfl, rfl, rfl⟩ := hrel
    have HK := Lib.hid hkj; clear hkj
    cases k with
    | zero =>
      have hj : j = width := by have := HK.out; omega
      subst hj
      have ht := tail_text (be j n) j (be_length _ _).symm w 0
      rw [World.drewN_zero] at ht
      go_wp2
      go_ret
      exact ⟨rfl, (Below.refl _ w).alloc (Nat.le_refl _) _⟩
    | succ k =>
      have hk8 : k < width := by have := HK.out; omega
      have hq : n / 256 ^ j < 18446744073709551616 := Nat.lt_of_le_of_lt (Nat.div_le_self _ _) hn
      have hat := tailRow_at k (be j n)
      have HB := Lib.hid (show be (j + 1) n = UInt8.ofNat (n / 256 ^ j) :: be j n from rfl)
      have HD := Lib.hid (show n / 256 ^ j / 256 = n / 256 ^ (j + 1) by rw [Nat.div_div_eq_div_mul, Nat.pow_succ])
      have HP := Lib.hid (tailRow_put k (be j n) (UInt8.ofNat (n / 256 ^ j)))
      generalize n / 256 ^ j = q at *
      have e0 : ((k + 1 : Nat) : Int) - 1 = (k : Int) := by omega
      rw [e0]
      go_wp2
      refine ⟨⟨k, j + 1, by have := HK.out; omega, rfl, ?_, ?_⟩, by simp [intOf]⟩
      · rw [← HD.out]; simp
      · have e1 : (((UInt8.ofNat q).toNat : Nat) : Int) = (q : Int) % 256 := by simp
        have hp := HP.out
        rw [e1] at hp
        rw [HB.out, hp]
end Go.Proofs.Ytoeaclfbmppnmaa
