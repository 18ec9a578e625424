/- The document's writer. Conditions: lengths below 2^40. -/
import Derived.Test.YthledgkjfjdjoaaGreatCodF
namespace Go.Proofs.YthledgkjfjdjoaaGreat
open Go.ChangeShapes Go.WideShapes Go.RowKit Go.Codec
set_option maxRecDepth 100000
theorem tailRow_at (k : Nat) (m : List UInt8) : (tailRow (k + 1) m)[k]? = some (.int .u8 0) := by
  simp only [tailRow, List.getElem?_toArray]
  rw [List.getElem?_append_left (by simp)]
  simp
theorem tailRow_put (k : Nat) (m : List UInt8) (b : UInt8) : (tailRow (k + 1) m).setIfInBounds k (.int .u8 b.toNat) = tailRow k (b :: m) := by
  apply Array.ext'
  simp only [tailRow, Array.toList_setIfInBounds]
  have e : List.replicate (k + 1) (Value.int .u8 0) = List.replicate k (Value.int .u8 0) ++ [Value.int .u8 0] := List.replicate_succ'
  rw [e, List.append_assoc, List.set_append, if_neg (by simp), List.length_replicate, Nat.sub_self]
  simp [Lib.byteCells]
set_option maxHeartbeats 1000000 in
theorem rnumber_any (n width : Nat) (hn : n < 18446744073709551616) (hw : width ≤ 8) (w : World) :
    Calls Tryz.prog 69 #[.int .u64 n, .int .i64 width] w fun e w' => e = .returned (.string (bs (be width n))) ∧ Below w.heap.size w w' := by
  have hmk : (Instr.makeSlice 66 (.int .i64 width) (.int .i64 width)).run Tryz.prog w = .ok (.slice (some ⟨w.heap.size, 0, none⟩) width width) (w.alloc (.cells (tailRow width []) 5)) := by
    rw [← made_tail]; exact make_run width (by omega) w
  go_enter Tryz.func69, Tryz.ntmps69
  go_wp2
  clear hmk
  go_loopw [0, 6] (fun v i W => ∃ k j : Nat, k + j = width ∧ i = .int .i64 ((k : Int) - 1) ∧ v = .int .u64 ((n / 256 ^ j : Nat) : Int) ∧ W = w.alloc (.cells (tailRow k (be j n)) 5)) (fun _ i _ => (intOf i + 1).toNat)
  case atStart => exact ⟨width, 0, by omega, rfl, by simp, rfl⟩
  case round =>
    obtain ⟨k, j, hkj, rfl, rfl, rfl⟩ := hrel
    have HK := Lib.hid hkj; clear hkj
    cases k with
    | zero =>
      have hj : j = width := by have := HK.out; omega
      subst hj
      have ht := tail_text (be j n) j (be_length _ _).symm w 0
      rw [World.drewN_zero] at ht
      go_wp2
      go_ret
      exact ⟨rfl, (Below.refl _ w).alloc (Nat.le_refl _) _⟩
    | succ k =>
      have hk8 : k < width := by have := HK.out; omega
      have hq : n / 256 ^ j < 18446744073709551616 := Nat.lt_of_le_of_lt (Nat.div_le_self _ _) hn
      have hat := tailRow_at k (be j n)
      have HB := Lib.hid (show be (j + 1) n = UInt8.ofNat (n / 256 ^ j) :: be j n from rfl)
      have HD := Lib.hid (show n / 256 ^ j / 256 = n / 256 ^ (j + 1) by rw [Nat.div_div_eq_div_mul, Nat.pow_succ])
      have HP := Lib.hid (tailRow_put k (be j n) (UInt8.ofNat (n / 256 ^ j)))
      generalize n / 256 ^ j = q at *
      have e0 : ((k + 1 : Nat) : Int) - 1 = (k : Int) := by omega
      rw [e0]
      go_wp2
      refine ⟨⟨k, j + 1, by have := HK.out; omega, rfl, ?_, ?_⟩, by simp [intOf]⟩
      · rw [← HD.out]; simp
      · have e1 : (((UInt8.ofNat q).toNat : Nat) : Int) = (q : Int) % 256 := by simp
        have hp := HP.out
        rw [e1] at hp
        rw [HB.out, hp]
/-- The document's writer: what it holds. -/
def RW (w : World) (a : Nat) : Option (List UInt8) → Prop
  | some l => Is w a 32 #[.string (bs l), .bool false]
  | none => ∃ l, Is w a 32 #[.string (bs l), .bool true]
theorem RW.is {w : World} {a : Nat} {st : Option (List UInt8)} (h : RW w a st) : ∃ cs, Is w a 32 cs := by
  cases st with
  | none => obtain ⟨l, h⟩ := h; exact ⟨_, h⟩
  | some l => exact ⟨_, h⟩
theorem RW.lt {w : World} {a : Nat} {st : Option (List UInt8)} (h : RW w a st) : a < w.heap.size := by
  obtain ⟨_, h⟩ := h.is
  exact h.lt
theorem RW.kept {w w' : World} {a : Nat} {st : Option (List UInt8)} {row : Option Nat} (h : RW w a st) (hb : w.grownBy w' row) (hr : some a ≠ row) : RW w' a st := by
  cases st with
  | none => obtain ⟨l, h⟩ := h; exact ⟨l, h.kept hb hr⟩
  | some l => exact Is.kept h hb hr
theorem RW.below {w w' : World} {a : Nat} {st : Option (List UInt8)} (h : RW w a st) (hb : Below w.heap.size w w') : RW w' a st := h.kept (grow_below hb none) (by simp)
def RWrote (a : Nat) (st' : Option (List UInt8)) (w : World) (e : Ending) (w' : World) : Prop := e = .returned (.tuple #[]) ∧ RW w' a st' ∧ w.grownBy w' (some a)
theorem rtextof_long (s : ByteArray) (hs : 65535 < s.size) (hm : s.size ≤ 1099511627776) (w : World) : Calls Tryz.prog 39 #[.string s] w fun e w' => e = .returned (.tuple #[.string ⟨#[]⟩, .bool false]) ∧ w = w' := by
  go_enter Tryz.func39, Tryz.ntmps39
  go_wp2
  go_ret2
  exact ⟨rfl, rfl⟩
theorem rtextof_short (s : ByteArray) (hs : s.size ≤ 65535) (w : World) : Calls Tryz.prog 39 #[.string s] w fun e w' => e = .returned (.tuple #[.string (bs (be 2 s.size ++ s.data.toList)), .bool true]) ∧ Below w.heap.size w w' := by
  have H1 := Lib.hid (rnumber_any s.size 2 (by omega) (by omega) w)
  have hl : (bs (be 2 s.size)).size = 2 := by rw [bs_size, be_length]
  have hl' : (bs (be 2 s.size)).size ≤ 2 := by omega
  have HA := Lib.hid (bs_append (be 2 s.size) s.data.toList)
  clear hl
  go_enter Tryz.func39, Tryz.ntmps39
  go_wp2_with (go_at_call 69; refine H1.out.mono ?_; rintro e w' ⟨rfl, h1⟩; have HB := Lib.hid h1; clear h1)
  go_ret2
  refine ⟨?_, HB.out⟩
  have := HA.out
  rw [list_bs] at this
  rw [← this]
  rfl
end Go.Proofs.YthledgkjfjdjoaaGreat
