/- The chapter's examples, walked. Conditions: the tables as they are laid. -/
import Derived.Test.YtfjjeplcnkmjgaaDoorWalksG
import Derived.Test.YtfjjeplcnkmjgaaDoorShelf
namespace Go.Proofs.YtfjjeplcnkmjgaaDoor
open Go.ChangeShapes Go.WideShapes Go.RowKit
theorem sum_later {w w' : World} (s : ByteArray) (x : Nat) (hx : Crc.upd 0 (bl s) = x) (hs : s.size ≤ maxLen) (ht : Tab4 w) (hB : 1 < w.heap.size) (b : Below w.heap.size w w') :
    Calls Tryd.prog 10 #[.string s] w' fun e w'' => e = .returned (.int .u32 x) ∧ w' = w'' := by
  rw [← hx]; exact sum_any s hs w' (ht.below hB b)
theorem upd_later {w w' : World} (c : Nat) (s : ByteArray) (x : Nat) (hx : Crc.upd c (bl s) = x) (hc : c < 4294967296) (hs : s.size ≤ maxLen) (ht : Tab4 w) (hB : 1 < w.heap.size) (b : Below w.heap.size w w') :
    Calls Tryd.prog 12 #[.int .u32 c, .string s] w' fun e w'' => e = .returned (.int .u32 x) ∧ w' = w'' := by
  rw [← hx]; exact upd_any c s hc hs w' (ht.below hB b)
theorem join_later {w w' : World} (a b : Nat) (n : Int) (x : Nat) (hx : Crc.Mn (clamp n) a ^^^ b = x) (ha : a < 4294967296) (hb : b < 4294967296) (ht : Tab4 w) (ht5 : Tab5 w) (hB : 1 < w.heap.size) (bw : Below w.heap.size w w') :
    Calls Tryd.prog 14 #[.int .u32 a, .int .u32 b, .int .i64 n] w' fun e w'' => e = .returned (.int .u32 x) ∧ Below w.heap.size w w'' := by
  rw [← hx]
  have hs := bw.size
  exact (join_any a b n ha hb w' (ht.below hB bw) (ht5.below hB bw) (by omega)).mono fun e w'' ⟨h1, h2⟩ => ⟨h1, bw.trans (h2.mono hs)⟩
def rep (b : UInt8) : ByteArray := ⟨(Lib.repeatL [b] 32).toArray⟩
theorem repeat_later {w w' : World} (b : UInt8) (bw : Below w.heap.size w w') :
    Calls Tryd.prog 16 #[.string ⟨#[b]⟩, .int .i64 32] w' fun e w'' => e = .returned (.string (rep b)) ∧ Below w.heap.size w w'' := by
  have hs := bw.size
  exact (Tryd.strings_Repeat ⟨#[b]⟩ 32 w' (by omega) (by show 1 * 32 ≤ 140737488355328; omega)).mono fun e w'' ⟨h1, h2⟩ => ⟨h1, bw.trans (h2.mono hs)⟩
theorem rep_size (b : UInt8) : (rep b).size = 32 := by
  show ((Lib.repeatL [b] 32).toArray).size = 32
  simp [Lib.repeatL]
theorem k1 : Crc.upd 0 (bl ⟨#[49, 50, 51, 52]⟩) = 4131058926 := by decide +kernel
theorem k2 : Crc.upd 0 (bl ⟨#[53, 54, 55, 56, 57]⟩) = 2209703384 := by decide +kernel
theorem k3 : Crc.upd 0 (bl (rep 0)) = 2324772522 := by decide +kernel
theorem k4 : Crc.upd 0 (bl (rep 255)) = 1655221059 := by decide +kernel
theorem k5 : Crc.upd 4131058926 (bl ⟨#[53, 54, 55, 56, 57]⟩) = 3808858755 := by decide +kernel
theorem k6 : Crc.Mn (clamp 5) 4131058926 ^^^ 2209703384 = 3808858755 := by decide +kernel
theorem k7 : Crc.Mn (clamp 0) 7 ^^^ 9 = 14 := by decide +kernel
theorem crcKnown_walk (w : World) (ht : Tab4 w) (ht5 : Tab5 w) (hB : 1 < w.heap.size) :
    Calls Tryd.prog 8 #[] w fun e w' => e = .returned (.bool true) ∧ Below w.heap.size w w' := by
  have b0 := Below.refl w.heap.size w
  have r0 : (rep 0).size ≤ maxLen := by rw [rep_size]; decide
  have r1 : (rep 255).size ≤ maxLen := by rw [rep_size]; decide
  go_enter Tryd.func8, Tryd.ntmps8
  go_wp2_with fail
  refine (sum_later ⟨#[49, 50, 51, 52]⟩ _ k1 (by decide) ht hB b0).mono ?_; rintro e w' ⟨rfl, rfl⟩
  go_wp2_with fail
  refine (sum_later ⟨#[53, 54, 55, 56, 57]⟩ _ k2 (by decide) ht hB b0).mono ?_; rintro e w' ⟨rfl, rfl⟩
  go_wp2_with fail
  refine (works_later ht ht5 hB b0).mono ?_; rintro e w1 ⟨rfl, b1⟩
  go_wp2_with fail
  refine (repeat_later 0 b1).mono ?_; rintro e w2 ⟨rfl, b2⟩
  go_wp2_with fail
  refine (sum_later (rep 0) _ k3 r0 ht hB b2).mono ?_; rintro e w' ⟨rfl, rfl⟩
  go_wp2_with fail
  refine (repeat_later 255 b2).mono ?_; rintro e w3 ⟨rfl, b3⟩
  go_wp2_with fail
  refine (sum_later (rep 255) _ k4 r1 ht hB b3).mono ?_; rintro e w' ⟨rfl, rfl⟩
  go_wp2_with fail
  refine (upd_later 4131058926 ⟨#[53, 54, 55, 56, 57]⟩ _ k5 (by decide) (by decide) ht hB b3).mono ?_; rintro e w' ⟨rfl, rfl⟩
  go_wp2_with fail
  refine (join_later 4131058926 2209703384 5 _ k6 (by decide) (by decide) ht ht5 hB b3).mono ?_; rintro e w4 ⟨rfl, b4⟩
  go_wp2_with fail
  refine (join_later 7 9 0 _ k7 (by decide) (by decide) ht ht5 hB b4).mono ?_; rintro e w5 ⟨rfl, b5⟩
  go_wp2_with fail
  refine (works_later ht ht5 hB b5).mono ?_; rintro e w6 ⟨rfl, b6⟩
  go_wp2_with fail
  go_ret
  exact ⟨rfl, b6⟩
end Go.Proofs.YtfjjeplcnkmjgaaDoor
