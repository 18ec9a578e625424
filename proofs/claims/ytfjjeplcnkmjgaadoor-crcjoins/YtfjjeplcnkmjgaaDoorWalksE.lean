/- What joining gives, and that the chapter's answers hold (works): contracts over the translated program. Conditions: numbers of 32 bits; the tables as they are laid. -/
import Derived.Test.YtfjjeplcnkmjgaaDoorWalksD
namespace Go.Proofs.YtfjjeplcnkmjgaaDoor
open Go.ChangeShapes Go.WideShapes Go.RowKit
def clamp (n : Int) : Nat := if n < 0 then 0 else if 65535 < n then 65535 else n.toNat
theorem clamp_le (n : Int) : clamp n ≤ 65535 := by unfold clamp; split; · omega
                                                   · split <;> omega
theorem join_core (a b m cl r : Nat) (n : Int) (ha : a < 4294967296) (w : World) (ht : Tab4 w) (ht5 : Tab5 w) (hB : 1 < w.heap.size)
    (h1 : (if n < 0 then 0 else n) = (m : Int)) (h2 : (if 65535 < (m : Int) then 65535 else (m : Int)) = (cl : Int)) (hcl : cl < 4294967296) (hx : bits .xor .u32 (Crc.Mn cl a : Nat) (b : Int) = (r : Int)) :
    Calls Tryd.prog 14 #[.int .u32 a, .int .u32 b, .int .i64 n] w fun e w' => e = .returned (.int .u32 r) ∧ Below w.heap.size w w' := by
  go_enter Tryd.func14, Tryd.ntmps14
  go_wp2_with (go_at_call 20; refine (over_any a cl ha hcl _ ht ht5 hB).mono ?_; rintro e w' ⟨rfl, hbel⟩)
  go_ret
  exact ⟨rfl, hbel⟩
theorem join_any (a b : Nat) (n : Int) (ha : a < 4294967296) (hb : b < 4294967296) (w : World) (ht : Tab4 w) (ht5 : Tab5 w) (hB : 1 < w.heap.size) :
    Calls Tryd.prog 14 #[.int .u32 a, .int .u32 b, .int .i64 n] w fun e w' => e = .returned (.int .u32 (Crc.Mn (clamp n) a ^^^ b : Nat)) ∧ Below w.heap.size w w' := by
  have hcl := clamp_le n
  refine join_core a b n.toNat (clamp n) _ n ha w ht ht5 hB (by split <;> omega) ?_ (by omega) (u32_xor_nat (Crc.Mn (clamp n) a) b (Crc.Mn_lt _ ha) hb)
  unfold clamp
  by_cases h1 : n < 0
  · rw [if_pos h1, if_neg (by omega)]; omega
  · rw [if_neg h1]
    by_cases h2 : 65535 < n
    · rw [if_pos h2, if_pos (by omega)]; rfl
    · rw [if_neg h2, if_neg (by omega)]
theorem known1 : Crc.upd 0 (bl ⟨#[]⟩) = 0 := by decide +kernel
theorem known2 : Crc.upd 0 (bl ⟨#[97]⟩) = 3251651376 := by decide +kernel
theorem known3 : Crc.upd 0 (bl ⟨#[49, 50, 51, 52, 53, 54, 55, 56, 57]⟩) = 3808858755 := by decide +kernel
theorem known4 : Crc.Mn (clamp (-1)) 7 ^^^ 9 = 14 := by decide +kernel
theorem works_any (w : World) (ht : Tab4 w) (ht5 : Tab5 w) (hB : 1 < w.heap.size) :
    Calls Tryd.prog 9 #[] w fun e w' => e = .returned (.bool true) ∧ Below w.heap.size w w' := by
  have s1 := sum_any ⟨#[]⟩ (by decide) w ht
  have s2 := sum_any ⟨#[97]⟩ (by decide) w ht
  have s3 := sum_any ⟨#[49, 50, 51, 52, 53, 54, 55, 56, 57]⟩ (by decide) w ht
  have s4 := join_any 7 9 (-1) (by decide) (by decide) w ht ht5 hB
  rw [known1] at s1; rw [known2] at s2; rw [known3] at s3; rw [known4] at s4
  have S1 := Lib.hid s1; have S2 := Lib.hid s2; have S3 := Lib.hid s3; have S4 := Lib.hid s4; clear s1 s2 s3 s4
  go_enter Tryd.func9, Tryd.ntmps9
  go_wp2_with (first | (go_at_call_of 10 (Value.string ⟨#[]⟩); refine S1.out.mono ?_; rintro e w' ⟨rfl, rfl⟩) | (go_at_call_of 10 (Value.string ⟨#[97]⟩); refine S2.out.mono ?_; rintro e w' ⟨rfl, rfl⟩) | (go_at_call_of 10 (Value.string ⟨#[49, 50, 51, 52, 53, 54, 55, 56, 57]⟩); refine S3.out.mono ?_; rintro e w' ⟨rfl, rfl⟩) | (go_at_call 14; refine S4.out.mono ?_; rintro e w' ⟨rfl, hbel⟩))
  go_ret
  exact ⟨rfl, hbel⟩
end Go.Proofs.YtfjjeplcnkmjgaaDoor
