/- What counting noughts at the end gives, and the closures that go over noughts: contracts over the translated program. Conditions: numbers of 32 bits; the tables as they are laid. -/
import Derived.Test.YtfjjeplcnkmjgaaDoorWalksA
import Derived.Deep.RegionWith
import Derived.BigQuiet
namespace Go.Proofs.YtfjjeplcnkmjgaaDoor
open Go.ChangeShapes Go.WideShapes Go.RowKit
def Tab5 (w : World) : Prop := ∀ k : Nat, k < 32 → w.cell? ⟨1, k, none⟩ = some (.int .u8 (Lib.deBruijn32tab.getD k 0 : Nat))
theorem tz_core (x p k idx : Nat) (w : World) (hx0 : ((x : Int) == 0) = false)
    (h1 : bits BinOp.and IntKind.u32 (x : Int) (-(x : Int) % 4294967296) = (p : Int)) (h2 : ((p : Int) * 125613361) % 4294967296 / 134217728 = (idx : Int))
    (hi : idx < 32) (hk : k < 32) (hcell : w.cell? ⟨1, idx, none⟩ = some (.int .u8 k)) :
    Calls Tryd.prog 36 #[.int .u32 x] w fun e w' => e = .returned (.int .i64 k) ∧ w = w' := by
  go_enter Tryd.func36, Tryd.ntmps36
  go_wp2
  go_ret
  exact ⟨rfl, rfl⟩
theorem tz_any (x : Nat) (h0 : x ≠ 0) (hx : x < 4294967296) (w : World) (ht : Tab5 w) :
    Calls Tryd.prog 36 #[.int .u32 x] w fun e w' => e = .returned (.int .i64 (Lib.ctz 32 x : Nat)) ∧ w = w' := by
  obtain ⟨hlow, hk⟩ := Lib.lowest_bit 32 x h0 hx
  obtain ⟨hi, htab⟩ := Lib.deBruijn32_at _ hk
  have hc := ht _ hi
  rw [htab] at hc
  refine tz_core x (2 ^ Lib.ctz 32 x) _ _ w (by simp; omega) ?_ ?_ hi hk hc
  · have e1 : -(x : Int) % 4294967296 = ((4294967296 - x : Nat) : Int) := by omega
    rw [e1, u32_and_nat x _ hx (by omega)]
    exact congrArg _ hlow
  · rfl
/-- What a closure of bitByBit holds: of each single bit, what a linear function makes of it. -/
def Made (F : Nat → Nat) (b : Nat) (w : World) : Prop := ∀ k : Nat, k < 32 → w.cell? ⟨b, k, none⟩ = some (.int .u32 (F (2 ^ k) : Nat))
structure Lin (F : Nat → Nat) : Prop where
  xor : ∀ a b, F (a ^^^ b) = F a ^^^ F b
  lt : ∀ a, a < 4294967296 → F a < 4294967296
theorem Lin.zero {F : Nat → Nat} (h : Lin F) : F 0 = 0 := by
  have := h.xor 0 0
  rw [Nat.xor_self] at this
  rw [this, Nat.xor_self]
theorem bit_any (F : Nat → Nat) (hF : Lin F) (b c : Nat) (hc : c < 4294967296) (w : World) (ht : Tab5 w) (hm : Made F b w) :
    Calls Tryd.prog 35 #[.int .u32 c, .pointer (some ⟨b, 0, none⟩)] w fun e w' => e = .returned (.int .u32 (F c : Nat)) ∧ w = w' := by
  go_enter Tryd.func35, Tryd.ntmps35
  go_wp2
  go_loop [0, 4] (fun v o => ∃ y z : Nat, v = .int .u32 y ∧ o = .int .u32 z ∧ y < 4294967296 ∧ z < 4294967296 ∧ z ^^^ F y = F c) (fun v _ => (intOf v).toNat)
  case atStart => exact ⟨c, 0, rfl, rfl, hc, by omega, by rw [Nat.zero_xor]⟩
  case round =>
    obtain ⟨y, z, rfl, rfl, hy, hz, hL⟩ := hrel
    have HL := Lib.hid hL; clear hL
    by_cases h0 : y = 0
    · subst h0
      go_wp2
      go_ret
      exact ⟨by rw [← HL.out, hF.zero, Nat.xor_zero]; rfl, rfl⟩
    · have e0 : ((y : Int) != 0) = true := by simp; omega
      obtain ⟨hlow, hk⟩ := Crc.low_out h0 hy
      have hless := Crc.low_less h0
      have hcell := hm _ hk
      have hFk := hF.lt (2 ^ Lib.ctz 32 y) (by have : (2 : Nat) ^ Lib.ctz 32 y < 2 ^ 32 := Nat.pow_lt_pow_right (by decide) hk; omega)
      have e1 := u32_xor_nat z (F (2 ^ Lib.ctz 32 y)) hz hFk
      have e2 : bits .and .u32 (y : Int) ((y : Int) - 1) = ((y &&& (y - 1) : Nat) : Int) := by
        rw [show (y : Int) - 1 = ((y - 1 : Nat) : Int) by omega]
        exact u32_and_nat y (y - 1) hy (by omega)
      have HH := Lib.hid (And.intro hlow (And.intro hless hFk)); clear hlow hless hFk
      go_wp2_with (go_at_call 36; refine (tz_any y h0 hy _ ht).mono ?_; rintro e w' ⟨rfl, rfl⟩)
      obtain ⟨hlow, hless, hFk⟩ := HH.out
      refine ⟨⟨y &&& (y - 1), z ^^^ F (2 ^ Lib.ctz 32 y), rfl, rfl, by omega, Crc.xor_lt32 hz hFk, ?_⟩, by simp [intOf]; omega⟩
      rw [hlow, hF.xor, Crc.xor4, Nat.xor_self, Nat.xor_zero]
      exact HL.out
/-- What is called as a stride: calls with any number give F of it, and turn nothing. -/
def Strides (v : Value) (F : Nat → Nat) (w : World) : Prop := ∃ b, v = .func (.func 35) #[] #[.pointer (some ⟨b, 0, none⟩)] ∧ Made F b w ∧ b < w.heap.size
theorem one_any (c : Nat) (hc : c < 4294967296) (w : World) (ht : Tab4 w) :
    Calls Tryd.prog 28 #[.int .u32 c] w fun e w' => e = .returned (.int .u32 (Crc.M c : Nat)) ∧ w = w' := by
  go_enter Tryd.func28, Tryd.ntmps28
  go_wp2_with (go_at_call 17; refine (step_any c 0 hc (by omega) _ ht).mono ?_; rintro e w' ⟨rfl, rfl⟩)
  go_ret
  exact ⟨by unfold Crc.step; rw [Nat.xor_zero]; rfl, rfl⟩
theorem cell_drewN (w : World) (n : Nat) (a : Addr) : (w.drewN n).cell? a = w.cell? a := by simp
theorem Tab4.drewN {w : World} (h : Tab4 w) (n : Nat) : Tab4 (w.drewN n) := fun k hk => by rw [cell_drewN]; exact h k hk
theorem Tab5.drewN {w : World} (h : Tab5 w) (n : Nat) : Tab5 (w.drewN n) := fun k hk => by rw [cell_drewN]; exact h k hk
theorem Made.drewN {F : Nat → Nat} {b : Nat} {w : World} (h : Made F b w) (n : Nat) : Made F b (w.drewN n) := fun k hk => by rw [cell_drewN]; exact h k hk
theorem bit_quiet (F : Nat → Nat) (hF : Lin F) (b c : Nat) (hc : c < 4294967296) (w : World) (ht : Tab5 w) (hm : Made F b w) (n : Nat) :
    Calls Tryd.prog 35 #[.int .u32 c, .pointer (some ⟨b, 0, none⟩)] (w.drewN n) fun e w' => e = .returned (.int .u32 (F c : Nat)) ∧ ∃ m, w' = w.drewN m :=
  Calls.quiet_of_same ((bit_any F hF b c hc _ (ht.drewN n) (hm.drewN n)).mono fun _ _ ⟨h1, h2⟩ => ⟨h1, h2.symm⟩)
theorem two_any (F : Nat → Nat) (hF : Lin F) (b o c : Nat) (hc : c < 4294967296) (w : World) (ht : Tab5 w) (hm : Made F b w) (ho : w.cell? ⟨o, 0, none⟩ = some (.func (.func 35) #[] #[.pointer (some ⟨b, 0, none⟩)])) :
    Calls Tryd.prog 29 #[.int .u32 c, .pointer (some ⟨o, 0, none⟩)] w fun e w' => e = .returned (.int .u32 (F (F c) : Nat)) ∧ ∃ n, w' = w.drewN n := by
  have hc2 := hF.lt c hc
  go_enter Tryd.func29, Tryd.ntmps29
  go_wp2
  go_quiet ((refine bit_quiet F hF b _ ?_ w ht hm _; assumption))
  go_wp2
  go_ret
  exact ⟨rfl, _, rfl⟩
end Go.Proofs.YtfjjeplcnkmjgaaDoor
