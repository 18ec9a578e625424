/- What overNoughts gives: a contract over the translated program. Conditions: the tables as they are laid. -/
import Derived.Test.YtfjjeplcnkmjgaaDoorWalksC
import Derived.Laws.EntriesVeiled
namespace Go.Proofs.YtfjjeplcnkmjgaaDoor
open Go.ChangeShapes Go.WideShapes Go.RowKit
theorem and1 {m : Nat} (h : m < 4294967296) : bits .and .i64 (m : Int) 1 = ((m % 2 : Nat) : Int) := by
  show IntKind.i64.wrap ((BitVec.ofInt 64 (m : Int) &&& BitVec.ofInt 64 ((1 : Nat) : Int)).toNat : Int) = _
  rw [BitVec.toNat_and, ofInt_u64 m (by omega), ofInt_u64 1 (by omega), nat_mask1, IntKind.wrap_i64]
  omega
theorem Made.of_sofar {F : Nat → Nat} {w : World} {arr : Array Value} (h : Sofar F 32 arr) (n : Nat) : Made F w.heap.size ((w.alloc (.cells arr 58)).drewN n) := fun j hj => by
  rw [cell_drewN]; exact cell_new _ _ _ _ _ (h.done j hj)
theorem Made.congr {F G : Nat → Nat} (e : ∀ x, F x = G x) {b : Nat} {w : World} (h : Made F b w) : Made G b w := fun j hj => by rw [← e]; exact h j hj
theorem Mn_twice (k x : Nat) : Crc.Mn (2 ^ k) (Crc.Mn (2 ^ k) x) = Crc.Mn (2 ^ (k + 1)) x := by
  rw [← Crc.Mn_add, Nat.pow_succ, Nat.mul_two]
theorem Mn_lin (n : Nat) : Lin (Crc.Mn n) := ⟨Crc.Mn_xor n, fun _ h => Crc.Mn_lt n h⟩
theorem M_is (x : Nat) : Crc.M x = Crc.Mn (2 ^ 0) x := rfl
theorem Mn_even (k m y : Nat) (h : m % 2 = 0) : Crc.Mn (2 ^ (k + 1) * (m / 2)) y = Crc.Mn (2 ^ k * m) y := by
  congr 1
  rw [Nat.pow_succ, Nat.mul_assoc]
  congr 1
  omega
theorem Mn_odd (k m y : Nat) (h : m % 2 = 1) : Crc.Mn (2 ^ (k + 1) * (m / 2)) (Crc.Mn (2 ^ k) y) = Crc.Mn (2 ^ k * m) y := by
  rw [← Crc.Mn_add]
  congr 1
  rw [Nat.pow_succ, Nat.mul_assoc]
  conv => lhs; rhs; rw [← Nat.mul_one (2 ^ k)]
  rw [← Nat.mul_add]
  congr 1
  omega
/-- What the loop of overNoughts keeps. -/
structure Over (w0 : World) (n c : Nat) (v i s : Value) (wr : World) (k y m b : Nat) : Prop where
  hv : v = .int .u32 y
  hi : i = .int .i64 m
  hs : s = .func (.func 35) #[] #[.pointer (some ⟨b, 0, none⟩)]
  hy : y < 4294967296
  hm : m < 4294967296
  made : Made (Crc.Mn (2 ^ k)) b wr
  hb : b < wr.heap.size
  t5 : Tab5 wr
  below : Below w0.heap.size w0 wr
  sum : Crc.Mn (2 ^ k * m) y = Crc.Mn n c
def clo (b : Nat) : Value := .func (.func 35) #[] #[.pointer (some ⟨b, 0, none⟩)]
theorem bytwo_at (k b : Nat) (wr : World) (h5 : Tab5 wr) (hm : Made (Crc.Mn (2 ^ k)) b wr) (hb : b < wr.heap.size) (hB : 1 < wr.heap.size) :
    Calls Tryd.prog 27 #[.func (.func 29) #[] #[.pointer (some ⟨wr.heap.size, 0, none⟩)]] (wr.alloc (.cells #[.func (.func 35) #[] #[.pointer (some ⟨b, 0, none⟩)]] 35)) fun e w' => e = .returned (.func (.func 35) #[] #[.pointer (some ⟨wr.heap.size + 1, 0, none⟩)]) ∧
      ∃ arr n, w' = ((wr.alloc (.cells #[.func (.func 35) #[] #[.pointer (some ⟨b, 0, none⟩)]] 35)).alloc (.cells arr 58)).drewN n ∧ Sofar (fun x => Crc.Mn (2 ^ k) (Crc.Mn (2 ^ k) x)) 32 arr := by
  have e : (wr.alloc (.cells #[clo b] 35)).heap.size = wr.heap.size + 1 := by simp
  have h := bytwo (Crc.Mn (2 ^ k)) (Mn_lin _) b wr.heap.size (wr.alloc (.cells #[clo b] 35)) (h5.alloc hB _) (hm.alloc hb _) (by omega) (by omega) (by omega) (cell_new _ _ _ _ _ rfl)
  rw [e] at h
  exact h
theorem Over.next {w0 wr : World} {n c k y y' m b nd : Nat} {v i s : Value} {arr : Array Value} {f : Value} (h : Over w0 n c v i s wr k y m b) (hB : 1 < w0.heap.size) (hy : y' < 4294967296)
    (hs : Sofar (fun x => Crc.Mn (2 ^ k) (Crc.Mn (2 ^ k) x)) 32 arr) (hsum : Crc.Mn (2 ^ (k + 1) * (m / 2)) y' = Crc.Mn (2 ^ k * m) y) :
    Over w0 n c (.int .u32 y') (.int .i64 ((m : Int) / 2)) (.func (.func 35) #[] #[.pointer (some ⟨wr.heap.size + 1, 0, none⟩)]) (((wr.alloc (.cells #[f] 35)).alloc (.cells arr 58)).drewN nd) (k + 1) y' (m / 2) (wr.heap.size + 1) := by
  have hsz := h.below.size
  have e : (wr.alloc (.cells #[f] 35)).heap.size = wr.heap.size + 1 := by simp
  have hM := (Made.of_sofar (w := wr.alloc (.cells #[f] 35)) hs nd).congr (Mn_twice k)
  rw [e] at hM
  refine ⟨rfl, rfl, rfl, hy, by have := h.hm; omega, hM, ?_, ((h.t5.alloc (by omega) _).alloc (by omega) _).drewN nd, ?_, ?_⟩
  · show _ < (World.alloc _ _).heap.size
    simp
  · have b1 := (h.below.alloc hsz (.cells #[f] 35)).alloc (by omega) (.cells arr 58)
    exact ⟨b1.os, b1.tape, b1.output, b1.size, b1.block⟩
  · rw [hsum]; exact h.sum
theorem over_any (c n : Nat) (hc : c < 4294967296) (hn : n < 4294967296) (w : World) (ht : Tab4 w) (ht5 : Tab5 w) (hB : 1 < w.heap.size) :
    Calls Tryd.prog 20 #[.int .u32 c, .int .i64 n] w fun e w' => e = .returned (.int .u32 (Crc.Mn n c : Nat)) ∧ Below w.heap.size w w' := by
  have hk := hmf
  go_enter Tryd.func20, Tryd.ntmps20
  go_wp2_with (go_at_call 27; refine (byone _ ht hB).mono ?_; rintro e w' ⟨rfl, arr, rfl, hsf⟩)
  go_loopw [0, 1, 5, 6] (fun v i s _ wr => ∃ k y m b, Over w n c v i s wr k y m b) (fun _ i _ _ _ => (intOf i).toNat)
  case atStart => exact ⟨0, c, n, w.heap.size, rfl, rfl, rfl, hc, hn, ((Made.of_sofar hsf 0).congr M_is), by simp, ht5.alloc hB _, (Below.refl _ w).alloc (Nat.le_refl _) _, by rw [Nat.pow_zero, Nat.one_mul]⟩
  case round =>
    obtain ⟨k, y, m, b, hO⟩ := hrel
    obtain ⟨rfl, rfl, rfl, hy, hm, hmade, hb, h5, hbel, hsum⟩ := id hO
    have HO := Lib.hid hO; clear hO
    have hand := and1 hm
    have hsz := hbel.size
    have HB := Lib.hid hbel
    have HS := Lib.hid hsum; clear hsum hbel
    by_cases h0 : m = 0
    · subst h0
      go_wp2
      go_ret
      exact ⟨by rw [← HS.out, Nat.mul_zero]; rfl, HB.out⟩
    · have e0 : (0 : Int) < (m : Int) := by omega
      by_cases h1 : m % 2 = 1
      · have e1 : (((m % 2 : Nat) : Int) == 1) = true := by simp; omega
        have HH := Lib.hid h1; clear h1
        go_wp2_with (first | (go_at_call 35; refine (bit_any _ (Mn_lin _) b y hy _ h5 hmade).mono ?_; rintro e w' ⟨rfl, rfl⟩) | (go_at_call 27; refine (bytwo_at k b wr h5 hmade hb (by omega)).mono ?_; rintro e w' ⟨rfl, arr2, nd, rfl, hsf2⟩))
        refine ⟨⟨k + 1, _, m / 2, wr.heap.size + 1, HO.out.next hB (Crc.Mn_lt _ hy) hsf2 (Mn_odd k m y HH.out)⟩, by simp [intOf]; omega⟩
      · have e1 : (((m % 2 : Nat) : Int) == 1) = false := by simp; omega
        have HH := Lib.hid (show m % 2 = 0 by omega); clear h1
        go_wp2_with (first | (go_at_call 35; refine (bit_any _ (Mn_lin _) b y hy _ h5 hmade).mono ?_; rintro e w' ⟨rfl, rfl⟩) | (go_at_call 27; refine (bytwo_at k b wr h5 hmade hb (by omega)).mono ?_; rintro e w' ⟨rfl, arr2, nd, rfl, hsf2⟩))
        refine ⟨⟨k + 1, _, m / 2, wr.heap.size + 1, HO.out.next hB hy hsf2 (Mn_even k m y HH.out)⟩, by simp [intOf]; omega⟩
end Go.Proofs.YtfjjeplcnkmjgaaDoor
