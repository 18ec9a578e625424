/- What bitByBit makes of a stride: contracts over the translated program. Conditions: the tables as they are laid; the stride linear. -/
import Derived.Test.YtfjjeplcnkmjgaaDoorWalksB
namespace Go.Proofs.YtfjjeplcnkmjgaaDoor
open Go.ChangeShapes Go.WideShapes Go.RowKit
theorem hmf (fn : Fn) (first cap : Array Value) (w : World) : (Instr.makeFunc fn first cap).run Tryd.prog w = .ok (.func fn first cap) w := rfl
/-- What has been made so far. -/
structure Sofar (F : Nat → Nat) (k : Nat) (arr : Array Value) : Prop where
  size : arr.size = 32
  ints : ∀ j, j < 32 → ∃ n : Int, arr[j]? = some (.int .u32 n)
  done : ∀ j, j < k → arr[j]? = some (.int .u32 (F (2 ^ j) : Nat))
theorem Sofar.zero (F : Nat → Nat) : Sofar F 0 (Array.replicate 32 (.int .u32 0)) := ⟨by simp, fun j hj => ⟨0, by simp [hj]⟩, fun j hj => by omega⟩
theorem Sofar.next {F : Nat → Nat} {k : Nat} {arr : Array Value} (h : Sofar F k arr) (hk : k < 32) : Sofar F (k + 1) (arr.setIfInBounds k (.int .u32 (F (2 ^ k) : Nat))) := by
  refine ⟨by simp [h.size], fun j hj => ?_, fun j hj => ?_⟩
  · rw [Array.getElem?_setIfInBounds]
    split
    · exact ⟨(F (2 ^ k) : Nat), by simp [h.size]; omega⟩
    · exact h.ints j hj
  · rw [Array.getElem?_setIfInBounds]
    split
    · rename_i e; subst e; simp [h.size, hk]
    · exact h.done j (by omega)
theorem cell_new (w : World) (arr : Array Value) (t : TypeId) (j : Nat) (v : Value) (h : arr[j]? = some v) : (w.alloc (.cells arr t)).cell? ⟨w.heap.size, j, none⟩ = some v := by
  simp [h]
theorem pow_mod {k : Nat} (h : k < 32) : (2 : Int) ^ k % 4294967296 = ((2 ^ k : Nat) : Int) ∧ 2 ^ k < 4294967296 := by
  have h1 : (2 : Nat) ^ k < 2 ^ 32 := Nat.pow_lt_pow_right (by decide) h
  have e : (2 : Int) ^ k = ((2 ^ k : Nat) : Int) := by simp
  rw [e]
  generalize 2 ^ k = p at *
  omega
theorem Tab4.alloc {w : World} (h : Tab4 w) (hB : 1 < w.heap.size) (o : Obj) : Tab4 (w.alloc o) := fun j hj => by rw [World.cell?_alloc_past _ _ _ (show 0 < w.heap.size by omega)]; exact h j hj
theorem Tab5.alloc {w : World} (h : Tab5 w) (hB : 1 < w.heap.size) (o : Obj) : Tab5 (w.alloc o) := fun j hj => by rw [World.cell?_alloc_past _ _ _ (show 1 < w.heap.size by omega)]; exact h j hj
theorem byone (w : World) (ht : Tab4 w) (hB : 1 < w.heap.size) :
    Calls Tryd.prog 27 #[.func (.func 28) #[] #[]] w fun e w' => e = .returned (.func (.func 35) #[] #[.pointer (some ⟨w.heap.size, 0, none⟩)]) ∧ ∃ arr, w' = w.alloc (.cells arr 58) ∧ Sofar Crc.M 32 arr := by
  have hk := hmf
  go_enter Tryd.func27, Tryd.ntmps27
  go_wp2
  go_loopw [4, 5] (fun _ i wr => ∃ k : Nat, ∃ arr : Array Value, k ≤ 32 ∧ i = .int .i64 k ∧ wr = w.alloc (.cells arr 58) ∧ Sofar Crc.M k arr) (fun _ i _ => 32 - (intOf i).toNat)
  case atStart => exact ⟨0, _, by omega, rfl, rfl, Sofar.zero _⟩
  case round =>
    obtain ⟨k, arr, hk, rfl, rfl, hs⟩ := hrel
    have ht' : Tab4 (w.alloc (.cells arr 58)) := ht.alloc hB _
    by_cases hlt : k < 32
    · obtain ⟨n, hn⟩ := hs.ints k hlt
      have hn' := cell_new w arr 58 k _ hn
      obtain ⟨hp, hp32⟩ := pow_mod hlt
      obtain ⟨p, ep⟩ : ∃ p, p = 2 ^ k := ⟨_, rfl⟩
      rw [← ep] at hp hp32
      have HP := Lib.hid ep; clear ep
      have HS := Lib.hid hs; clear hs hn
      go_wp2_with (go_at_call 28; refine (one_any _ hp32 _ ht').mono ?_; rintro e w' ⟨rfl, rfl⟩)
      have hn2 := HS.out.next hlt
      rw [← HP.out] at hn2
      exact ⟨⟨k + 1, _, by omega, rfl, rfl, hn2⟩, by simp [intOf]; omega⟩
    · have e : k = 32 := by omega
      subst e
      go_wp2
      go_ret
      exact ⟨rfl, _, rfl, hs⟩
theorem Made.alloc {F : Nat → Nat} {b : Nat} {w : World} (h : Made F b w) (hB : b < w.heap.size) (o : Obj) : Made F b (w.alloc o) := fun j hj => by rw [World.cell?_alloc_past _ _ _ (show b < w.heap.size by omega)]; exact h j hj
theorem Lin.twice {F : Nat → Nat} (h : Lin F) : Lin (fun x => F (F x)) := ⟨fun a b => by rw [h.xor, h.xor], fun a ha => h.lt _ (h.lt _ ha)⟩
theorem setCell_new (w : World) (arr : Array Value) (t : TypeId) (k n : Nat) (v : Value) : ((w.alloc (.cells arr t)).drewN n).setCell ⟨w.heap.size, k, none⟩ v = (w.alloc (.cells (arr.setIfInBounds k v) t)).drewN n := by
  rw [← World.setCell_alloc_at _ _ _ _ _ rfl]
  rfl
theorem bytwo (F : Nat → Nat) (hF : Lin F) (b o : Nat) (w : World) (ht : Tab5 w) (hm : Made F b w) (hb : b < w.heap.size) (ho : o < w.heap.size) (hB : 1 < w.heap.size)
    (hoc : w.cell? ⟨o, 0, none⟩ = some (.func (.func 35) #[] #[.pointer (some ⟨b, 0, none⟩)])) :
    Calls Tryd.prog 27 #[.func (.func 29) #[] #[.pointer (some ⟨o, 0, none⟩)]] w fun e w' => e = .returned (.func (.func 35) #[] #[.pointer (some ⟨w.heap.size, 0, none⟩)]) ∧ ∃ arr n, w' = (w.alloc (.cells arr 58)).drewN n ∧ Sofar (fun x => F (F x)) 32 arr := by
  have hk := hmf
  go_enter Tryd.func27, Tryd.ntmps27
  go_wp2
  go_loopw [4, 5] (fun _ i wr => ∃ k : Nat, ∃ arr : Array Value, ∃ n : Nat, k ≤ 32 ∧ i = .int .i64 k ∧ wr = (w.alloc (.cells arr 58)).drewN n ∧ Sofar (fun x => F (F x)) k arr) (fun _ i _ => 32 - (intOf i).toNat)
  case atStart => exact ⟨0, _, 0, by omega, rfl, rfl, Sofar.zero _⟩
  case round =>
    obtain ⟨k, arr, nd, hk, rfl, rfl, hs⟩ := hrel
    have ht' : Tab5 ((w.alloc (.cells arr 58)).drewN nd) := (ht.alloc hB _).drewN nd
    have hm' : Made F b ((w.alloc (.cells arr 58)).drewN nd) := (hm.alloc hb _).drewN nd
    have ho' : ((w.alloc (.cells arr 58)).drewN nd).cell? ⟨o, 0, none⟩ = some (.func (.func 35) #[] #[.pointer (some ⟨b, 0, none⟩)]) := by rw [cell_drewN, World.cell?_alloc_past _ _ _ (show o < w.heap.size by omega)]; exact hoc
    by_cases hlt : k < 32
    · obtain ⟨n, hn⟩ := hs.ints k hlt
      have hn' := cell_new w arr 58 k _ hn
      obtain ⟨hp, hp32⟩ := pow_mod hlt
      obtain ⟨p, ep⟩ : ∃ p, p = 2 ^ k := ⟨_, rfl⟩
      rw [← ep] at hp hp32
      have HP := Lib.hid ep; clear ep
      have HS := Lib.hid hs; clear hs hn
      have HT := Lib.hid ht'; have HM := Lib.hid hm'; have HO := Lib.hid ho'; clear ht' hm' ho'
      go_wp2_with (go_at_call 29; refine (two_any F hF b o _ hp32 _ HT.out HM.out HO.out).mono ?_; rintro e w' ⟨rfl, n2, rfl⟩)
      have hn2 := HS.out.next hlt
      rw [← HP.out] at hn2
      exact ⟨⟨k + 1, _, _, by omega, rfl, setCell_new _ _ _ _ _ _, hn2⟩, by simp [intOf]; omega⟩
    · have e : k = 32 := by omega
      subst e
      go_wp2
      go_ret
      exact ⟨rfl, _, _, rfl, hs⟩
end Go.Proofs.YtfjjeplcnkmjgaaDoor
