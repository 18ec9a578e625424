/- kept; the sorted places of those that wait. Conditions: none. -/
import Derived.Test.YtlidieffaaicaaaGreatDvG
namespace Go.Proofs.YtlidieffaaicaaaGreat.Fu
open Go.ChangeShapes Go.WideShapes Go.RowKit Go.Maps Go.Sort Go.Shelf
set_option maxRecDepth 100000
/-- A slice of numbers. -/
def Sl (w : World) (v : Value) (xs : List Int) : Prop :=
  ∃ a c, v = .slice a xs.length c ∧ ∀ j x, xs[j]? = some x → ∃ ad, a = some ad ∧ w.cell? (ad.add j) = some (.int .i64 x)
/-- How many first bytes a crash keeps of the i-th sector that waits. -/
def kp (xs : List Int) (i : Nat) : Nat := match xs[i % xs.length]? with
  | none => 0
  | some z => min (z % 130).toNat 128
theorem kp_le (xs : List Int) (i : Nat) : kp xs i ≤ 128 := by
  unfold kp
  split <;> omega
theorem tmod130 (z : Int) : (z.tmod 130 < 0 → z.tmod 130 + 130 = z % 130) ∧ (¬ z.tmod 130 < 0 → z.tmod 130 = z % 130) ∧ z.tmod 130 < 130 ∧ -130 < z.tmod 130 := by
  have h1 := Int.mul_tdiv_add_tmod z 130
  have h2 := Int.tmod_lt_of_pos z (show (0 : Int) < 130 by decide)
  have h3 := Int.lt_tmod_of_pos z (show (0 : Int) < 130 by decide)
  omega
theorem kept_none (a : Option Addr) (c : Nat) (i : Nat) (w : World) : Calls Tryz.prog 45 #[.slice a 0 c, .int .i64 (i : Int)] w fun e w' => e = .returned (.int .i64 0) ∧ w = w' := by
  go_enter Tryz.func45, Tryz.ntmps45
  go_wp2
  go_ret
  exact ⟨rfl, rfl⟩
theorem kept_some (ad : Addr) (n c i j : Nat) (hn : 0 < n) (hj : (i : Int).tmod (n : Int) = (j : Int)) (hjn : j < n) (z : Int) (w : World) (hz : w.cell? (ad.add j) = some (.int .i64 z)) :
    Calls Tryz.prog 45 #[.slice (some ad) n c, .int .i64 (i : Int)] w fun e w' => e = .returned (.int .i64 (min (z % 130).toNat 128 : Nat)) ∧ w = w' := by
  obtain ⟨h1, h2, h3, h4⟩ := tmod130 z
  obtain ⟨Z, eZ⟩ : ∃ Z, z.tmod 130 = Z := ⟨_, rfl⟩
  rw [eZ] at h1 h2 h3 h4
  have hnz : ¬ (n : Int) = 0 := by omega
  have hn0 : ¬ n = 0 := by omega
  by_cases h0 : Z < 0
  · have e := h1 h0
    have e2 : ((min (z % 130).toNat 128 : Nat) : Int) = min (Z + 130) 128 := by omega
    rw [e2]
    clear h1 h2 e e2
    go_enter Tryz.func45, Tryz.ntmps45
    go_wp2
    go_ret
    exact ⟨rfl, rfl⟩
  · have e := h2 h0
    have e2 : ((min (z % 130).toNat 128 : Nat) : Int) = min Z 128 := by omega
    rw [e2]
    clear h1 h2 e e2
    go_enter Tryz.func45, Tryz.ntmps45
    go_wp2
    go_ret
    exact ⟨rfl, rfl⟩
theorem kept_any {w : World} {v : Value} {xs : List Int} (h : Sl w v xs) (i : Nat) : Calls Tryz.prog 45 #[v, .int .i64 (i : Int)] w fun e w' => e = .returned (.int .i64 (kp xs i : Nat)) ∧ w = w' := by
  obtain ⟨a, c, rfl, hx⟩ := h
  by_cases h0 : xs.length = 0
  · have e : kp xs i = 0 := by unfold kp; rw [List.eq_nil_of_length_eq_zero h0]; rfl
    rw [e, h0]
    exact kept_none a c i w
  · have hlt : i % xs.length < xs.length := Nat.mod_lt _ (by omega)
    have hg := List.getElem?_eq_getElem hlt
    obtain ⟨ad, rfl, hc⟩ := hx _ _ hg
    have e : kp xs i = min (xs[i % xs.length] % 130).toNat 128 := by unfold kp; rw [hg]
    rw [e]
    exact kept_some ad xs.length c i (i % xs.length) (by omega) (by rw [Int.ofNat_tmod]) hlt _ w hc
theorem Sl.kept {w w' : World} {v : Value} {xs : List Int} {X : List Nat} (h : Sl w v xs) (hk : Kp w w' X) (hX : ∀ g ∈ X, ∀ a u, a.block = g → w.cell? a ≠ some u) : Sl w' v xs := by
  obtain ⟨a, c, rfl, hx⟩ := h
  refine ⟨a, c, rfl, fun j x hj => ?_⟩
  obtain ⟨ad, e, hc⟩ := hx j x hj
  refine ⟨ad, e, ?_⟩
  have hlt := World.block_lt_of_cell? w _ hc
  rw [← hc]
  exact World.cell?_of_block (w := w) (hk.block _ hlt (fun hm => hX _ hm _ _ rfl hc))
theorem nocell {w : World} {b n : Nat} {D : DataW Unit} (h : w.ownsMap Tryz.prog 3 R b n D) (a : Addr) (u : Value) (ha : a.block = b) : w.cell? a ≠ some u := by
  obtain ⟨es, clock, hb, _⟩ := h
  unfold World.cell?
  rw [ha, hb]
  intro e
  simp at e
theorem Dv.nocell {w : World} {B bs bw : Nat} {st : List Cel} (h : Dv w B bs bw st) : ∀ g ∈ [bs, bw], ∀ a u, a.block = g → w.cell? a ≠ some u := by
  intro g hg a u ha
  obtain ⟨k, D, ho, _⟩ := h.wait
  obtain ⟨k', D', ho', _⟩ := h.sure
  simp at hg
  rcases hg with rfl | rfl
  · exact Fu.nocell ho' a u ha
  · exact Fu.nocell ho a u ha
theorem Sl.step {w w' : World} {v : Value} {xs : List Int} {B bs bw : Nat} {st : List Cel} (h : Sl w v xs) (hd : Dv w B bs bw st) (hk : Kp w w' [bs, bw]) : Sl w' v xs := h.kept hk hd.nocell
theorem sorts48 (m : Nat) : AnyZI.SortsIn Tryz.prog Tryz.sorted48_ren Fence.wide m :=
  ⟨fun blk off cap ss W hH hblk hsz => callsIn_wide.2 (AnyM.slices_Sort_int Tryz.sort53 blk off cap ss W hH hblk hsz),
   fun p cap W => callsIn_wide.2 (AnyM.slices_Sort_int_none Tryz.sort53 p cap W)⟩
theorem keys_any (mb : Option Nat) (W : World) : Calls Tryz.prog 43 #[.map mb] W fun e w' => e = .returned (.func (.func 76) #[] #[.pointer (some ⟨W.heap.size, 0, none⟩)]) ∧ W.alloc (.cells #[.map mb] 63) = w' :=
  (callsIn_wide.1 (AnyZI.keys_in Tryz.keys49 Fence.wide 5 trivial rfl mb W)).mono fun _ _ ⟨h1, h2⟩ => ⟨h1, h2.symm⟩
set_option maxHeartbeats 1000000 in
theorem sorted_any {w : World} {b nn : Nat} {D0 : DataW Unit} (hown : w.ownsMap Tryz.prog 3 R b nn D0) (hmax : Maps.size D0 ≤ 4096) :
    Calls Tryz.prog 42 #[.func (.func 76) #[] #[.pointer (some ⟨w.heap.size, 0, none⟩)]] (w.alloc (.cells #[.map (some b)] 63)) fun e w' => ∃ (v : Value) (ss : List Int), e = .returned v ∧ ss.Perm (intKeys D0) ∧
      w'.ownsRow (w.alloc (.cells #[.map (some b)] 63)).heap.size 3 1 v ss.length ((ss.mergeSort (fun x y => decide (x ≤ y))).map encZ) ∧ (v = .slice none 0 0 ↔ ss = []) ∧ Below (w.alloc (.cells #[.map (some b)] 63)).heap.size (w.alloc (.cells #[.map (some b)] 63)) w' := by
  have hbl := hown.lt
  have hseq : SeqGives Fence.wide 2 Tryz.prog 76 #[.pointer (some ⟨w.heap.size, 0, none⟩)] encZ (fun ss => ss.Perm (intKeys D0)) (Maps.size D0) (w.alloc (.cells #[.map (some b)] 63)) :=
    AnyZI.keys_gives (ρ := Tryz.keys49_ren) { Tryz.keys49 with } Fence.wide _ trivial rfl (by omega) w.heap.size b nn D0 _ (by simp) (by simp) (by
      obtain ⟨es, clock, hb, Ft, hs, hD⟩ := hown
      exact ⟨es, clock, (Below.heap_alloc _ _ b hbl).trans hb, Ft, hs, hD⟩)
  exact callsIn_wide.1 (AnyZI.sorted_in Tryz.sorted48 Fence.wide 5 trivial trivial trivial trivial rfl (by omega) (sorts48 _) (enters_of Tryz.func75 (by kernel_rfl) rfl) 76 #[.pointer (some ⟨w.heap.size, 0, none⟩)] trivial (enters_of Tryz.func76 (by kernel_rfl) rfl) _ _ (by unfold maxLen; omega) (by omega) _ hseq)
end Go.Proofs.YtlidieffaaicaaaGreat.Fu
