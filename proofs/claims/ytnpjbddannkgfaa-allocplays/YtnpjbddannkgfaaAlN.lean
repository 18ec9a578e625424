/- List. Conditions: none. -/
import Derived.Test.YtnpjbddannkgfaaAlM
namespace Go.Proofs.Ytnpjbddannkgfaa
open Go.ChangeShapes Go.WideShapes Go.RowKit Go.Maps Go.Spans Go.Alloc Go.Sort Go.Shelf
set_option maxRecDepth 100000
theorem sorts34 (m : Nat) : AnyZI.SortsIn Try.prog Try.sorted34_ren Fence.wide m :=
  ⟨fun blk off cap ss W hH hblk hsz => callsIn_wide.2 (AnyM.slices_Sort_int Try.sort60 blk off cap ss W hH hblk hsz),
   fun p cap W => callsIn_wide.2 (AnyM.slices_Sort_int_none Try.sort60 p cap W)⟩
theorem keys_any (mb : Option Nat) (W : World) : Calls Try.prog 35 #[.map mb] W fun e w' => e = .returned (.func (.func 61) #[] #[.pointer (some ⟨W.heap.size, 0, none⟩)]) ∧ W.alloc (.cells #[.map mb] 58) = w' :=
  (callsIn_wide.1 (AnyZI.keys_in Try.keys35 Fence.wide 5 trivial rfl mb W)).mono fun _ _ ⟨h1, h2⟩ => ⟨h1, h2.symm⟩
set_option maxHeartbeats 1000000 in
theorem sorted_any {w : World} {b nn : Nat} {R : Value → Option (DataW Unit × List MemPlace)} {D0 : DataW Unit} (hown : w.ownsMap Try.prog 3 R b nn D0) (hmax : Maps.size D0 ≤ 4096) :
    Calls Try.prog 34 #[.func (.func 61) #[] #[.pointer (some ⟨w.heap.size, 0, none⟩)]] (w.alloc (.cells #[.map (some b)] 58)) fun e w' => ∃ (v : Value) (ss : List Int), e = .returned v ∧ ss.Perm (intKeys D0) ∧
      w'.ownsRow (w.alloc (.cells #[.map (some b)] 58)).heap.size 3 1 v ss.length ((ss.mergeSort (fun x y => decide (x ≤ y))).map encZ) ∧ (v = .slice none 0 0 ↔ ss = []) ∧ Below (w.alloc (.cells #[.map (some b)] 58)).heap.size (w.alloc (.cells #[.map (some b)] 58)) w' := by
  have hbl := hown.lt
  have hseq : SeqGives Fence.wide 2 Try.prog 61 #[.pointer (some ⟨w.heap.size, 0, none⟩)] encZ (fun ss => ss.Perm (intKeys D0)) (Maps.size D0) (w.alloc (.cells #[.map (some b)] 58)) :=
    AnyZI.keys_gives (ρ := Try.keys35_ren) { Try.keys35 with } Fence.wide _ trivial rfl (by omega) w.heap.size b nn D0 _ (by simp) (by simp) (by
      obtain ⟨es, clock, hb, Ft, hs, hD⟩ := hown
      exact ⟨es, clock, (Below.heap_alloc _ _ b hbl).trans hb, Ft, hs, hD⟩)
  exact callsIn_wide.1 (AnyZI.sorted_in Try.sorted34 Fence.wide 5 trivial trivial trivial trivial rfl (by omega) (sorts34 _) (enters_of Try.func60 (by kernel_rfl) rfl) 61 #[.pointer (some ⟨w.heap.size, 0, none⟩)] trivial (enters_of Try.func61 (by kernel_rfl) rfl) _ _ (by unfold maxLen; omega) (by omega) _ hseq)
/-- The places, rising. -/
theorem places_sorted {L : List Ch} (hs : Srt L) {ss : List Int} (hp : ss.Perm ((L.map Ch.place).map fun i : Nat => (i : Int))) : ss.mergeSort (fun x y => decide (x ≤ y)) = nz (L.map Ch.place) := by
  rw [show ss.mergeSort (fun x y => decide (x ≤ y)) = ((L.map Ch.place).map fun i : Nat => (i : Int)).mergeSort (fun x y => decide (x ≤ y)) from mergeSort_of_perm_i hp]
  apply List.mergeSort_of_pairwise
  rw [List.pairwise_map, List.pairwise_map]
  exact hs.imp (fun h => by simp; omega)
/-- The sorted places, as List asks for them. -/
theorem places_c {w : World} {bc : Nat} {L : List Ch} (h : MC w bc L) (hs : Srt L) (hl : L.length ≤ 4096) :
    Calls Try.prog 34 #[.func (.func 61) #[] #[.pointer (some ⟨w.heap.size, 0, none⟩)]] (w.alloc (.cells #[.map (some bc)] 58)) fun e w' => ∃ P C, e = .returned (.slice P L.length C) ∧ w'.ownsRow w.heap.size 3 1 (.slice P L.length C) L.length (zs (nz (L.map Ch.place))) ∧ Below w.heap.size w w' := by
  obtain ⟨k, D, ho, hD⟩ := h
  have hsz := size_of ho (srt_nodup hs) hD.iff
  rw [List.length_map] at hsz
  refine (sorted_any ho (by omega)).mono ?_
  rintro e w' ⟨v, ss, rfl, hp, hrow, _, hb⟩
  have hp2 := hp.trans (keys_perm ho (srt_nodup hs) hD.iff).symm
  have hlen : ss.length = L.length := by rw [hp2.length_eq]; simp
  rw [places_sorted hs hp2, hlen] at hrow
  have h1 := below_alloc (Below.refl _ w) (.cells #[.map (some bc)] 58)
  obtain ⟨P, C, rfl⟩ := own_shape hrow
  exact ⟨P, C, rfl, low_row hrow h1.size, h1.trans (hb.mono h1.size)⟩
end Go.Proofs.Ytnpjbddannkgfaa
