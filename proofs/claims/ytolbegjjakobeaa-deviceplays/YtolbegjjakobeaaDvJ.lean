/- Copy. Conditions: none. -/
import Derived.Test.YtolbegjjakobeaaDvI
namespace Go.Proofs.Ytolbegjjakobeaa
open Go.ChangeShapes Go.WideShapes Go.RowKit Go.Maps
set_option maxRecDepth 100000
theorem copy_no {w : World} {v : Value} (h : No w v) : Calls Try.prog 15 #[v] w fun e w' => e = .returned (.pointer none) ∧ w = w' := by
  have hm := isMade_no h
  clear h
  go_enter Try.func15, Try.ntmps15
  go_wp2_with (go_at_call 33; refine hm.mono ?_; rintro e w' ⟨rfl, rfl⟩)
  go_ret
  exact ⟨rfl, rfl⟩
/-- A copy: blocks of its own. -/
structure Cp (w w' : World) (B' bs' bw' : Nat) (st : List Cel) : Prop where
  dev : Dv w' B' bs' bw' st
  below : Below w.heap.size w w'
  new : w.heap.size ≤ B' ∧ w.heap.size ≤ bs' ∧ w.heap.size ≤ bw'
theorem clone_any {w : World} {b k : Nat} {D : DataW Unit} (h : w.ownsMap Try.prog 3 R b k D) : Calls Try.prog 34 #[.map (some b)] w fun e w' => e = .returned (.map (some w.heap.size)) ∧ w'.ownsMap Try.prog 3 R w.heap.size k D ∧ Below w.heap.size w w' ∧ w'.heap.size = w.heap.size + 1 := by
  have hlt := h.lt
  obtain ⟨es, clock, hb, F, hs, hD⟩ := h
  refine (AnyW.maps_Clone Try.clone34 b es clock w hb).mono fun e w' ⟨he, hw⟩ => ?_
  subst hw
  exact ⟨he, ⟨es, clock, (MapKept.heap_alloc w _).1, F, hs, hD⟩, below_alloc (Below.refl _ _) _, by simp⟩
set_option maxHeartbeats 4000000 in
theorem copy_yes {w : World} {B bs bw : Nat} {st : List Cel} (h : Dv w B bs bw st) : Calls Try.prog 15 #[.pointer (some ⟨B, 0, none⟩)] w
    fun e w' => ∃ B' bs' bw', e = .returned (.pointer (some ⟨B', 0, none⟩)) ∧ Cp w w' B' bs' bw' st := by
  have hm := isMade_yes h
  obtain ⟨k, D, ho, hD⟩ := h.wait
  obtain ⟨k', D', ho', hD'⟩ := h.sure
  obtain ⟨N, eN⟩ : ∃ N, st.length = N := ⟨_, rfl⟩
  have three : ∀ wx, Below w.drew.heap.size w.drew wx → wx.cell? ⟨B, 0, none⟩ = some (.int .i64 (N : Int)) ∧ wx.cell? ⟨B, 1, none⟩ = some (.map (some bs)) ∧ wx.cell? ⟨B, 2, none⟩ = some (.map (some bw)) := fun wx hb => by
    have hd : Dv wx B bs bw st := h.drew.below hb
    have c0 := hd.one.cell 0; have c1 := hd.one.cell 1; have c2 := hd.one.cell 2
    simp [eN] at c0 c1 c2
    exact ⟨c0, c1, c2⟩
  have h3 := three _ (Below.refl _ _)
  have cS : ∀ wx, Below w.drew.heap.size w.drew wx → Calls Try.prog 34 #[.map (some bs)] wx fun e w' => e = .returned (.map (some wx.heap.size)) ∧ w'.ownsMap Try.prog 3 R wx.heap.size k' D' ∧ Below wx.heap.size wx w' ∧ w'.heap.size = wx.heap.size + 1 :=
    fun wx hb => clone_any ((Kp.of_below (a := w.drew) hb []).owns (show w.drew.ownsMap Try.prog 3 R bs k' D' from ho') (by simp))
  have cW : ∀ wx, Below w.drew.heap.size w.drew wx → Calls Try.prog 34 #[.map (some bw)] wx fun e w' => e = .returned (.map (some wx.heap.size)) ∧ w'.ownsMap Try.prog 3 R wx.heap.size k D ∧ Below wx.heap.size wx w' ∧ w'.heap.size = wx.heap.size + 1 :=
    fun wx hb => clone_any ((Kp.of_below (a := w.drew) hb []).owns (show w.drew.ownsMap Try.prog 3 R bw k D from ho) (by simp))
  have HS := Lib.hid cS
  have HW := Lib.hid cW
  have H3 := Lib.hid three
  clear cS cW three
  go_enter Try.func15, Try.ntmps15
  go_wp2_with (go_at_call 33; refine hm.mono ?_; rintro e w' ⟨rfl, rfl⟩)
  have hb0 : Below w.drew.heap.size w.drew w.drew := Below.refl _ _
  go_region_held3 (fun wx => wx.cell? ⟨B, 0, none⟩ = some (.int .i64 (N : Int)) ∧ wx.cell? ⟨B, 1, none⟩ = some (.map (some bs)) ∧ wx.cell? ⟨B, 2, none⟩ = some (.map (some bw)))
    (first | exact h3 | exact H3.out _ (by assumption) | exact H3.out _ (below_alloc hb3 _))
    (first
      | (go_at_call 34; with_reducible refine (HS.out _ hb0).mono ?_; rintro e w1 ⟨rfl, o1, hb1, z1⟩)
      | (go_at_call 34; with_reducible refine (HW.out _ hb1).mono ?_; rintro e w2 ⟨rfl, o2, hb2, z2⟩; have hb3 := hb1.trans (hb2.mono hb1.size)))
  all_goals
    have HZ1 := Lib.hid z1
    have HZ2 := Lib.hid z2
    clear z1 z2
    go_wp2
    go_ret
    have z1 : w1.heap.size = w.heap.size + 1 := HZ1.out
    have z2 := HZ2.out
    rw [z1] at z2 o2
    have n3 := Is.new w2 57 #[.int .i64 (N : Int), .map (some w.heap.size), .map (some (w.heap.size + 1))]
    rw [z2] at n3
    have o1' := ((Kp.of_below hb2 []).owns o1 (by simp)).alloc (.cells #[.int .i64 (N : Int), .map (some w.heap.size), .map (some (w.heap.size + 1))] 57)
    have o2' := o2.alloc (.cells #[.int .i64 (N : Int), .map (some w.heap.size), .map (some (w.heap.size + 1))] 57)
    have hw : Below w.heap.size w w2 := ⟨hb3.os, hb3.tape, hb3.output, hb3.size, hb3.block⟩
    exact ⟨_, w.heap.size, w.heap.size + 1, rfl, ⟨by rw [eN]; exact n3, ⟨_, _, o1', hD'⟩, ⟨_, _, o2', hD⟩, by omega, h.ok, h.lo, h.hi⟩, below_alloc hw _, by omega, by omega, by omega⟩
end Go.Proofs.Ytolbegjjakobeaa
