/- The document's device: Barrier. Conditions: none. -/
import Derived.Test.YtlidieffaaicaaaGreatDvR
namespace Go.Proofs.YtlidieffaaicaaaGreat.Fu
open Go.ChangeShapes Go.WideShapes Go.RowKit Go.Maps
set_option maxRecDepth 100000
/-- The first k are settled, if they wait. -/
def rbar (L : List Sc) (k : Nat) : List Sc := L.mapIdx fun i x => if i < k ∧ x.w = true then ⟨x.shows, ⟨#[]⟩, false⟩ else x
theorem rbar_get (L : List Sc) (k i : Nat) : (rbar L k)[i]? = L[i]?.map fun x => if i < k ∧ x.w = true then ⟨x.shows, ⟨#[]⟩, false⟩ else x := by simp [rbar]
theorem rbar_len (L : List Sc) (k : Nat) : (rbar L k).length = L.length := by simp [rbar]
theorem rbar_zero (L : List Sc) : rbar L 0 = L := by
  apply List.ext_getElem?
  intro i
  rw [rbar_get]
  cases L[i]? <;> simp
theorem rbar_all (L : List Sc) : cels (rbar L L.length) = bar (cels L) := by
  apply List.ext_getElem?
  intro i
  unfold cels bar
  rw [List.getElem?_map, List.getElem?_map, List.getElem?_map, rbar_get]
  cases hx : L[i]? with
  | none => rfl
  | some x =>
    have hi := (List.getElem?_eq_some_iff.1 hx).1
    obtain ⟨a, b, c⟩ := x
    cases c <;> simp [Sc.cel, Cel.r, hi]
theorem rbar_yes {L : List Sc} {k : Nat} {x : Sc} (hx : L[k]? = some x) (hw : x.w = true) : (rbar L k).set k ⟨x.shows, ⟨#[]⟩, false⟩ = rbar L (k + 1) := by
  have hk := (List.getElem?_eq_some_iff.1 hx).1
  apply List.ext_getElem?
  intro i
  rw [rbar_get, List.getElem?_set, rbar_len]
  by_cases e : k = i
  · subst e
    rw [if_pos rfl, if_pos hk, hx]
    simp [hw]
  · rw [if_neg e, rbar_get]
    have hiff : (i < k + 1) ↔ (i < k) := by omega
    simp only [hiff]
theorem rbar_no {L : List Sc} {k : Nat} {x : Sc} (hx : L[k]? = some x) (hw : x.w = false) : rbar L k = rbar L (k + 1) := by
  apply List.ext_getElem?
  intro i
  rw [rbar_get, rbar_get]
  by_cases e : k = i
  · subst e
    rw [hx]
    simp [hw]
  · have hiff : (i < k + 1) ↔ (i < k) := by omega
    simp only [hiff]
theorem rbar_next {L : List Sc} {k : Nat} {x : Sc} (hx : L[k]? = some x) : (rbar L k)[k]? = some x := by rw [rbar_get, hx]; simp
theorem rbarrier_nil (w : World) : Calls Tryz.prog 12 #[.pointer none] w fun e w' => e = .returned (.tuple #[]) ∧ w = w' := by
  go_enter Tryz.func12, Tryz.ntmps12
  go_wp2
  refine bodyPost_ret (results_none rfl _ _ _) rfl ?_
  exact ⟨rfl, rfl⟩
abbrev put3 (w : World) (g i : Nat) (a b c : Value) : World := ((w.setCell ⟨g, i * 3, none⟩ a).setCell ⟨g, i * 3 + 1, none⟩ b).setCell ⟨g, i * 3 + 2, none⟩ c
theorem kp_put3 (w : World) (g i : Nat) (a b c : Value) : Kp w (put3 w g i a b c) [g] :=
  ((kp_set _ _ _ _).trans (kp_set _ _ _ _) (fun _ hy => .inl hy)).trans (kp_set _ _ _ _) (fun _ hy => .inl hy)
/-- A sector is put whole. -/
theorem Rv.put {w : World} {B g : Nat} {L : List Sc} (h : Rv w B g L) {i : Nat} (hi : i < L.length) (x : Sc) (h1 : x.sure.size ≤ 128) (h2 : x.shows.size ≤ 128) :
    Rv (put3 w g i (.string x.sure) (.string x.shows) (.bool x.w)) B g (L.set i x) := by
  obtain ⟨cap, ho⟩ := h.one
  refine ⟨⟨cap, by rw [List.length_set]; exact (kp_put3 w g i _ _ _).is ho (by simpa using h.ne)⟩, ?_, h.small.set i x h1 h2, by rw [List.length_set]; exact h.lo, by rw [List.length_set]; exact h.hi⟩
  refine h.row.turn (fun cur hc hz => ⟨_, ((hc.put _ _).put _ _).put _ _, fun j j0 j1 j2 => ?_, ?_, ?_, ?_⟩) hi
  · rw [Array.getElem?_setIfInBounds_ne (by omega), Array.getElem?_setIfInBounds_ne (by omega), Array.getElem?_setIfInBounds_ne (by omega)]
  · rw [Array.getElem?_setIfInBounds_ne (by omega), Array.getElem?_setIfInBounds_ne (by omega), Array.getElem?_setIfInBounds_self_of_lt (by omega)]
  · rw [Array.getElem?_setIfInBounds_ne (by omega), Array.getElem?_setIfInBounds_self_of_lt (by simp; omega)]
  · rw [Array.getElem?_setIfInBounds_self_of_lt (by simp; omega)]
/-- How a barrier's loop stands. -/
structure Rb (w : World) (B g : Nat) (L : List Sc) (k : Nat) (wr : World) : Prop where
  dev : Rv wr B g (rbar L k)
  kp : Kp w wr [g]
set_option maxHeartbeats 4000000 in
theorem rbarrier_any {w : World} {B g : Nat} {L : List Sc} (h : Rv w B g L) : Calls Tryz.prog 12 #[.pointer (some ⟨B, 0, none⟩)] w
    fun e w' => e = .returned (.tuple #[]) ∧ ∃ L', cels L' = bar (cels L) ∧ Rv w' B g L' ∧ Kp w w' [g] := by
  have h0 : Rb w B g L 0 w := ⟨by rw [rbar_zero]; exact h, Kp.refl _ _⟩
  have hhi := h.hi
  obtain ⟨n, hn⟩ : ∃ n, L.length = n := ⟨_, rfl⟩
  have HN := Lib.hid hn
  rw [hn] at hhi
  have H0 := Lib.hid h0
  clear h h0 hn
  go_enter Tryz.func12, Tryz.ntmps12
  go_wp2
  go_loopw [2] (fun i wr => ∃ k : Nat, i = .int .i64 (k : Int) ∧ k ≤ n ∧ Rb w B g L k wr) (fun i _ => n - (RowKit.intOf i).toNat)
  case atStart => exact ⟨0, rfl, Nat.zero_le _, H0.out⟩
  case round =>
    obtain ⟨k, rfl, hkn, hb⟩ := hrel
    obtain ⟨cap, h1⟩ := hb.dev.one
    rw [rbar_len, HN.out] at h1
    have c0 := h1.cell 0
    simp at c0
    by_cases hlt : k < n
    · obtain ⟨x, hx⟩ : ∃ x, L[k]? = some x := ⟨_, List.getElem?_eq_getElem (by rw [HN.out]; exact hlt)⟩
      obtain ⟨d0, d1, d2⟩ := hb.dev.row.at' (rbar_next hx)
      have hki : (k : Int) < (n : Int) := by omega
      cases hw : x.w with
      | true =>
        have hdr := hb.dev.drew
        have hz := hb.dev.small k x (rbar_next hx)
        have hput := hdr.put (i := k) (by rw [rbar_len, HN.out]; exact hlt) ⟨x.shows, ⟨#[]⟩, false⟩ hz.2 (show ByteArray.size ⟨#[]⟩ ≤ 128 from by decide)
        rw [rbar_yes hx hw] at hput
        have hkk : Kp w (put3 wr.drew g k (.string x.shows) (.string ⟨#[]⟩) (.bool false)) [g] := hb.kp.drew.trans (kp_put3 _ _ _ _ _ _) (fun y hy => .inl hy)
        have f0 := hb.dev.row.free (k * 3)
        have f1 := hb.dev.row.free (k * 3 + 1)
        have f2 := hb.dev.row.free (k * 3 + 2)
        have HP := Lib.hid hput
        have HK := Lib.hid hkk
        rw [hw] at d2
        obtain ⟨su, sh, wt⟩ := x
        simp only at d0 d1 hw
        clear hput hkk hdr hb hz h1 hx
        clear hw
        go_wp2
        go_region
        go_wp2
        go_roundw
        case rel => exact ⟨k + 1, by go_num, by omega, HP.out, HK.out⟩
        case measure => simp [RowKit.intOf]; omega
      | false =>
        have hnx : Rb w B g L (k + 1) wr := ⟨by rw [← rbar_no hx hw]; exact hb.dev, hb.kp⟩
        have HX := Lib.hid hnx
        rw [hw] at d2
        clear hnx hb h1 hx hw d0 d1
        go_wp2
        go_roundw
        case rel => exact ⟨k + 1, by go_num, by omega, HX.out⟩
        case measure => simp [RowKit.intOf]; omega
    · obtain rfl : k = n := by omega
      have HB := Lib.hid hb
      clear hb h1
      go_wp2
      go_end0
      exact ⟨rfl, rbar L k, by rw [← HN.out]; exact rbar_all L, HB.out.dev, HB.out.kp⟩
end Go.Proofs.YtlidieffaaicaaaGreat.Fu
