/- The document's device: Crash. Conditions: none. -/
import Derived.Test.YtlidieffaaicaaaGreatDvS
namespace Go.Proofs.YtlidieffaaicaaaGreat.Fu
open Go.ChangeShapes Go.WideShapes Go.RowKit Go.Maps
set_option maxRecDepth 100000
theorem full_full {l : List UInt8} (h : l.length = 128) : full l = l := by unfold full; rw [h]; simp
/-- The text that a crash leaves. -/
def tx (x : Sc) (n : Nat) : ByteArray := bs (tornL (full x.sure.data.toList) (full x.shows.data.toList) n)
def rcr (L : List Sc) (xs : List Int) (k : Nat) : List Sc := L.mapIdx fun i x => if i < k ∧ x.w = true then ⟨tx x (kp xs (cnt L i)), ⟨#[]⟩, false⟩ else x
theorem rcr_get (L : List Sc) (xs : List Int) (k i : Nat) : (rcr L xs k)[i]? = L[i]?.map fun x => if i < k ∧ x.w = true then ⟨tx x (kp xs (cnt L i)), ⟨#[]⟩, false⟩ else x := by simp [rcr]
theorem rcr_len (L : List Sc) (xs : List Int) (k : Nat) : (rcr L xs k).length = L.length := by simp [rcr]
theorem rcr_zero (L : List Sc) (xs : List Int) : rcr L xs 0 = L := by
  apply List.ext_getElem?
  intro i
  rw [rcr_get]
  cases L[i]? <;> simp
theorem rcr_yes {L : List Sc} {xs : List Int} {k : Nat} {x : Sc} (hx : L[k]? = some x) (hw : x.w = true) : (rcr L xs k).set k ⟨tx x (kp xs (cnt L k)), ⟨#[]⟩, false⟩ = rcr L xs (k + 1) := by
  have hk := (List.getElem?_eq_some_iff.1 hx).1
  apply List.ext_getElem?
  intro i
  rw [rcr_get, List.getElem?_set, rcr_len]
  by_cases e : k = i
  · subst e
    rw [if_pos rfl, if_pos hk, hx]
    simp [hw]
  · rw [if_neg e, rcr_get]
    have hiff : (i < k + 1) ↔ (i < k) := by omega
    simp only [hiff]
theorem rcr_no {L : List Sc} {xs : List Int} {k : Nat} {x : Sc} (hx : L[k]? = some x) (hw : x.w = false) : rcr L xs k = rcr L xs (k + 1) := by
  apply List.ext_getElem?
  intro i
  rw [rcr_get, rcr_get]
  by_cases e : k = i
  · subst e
    rw [hx]
    simp [hw]
  · have hiff : (i < k + 1) ↔ (i < k) := by omega
    simp only [hiff]
theorem rcr_next {L : List Sc} {xs : List Int} {k : Nat} {x : Sc} (hx : L[k]? = some x) : (rcr L xs k)[k]? = some x := by rw [rcr_get, hx]; simp
theorem waits_cels (L : List Sc) (i : Nat) : (((cels L)[i]?).map fun c => c.t.isSome).getD false = ((L[i]?).map fun x => x.w).getD false := by
  unfold cels
  rw [List.getElem?_map]
  cases L[i]? with
  | none => rfl
  | some x => obtain ⟨a, b, c⟩ := x; cases c <;> rfl
theorem cnt_filter (L : List Sc) : ∀ k, k ≤ L.length → ((List.range k).filter fun i => ((L[i]?).map fun x => x.w).getD false).length = cnt L k
  | 0, _ => rfl
  | k + 1, h => by
    have hx := List.getElem?_eq_getElem (show k < L.length by omega)
    rw [List.range_succ, List.filter_append, List.length_append, cnt_filter L k (by omega), cnt_succ hx]
    congr 1
    rw [List.filter_cons, hx]
    cases h : L[k].w <;> simp [h]
theorem order_rank {L : List Sc} {i : Nat} {x : Sc} (hx : L[i]? = some x) (hw : x.w = true) : (order (cels L))[cnt L i]? = some i := by
  have hi := (List.getElem?_eq_some_iff.1 hx).1
  unfold order
  rw [cels_len]
  have e : ((List.range L.length).filter fun i => (((cels L)[i]?).map fun c => c.t.isSome).getD false) = (List.range L.length).filter fun i => ((L[i]?).map fun x => x.w).getD false := by
    apply List.filter_congr
    intro j _
    exact waits_cels L j
  rw [e]
  have hr : List.range L.length = List.range i ++ (i :: (List.range L.length).drop (i + 1)) := by
    have h1 := (List.take_append_drop i (List.range L.length)).symm
    rw [List.take_range, Nat.min_eq_left (by omega), List.drop_eq_getElem_cons (by simpa using hi), List.getElem_range] at h1
    exact h1
  rw [hr, List.filter_append, ← cnt_filter L i (by omega), List.getElem?_append_right (Nat.le_refl _), Nat.sub_self, List.filter_cons, hx]
  simp [hw]
theorem rcr_all {L : List Sc} (hsm : Small L) (xs : List Int) : cels (rcr L xs L.length) = crash (cels L) xs := by
  apply List.ext_getElem?
  intro i
  unfold cels
  rw [List.getElem?_map, rcr_get]
  cases hx : L[i]? with
  | none =>
    rw [List.getElem?_eq_none]
    · rfl
    · rw [crash_len, List.length_map]
      exact List.getElem?_eq_none_iff.1 hx
  | some x =>
    have hi := (List.getElem?_eq_some_iff.1 hx).1
    have hc : (List.map Sc.cel L)[i]? = some x.cel := cels_get hx
    cases hw : x.w with
    | false =>
      obtain ⟨c', h1, h2, h3⟩ := crash_get (List.map Sc.cel L) xs hc
      rw [h1]
      rcases h3 with ⟨_, rfl⟩ | ⟨j, t, h4, _⟩
      · simp [hw]
      · unfold Sc.cel at h4
        rw [hw] at h4
        cases h4
    | true =>
      have ho := order_rank hx hw
      have hd := crN_done xs ho hc (order (cels L)).length (List.getElem?_eq_some_iff.1 ho).1
      show _ = (crN (List.map Sc.cel L) xs (order (List.map Sc.cel L)).length)[i]?
      unfold cels at hd
      rw [hd]
      have hk := kp_le xs (cnt L i)
      simp only [Option.map_some, hi, hw, and_self, if_true]
      unfold Cel.torn Cel.r Sc.cel
      obtain ⟨z0, z1⟩ := hsm i x hx
      have l0 : (full x.sure.data.toList).length = 128 := full_len (by rw [← Lib.size_eq]; exact z0)
      have l1 : (full x.shows.data.toList).length = 128 := full_len (by rw [← Lib.size_eq]; exact z1)
      have hT := tornL_len l0 l1 hk
      have e : full (tx x (kp xs (cnt L i))).data.toList = tornL (full x.sure.data.toList) (full x.shows.data.toList) (kp xs (cnt L i)) := by
        have : (tx x (kp xs (cnt L i))).data.toList = tornL (full x.sure.data.toList) (full x.shows.data.toList) (kp xs (cnt L i)) := by simp [tx, bs]
        rw [this, full_full hT]
      simp [e, hw]
theorem tx_size {x : Sc} (h0 : x.sure.size ≤ 128) (h1 : x.shows.size ≤ 128) {n : Nat} (hn : n ≤ 128) : (tx x n).size = 128 := by
  have l0 : (full x.sure.data.toList).length = 128 := full_len (by rw [← Lib.size_eq]; exact h0)
  have l1 : (full x.shows.data.toList).length = 128 := full_len (by rw [← Lib.size_eq]; exact h1)
  have := tornL_len l0 l1 hn
  simpa [tx, bs, ByteArray.size] using this
theorem tx_cut {x : Sc} (h0 : x.sure.size ≤ 128) {n : Nat} : (bs (full x.shows.data.toList)).extract 0 n ++ (bs (full x.sure.data.toList)).extract n 128 = tx x n := by
  have l0 : (full x.sure.data.toList).length = 128 := full_len (by rw [← Lib.size_eq]; exact h0)
  apply ByteArray.ext
  apply Array.toList_inj.1
  simp [bs, tx, tornL]
  rw [List.take_of_length_le (by rw [List.length_drop]; omega)]
theorem rcrash_nil (u : Value) (w : World) : Calls Tryz.prog 41 #[.pointer none, u] w fun e w' => e = .returned (.tuple #[]) ∧ w = w' := by
  go_enter Tryz.func41, Tryz.ntmps41
  go_wp2
  refine bodyPost_ret (results_none rfl _ _ _) rfl ?_
  exact ⟨rfl, rfl⟩
end Go.Proofs.YtlidieffaaicaaaGreat.Fu
