/- Crash. Conditions: none. -/
import Derived.Test.YtlidieffaaicaaaGreatDvH
namespace Go.Proofs.YtlidieffaaicaaaGreat.Fu
open Go.ChangeShapes Go.WideShapes Go.RowKit Go.Maps
set_option maxRecDepth 100000
/-- A sector behind a crash that keeps n of its first bytes. -/
def Cel.torn (c : Cel) (n : Nat) : Cel := ⟨tornL c.s c.r n, none⟩
/-- What stands on it when k of those that wait are settled. -/
def crN (st : List Cel) (xs : List Int) : Nat → List Cel
  | 0 => st
  | k + 1 => match (order st)[k]? with
    | none => crN st xs k
    | some p => match st[p]? with
      | none => crN st xs k
      | some c => (crN st xs k).set p (c.torn (kp xs k))
/-- What a crash leaves. -/
def crash (st : List Cel) (xs : List Int) : List Cel := crN st xs (order st).length
theorem crN_len (st : List Cel) (xs : List Int) (k : Nat) : (crN st xs k).length = st.length := by
  induction k with
  | zero => rfl
  | succ k ih =>
    unfold crN
    split
    · exact ih
    · split
      · exact ih
      · rw [List.length_set]; exact ih
theorem crN_succ {st : List Cel} {k p : Nat} {c : Cel} (xs : List Int) (hp : (order st)[k]? = some p) (hc : st[p]? = some c) : crN st xs (k + 1) = (crN st xs k).set p (c.torn (kp xs k)) := by
  rw [crN, hp]
  show (match st[p]? with | none => _ | some c => _) = _
  rw [hc]
theorem order_inj {st : List Cel} {i j p : Nat} (hi : (order st)[i]? = some p) (hj : (order st)[j]? = some p) : i = j := by
  obtain ⟨h1, e1⟩ := List.getElem?_eq_some_iff.1 hi
  obtain ⟨h2, e2⟩ := List.getElem?_eq_some_iff.1 hj
  have hs := List.pairwise_iff_getElem.1 (order_sorted st)
  rcases Nat.lt_trichotomy i j with h | h | h
  · have := hs i j h1 h2 h; omega
  · exact h
  · have := hs j i h2 h1 h; omega
/-- One that is not settled yet is as it was. -/
theorem crN_other (st : List Cel) (xs : List Int) (p : Nat) : ∀ k, (∀ j, j < k → (order st)[j]? ≠ some p) → (crN st xs k)[p]? = st[p]?
  | 0, _ => rfl
  | k + 1, h => by
    have ih := crN_other st xs p k (fun j hj => h j (by omega))
    unfold crN
    split
    · exact ih
    · rename_i q hq
      split
      · exact ih
      · rw [List.getElem?_set_ne (fun e => h k (by omega) (by rw [hq, e]))]
        exact ih
theorem crN_done {st : List Cel} (xs : List Int) {p j : Nat} {c : Cel} (hj : (order st)[j]? = some p) (hc : st[p]? = some c) : ∀ k, j < k → (crN st xs k)[p]? = some (c.torn (kp xs j))
  | 0, h => by omega
  | k + 1, h => by
    by_cases e : j = k
    · subst e
      rw [crN_succ xs hj hc, List.getElem?_set_self (by rw [crN_len]; exact (List.getElem?_eq_some_iff.1 hc).1)]
    · have ih := crN_done xs hj hc k (by omega)
      unfold crN
      split
      · exact ih
      · rename_i q hq
        split
        · exact ih
        · rw [List.getElem?_set_ne (fun e' => e (order_inj hj (by rw [hq, e'])))]
          exact ih
/-- Those that are to come are as they were. -/
theorem crN_next {st : List Cel} (xs : List Int) {k p : Nat} (hp : (order st)[k]? = some p) : (crN st xs k)[p]? = st[p]? :=
  crN_other st xs p k (fun j hj e => by have := order_inj e hp; omega)
theorem crash_no {w : World} {v u : Value} (h : No w v) : Calls Tryz.prog 21 #[v, u] w fun e w' => e = .returned (.tuple #[]) ∧ w = w' := by
  have hm := isMade_no h
  clear h
  go_enter Tryz.func21, Tryz.ntmps21
  go_wp2_with (go_at_call 31; refine hm.mono ?_; rintro e w' ⟨rfl, rfl⟩)
  refine bodyPost_ret (results_none rfl _ _ _) rfl ?_
  exact ⟨rfl, rfl⟩
theorem sorted_out {w W : World} {b k base : Nat} {D : DataW Unit} {st : List Cel} {v : Value} {ss : List Int} (ho : w.ownsMap Tryz.prog 3 R b k D) (hD : MW D st) (hp : ss.Perm (intKeys D))
    (hrow : W.ownsRow base 3 1 v ss.length ((ss.mergeSort (fun x y => decide (x ≤ y))).map encZ)) (hn : v = .slice none 0 0 ↔ ss = []) :
    (order st = [] ∧ v = .slice none 0 0) ∨ ∃ g cap, v = .slice (some ⟨g, 0, none⟩) (order st).length cap ∧ base ≤ g ∧ 0 < (order st).length ∧ g < W.heap.size ∧ ∀ (j p : Nat), (order st)[j]? = some p → W.cell? ⟨g, j, none⟩ = some (.int .i64 (p : Int)) := by
  have hperm : ss.Perm ((order st).map fun i : Nat => (i : Int)) := hp.trans (order_keys ho hD).symm
  have hlen : ss.length = (order st).length := by rw [hperm.length_eq, List.length_map]
  have hsort : ss.mergeSort (fun x y => decide (x ≤ y)) = (order st).map fun i : Nat => (i : Int) := by
    rw [show ss.mergeSort (fun x y => decide (x ≤ y)) = ((order st).map fun i : Nat => (i : Int)).mergeSort (fun x y => decide (x ≤ y)) from mergeSort_of_perm_i hperm]
    apply List.mergeSort_of_pairwise
    rw [List.pairwise_map]
    exact List.Pairwise.imp (fun {a b} h => by simp; omega) (order_sorted st)
  rw [hsort, hlen] at hrow
  obtain ⟨h1, h2⟩ := hrow
  by_cases h0 : ss = []
  · left
    refine ⟨?_, hn.2 h0⟩
    rw [h0] at hlen
    exact List.eq_nil_of_length_eq_zero hlen.symm
  · right
    rcases h2 with ⟨e, _⟩ | ⟨g, cap, cur, e, hg, hb, hcap, _, hsz, htk⟩
    · exact absurd (hn.1 e) h0
    · refine ⟨g, cap, e, hg, by rw [← hlen]; exact List.length_pos_iff.2 h0, (Array.getElem?_eq_some_iff.1 hb).1, fun j p hj => ?_⟩
      rw [cell_of_row W g j cur 3 _ hb]
      have hjl := (List.getElem?_eq_some_iff.1 hj).1
      have : (List.take ((order st).length * 1) cur.toList)[j]? = some (.int .i64 (p : Int)) := by rw [htk]; simp [hj, encZ]
      rw [List.getElem?_take, if_pos (by omega)] at this
      simpa using this
set_option maxHeartbeats 4000000 in
theorem crash_none {w : World} {B bs bw : Nat} {st : List Cel} (h : Dv w B bs bw st) (h0 : order st = []) (u : Value) : Calls Tryz.prog 21 #[.pointer (some ⟨B, 0, none⟩), u] w
    fun e w' => e = .returned (.tuple #[]) ∧ Below w.heap.size w w' := by
  have hm := isMade_yes h
  have c2 := h.one.cell 2
  simp at c2
  obtain ⟨k, D, ho, hD⟩ := h.wait
  have hk := keys_any (some bw) w
  have hS := sorted_any ho (by have := size_le ho hD.keys; have := h.hi; omega)
  have hO := fun (W : World) (v : Value) (ss : List Int) (hp : ss.Perm (intKeys D)) => sorted_out (W := W) (v := v) (base := (w.alloc (.cells #[.map (some bw)] 63)).heap.size) ho hD hp
  have b1 := below_alloc (Below.refl w.heap.size w) (.cells #[.map (some bw)] 63)
  have HO := Lib.hid hO
  have HS := Lib.hid h0
  clear h ho hD hO h0
  go_enter Tryz.func21, Tryz.ntmps21
  go_wp2_with (first
    | (go_at_call 31; refine hm.mono ?_; rintro e w' ⟨rfl, rfl⟩)
    | (go_at_call 43; refine hk.mono ?_; rintro e w' ⟨rfl, rfl⟩)
    | (go_at_call 42; refine hS.mono ?_; rintro e w' ⟨v, ss, rfl, hp, hrow, hnil, hb⟩; (obtain rfl : v = .slice none 0 0 := by rcases HO.out w' v ss hp hrow hnil with ⟨_, e⟩ | ⟨_, _, _, _, h1, _⟩; exact e; rw [HS.out] at h1; simp at h1); clear hnil hrow hp))
  refine wp_loop_rounds 1 ?_
  rw [rounds_succ]
  go_wp2
  go_end0
  exact ⟨rfl, b1.trans (hb.mono (by simp))⟩
theorem Dv.two {w : World} {B bs bw : Nat} {st : List Cel} (h : Dv w B bs bw st) : w.cell? ⟨B, 1, none⟩ = some (.map (some bs)) ∧ w.cell? ⟨B, 2, none⟩ = some (.map (some bw)) :=
  ⟨by have := h.one.cell 1; simpa using this, by have := h.one.cell 2; simpa using this⟩
theorem Dv.drew {w : World} {B bs bw : Nat} {st : List Cel} (h : Dv w B bs bw st) : Dv w.drew B bs bw st := h.kept (X := []) (Kp.drew (Kp.refl _ _)) (by simp) (by simp) (by simp)
/-- How a crash's loop stands. -/
structure Cr (W0 : World) (B bs bw : Nat) (st : List Cel) (u : Value) (xs : List Int) (k : Nat) (wr : World) : Prop where
  dev : Dv wr B bs bw (crN st xs k)
  kp : Kp W0 wr [bs, bw]
  sl : Sl wr u xs
set_option maxHeartbeats 4000000 in
theorem crash_some {w : World} {B bs bw : Nat} {st : List Cel} (h : Dv w B bs bw st) (h0 : order st ≠ []) {u : Value} {xs : List Int} (hu : Sl w u xs) : Calls Tryz.prog 21 #[.pointer (some ⟨B, 0, none⟩), u] w
    fun e w' => e = .returned (.tuple #[]) ∧ Dv w' B bs bw (crash st xs) ∧ Kp w w' [bs, bw] := by
  have hm := isMade_yes h
  have c2 := h.one.cell 2
  simp at c2
  obtain ⟨k, D, ho, hD⟩ := h.wait
  have hk := keys_any (some bw) w
  have hS := sorted_any ho (by have := size_le ho hD.keys; have := h.hi; omega)
  have hO := fun (W : World) (v : Value) (ss : List Int) (hp : ss.Perm (intKeys D)) => sorted_out (W := W) (v := v) (base := (w.alloc (.cells #[.map (some bw)] 63)).heap.size) ho hD hp
  have b1 := below_alloc (Below.refl w.heap.size w) (.cells #[.map (some bw)] 63)
  have HO := Lib.hid hO
  have H0 := Lib.hid h0
  clear ho hD hO h0
  go_enter Tryz.func21, Tryz.ntmps21
  go_wp2_with (first
    | (go_at_call 31; refine hm.mono ?_; rintro e w' ⟨rfl, rfl⟩)
    | (go_at_call 43; refine hk.mono ?_; rintro e w' ⟨rfl, rfl⟩)
    | (go_at_call 42; refine hS.mono ?_; rintro e W0 ⟨v, ss, rfl, hp, hrow, hnil, hb⟩; (obtain ⟨g, cap, rfl, hg, hn, hgl, hcell⟩ : ∃ g cap, v = .slice (some ⟨g, 0, none⟩) (order st).length cap ∧ (w.alloc (.cells #[.map (some bw)] 63)).heap.size ≤ g ∧ 0 < (order st).length ∧ g < W0.heap.size ∧ ∀ (j p : Nat), (order st)[j]? = some p → W0.cell? ⟨g, j, none⟩ = some (.int .i64 (p : Int)) := by rcases HO.out W0 v ss hp hrow hnil with ⟨e, _⟩ | h1; exact absurd e H0.out; exact h1); clear hnil hrow hp))
  have hB : Below w.heap.size w W0 := b1.trans (hb.mono (by simp))
  have HC := Lib.hid hcell
  have hgw : w.heap.size ≤ g := by simp at hg; omega
  clear hg hcell hb b1 HO H0
  have hdw : Dv W0 B bs bw st := h.below hB
  have hsl : Sl W0 u xs := hu.step h (Kp.of_below hB _)
  have hlts := h.lts
  have hltw := h.ltw
  have hn4 : (order st).length ≤ 4096 := by have := List.length_filter_le (fun i => ((st[i]?).map fun c => c.t.isSome).getD false) (List.range st.length); rw [List.length_range] at this; have := h.hi; unfold order; omega
  have hKB : Kp w W0 [bs, bw] := Kp.of_below hB _
  clear h hu hm hk hS hB
  obtain ⟨n, hn'⟩ : ∃ n, (order st).length = n := ⟨_, rfl⟩
  have HN := Lib.hid hn'
  rw [hn'] at hn hn4 ⊢
  clear hn'
  have H1 := Lib.hid hdw
  have H2 := Lib.hid hsl
  clear hdw hsl
  go_loopw [4, 5, 16] (fun _ _ i wr => ∃ k : Nat, i = .int .i64 (k : Int) ∧ k ≤ n ∧ Cr W0 B bs bw st u xs k wr) (fun _ _ i _ => n - (RowKit.intOf i).toNat)
  case atStart => exact ⟨0, rfl, Nat.zero_le _, H1.out, Kp.refl _ _, H2.out⟩
  case round =>
    obtain ⟨k, rfl, hkn, hcr⟩ := hrel
    by_cases hlt : k < n
    · have hkl : k < (order st).length := by rw [HN.out]; exact hlt
      obtain ⟨p, hp⟩ : ∃ p, (order st)[k]? = some p := ⟨_, List.getElem?_eq_getElem hkl⟩
      obtain ⟨c, t, hc, ht⟩ := order_mem.1 (List.mem_of_getElem? hp)
      have hbt : g ≠ bs ∧ g ≠ bw := by omega
      have hcg : wr.cell? ⟨g, k, none⟩ = some (.int .i64 (p : Int)) := by
        rw [← HC.out k p hp]
        exact World.cell?_of_block (w := W0) (hcr.kp.block g hgl (by simp; omega))
      have hcp : (crN st xs k)[p]? = some c := by rw [crN_next xs hp]; exact hc
      have hdr := hcr.dev.drew
      have hl1 := look_sure hdr hcp
      have hl2 := look_wait1 hdr hcp ht
      have hs := (hdr.ok p c hcp).1
      have htl := (hdr.ok p c hcp).2 t ht
      have hkp := kp_le xs k
      have C39 := kept_any (w := wr.drew) (hcr.sl.kept (X := []) (Kp.drew (Kp.refl _ _)) (fun g hg => by simp at hg)) k
      obtain ⟨K, eK⟩ : ∃ K, kp xs k = K := ⟨_, rfl⟩
      rw [eK] at C39 hkp
      have C38 := torn_any c.s t hs htl K hkp wr.drew
      have htn := tornL_len hs htl hkp
      obtain ⟨T, eT⟩ : ∃ T, tornL c.s t K = T := ⟨_, rfl⟩
      rw [eT] at C38 htn
      have C37 := fun w1 (hb : Below wr.drew.heap.size wr.drew w1) => settle_any (hdr.below hb) hcp htn
      have hS0 := hdr.two
      have hS1 := fun w1 (hb : Below wr.drew.heap.size wr.drew w1) => (hdr.below hb).two
      have hend : ∀ w1 w2, Below wr.drew.heap.size wr.drew w1 → Dv w2 B bs bw ((crN st xs k).set p ⟨T, none⟩) → Kp w1 w2 [bs, bw] → Cr W0 B bs bw st u xs (k + 1) w2 := fun w1 w2 hb hd hk2 => by
        have e : crN st xs (k + 1) = (crN st xs k).set p ⟨T, none⟩ := by
          rw [crN_succ xs hp hc, eK]
          unfold Cel.torn Cel.r
          rw [ht]
          show (crN st xs k).set p ⟨tornL c.s t K, none⟩ = _
          rw [eT]
        have hk12 : Kp wr w2 [bs, bw] := ((Kp.refl wr [bs, bw]).drew.trans (Kp.of_below hb [bs, bw]) (fun y hy => .inl hy)).trans hk2 (fun y hy => .inl hy)
        exact ⟨by rw [e]; exact hd, hcr.kp.trans hk12 (fun y hy => .inl hy), hcr.sl.step hcr.dev hk12⟩
      have K39 := Lib.hid C39
      have K38 := Lib.hid C38
      have K37 := Lib.hid C37
      have HS1 := Lib.hid hS1
      have HE := Lib.hid hend
      clear C39 C38 C37 hS1 hend hdr hcr hp hc ht hcp hs htl eK eT htn hkp hkl hbt
      go_wp2
      go_region_held3 (fun wx => wx.cell? ⟨B, 1, none⟩ = some (.map (some bs)) ∧ wx.cell? ⟨B, 2, none⟩ = some (.map (some bw)))
        (first | exact hS0 | exact HS1.out _ (by assumption) | exact Dv.two (by assumption))
        (first
          | (go_at_call 45; refine (K39.out).mono ?_; rintro e w1 ⟨rfl, rfl⟩)
          | (go_at_call 44; refine (K38.out).mono ?_; rintro e w1 ⟨rfl, hb1⟩)
          | (go_at_call 32; refine (K37.out _ (by assumption)).mono ?_; rintro e w2 ⟨rfl, -, hd2, hk2⟩))
      all_goals
        have hcr2 := Lib.hid (HE.out _ _ hb1 hd2 hk2)
        clear hb1 hd2 hk2 hl1 hl2 hS0
        go_wp2
        go_roundw
        case rel => exact ⟨k + 1, rfl, by omega, hcr2.out⟩
        case measure => simp [RowKit.intOf]; omega
    · obtain rfl : k = n := by omega
      have HR := Lib.hid hcr
      clear hcr
      go_wp2
      go_end0
      have hcr := HR.out
      refine ⟨rfl, ?_, hKB.trans hcr.kp (fun y hy => .inl hy)⟩
      have := hcr.dev
      rw [← HN.out] at this
      exact this
theorem order_nil {st : List Cel} (xs : List Int) (h : order st = []) : crash st xs = st := by unfold crash; rw [h]; rfl
theorem crash_yes {w : World} {B bs bw : Nat} {st : List Cel} (h : Dv w B bs bw st) {u : Value} {xs : List Int} (hu : Sl w u xs) : Calls Tryz.prog 21 #[.pointer (some ⟨B, 0, none⟩), u] w
    fun e w' => e = .returned (.tuple #[]) ∧ Dv w' B bs bw (crash st xs) ∧ Kp w w' [bs, bw] := by
  by_cases h0 : order st = []
  · refine (crash_none h h0 u).mono ?_
    rintro e w' ⟨rfl, hb⟩
    rw [order_nil xs h0]
    exact ⟨rfl, h.below hb, Kp.of_below hb _⟩
  · exact crash_some h h0 hu
end Go.Proofs.YtlidieffaaicaaaGreat.Fu
