/- others: the sectors that are not used. Conditions: none. -/
import Derived.Test.YtnpjbddannkgfaaAlJ
namespace Go.Proofs.Ytnpjbddannkgfaa
open Go.ChangeShapes Go.WideShapes Go.RowKit Go.Maps Go.Spans Go.Alloc
set_option maxRecDepth 100000
/-- Where the gap ahead of the k-th span begins. -/
def edge (xs : List Sp) : Nat → Nat
  | 0 => 0
  | k + 1 => ((xs[k]?).map en).getD 0
theorem edge_succ {xs : List Sp} {k : Nat} {e : Sp} (h : xs[k]? = some e) : edge xs (k + 1) = en e := by simp [edge, h]
theorem edge_ahead {n : Nat} {xs : List Sp} (h : Ok n xs) {i k : Nat} (hik : i < k) (hk : k ≤ xs.length) {e : Sp} (he : xs[i]? = some e) : en e ≤ edge xs k := by
  obtain ⟨k, rfl⟩ : ∃ m, k = m + 1 := ⟨k - 1, by omega⟩
  have hx : xs[k]? = some (xs[k]'(by omega)) := List.getElem?_eq_getElem _
  rw [edge_succ hx]
  by_cases e1 : i = k
  · subst e1
    rw [hx] at he
    injection he with he
    rw [he]
    exact Nat.le_refl _
  · have hp := List.pairwise_iff_getElem.1 h.gap i k (by omega) (by omega) (by omega)
    have : xs[i]'(by omega) = e := (List.getElem?_eq_some_iff.1 he).2
    rw [this] at hp
    have : (xs[k]'(by omega)).1 ≤ en (xs[k]'(by omega)) := by simp [en]
    omega
theorem edge_le {n : Nat} {xs : List Sp} (h : Ok n xs) {k : Nat} (hk : k ≤ xs.length) : edge xs k ≤ n := by
  cases k with
  | zero => exact Nat.zero_le _
  | succ k =>
    have hx : xs[k]? = some (xs[k]'(by omega)) := List.getElem?_eq_getElem _
    rw [edge_succ hx]
    exact h.hi _ (List.getElem_mem _)
theorem edge_at {n : Nat} {xs : List Sp} (h : Ok n xs) {k : Nat} {e : Sp} (he : xs[k]? = some e) : edge xs k ≤ e.1 := by
  have hlt := (List.getElem?_eq_some_iff.1 he).1
  cases k with
  | zero => exact Nat.zero_le _
  | succ k =>
    have hx : xs[k]? = some (xs[k]'(by omega)) := List.getElem?_eq_getElem _
    rw [edge_succ hx]
    have hp := List.pairwise_iff_getElem.1 h.gap k (k + 1) (by omega) hlt (by omega)
    rw [(List.getElem?_eq_some_iff.1 he).2] at hp
    omega
theorem edge_gap {n : Nat} {xs : List Sp} (h : Ok n xs) {k : Nat} (hk : k ≤ xs.length) {j : Nat} (h1 : edge xs k ≤ j) (h2 : ∀ e, xs[k]? = some e → j < e.1) : hasB xs j = false := by
  refine hasB_false.2 fun e he hej => ?_
  obtain ⟨i, hi, e1⟩ := List.getElem_of_mem he
  have hx : xs[i]? = some e := by rw [← e1]; exact List.getElem?_eq_getElem _
  rcases Nat.lt_trichotomy i k with c | c | c
  · have := edge_ahead h c hk hx; omega
  · subst c; have := h2 e hx; omega
  · have hk2 : k < xs.length := by omega
    have := h2 _ (List.getElem?_eq_getElem hk2)
    have hp := List.pairwise_iff_getElem.1 h.gap k i hk2 hi c
    rw [e1] at hp
    have : (xs[k]).1 ≤ en (xs[k]) := by simp [en]
    omega
/-- What the sectors ahead of an edge are. -/
theorem edge_step {n : Nat} {xs ys : List Sp} (h : Ok n xs) (hy : Ok n ys) {k : Nat} {e : Sp} (he : xs[k]? = some e) (hys : ∀ j, hasB ys j = (decide (j < edge xs k) && !hasB xs j)) :
    ∀ j, hasB (fillX n ys (edge xs k : Nat) (e.1 : Nat)) j = (decide (j < edge xs (k + 1)) && !hasB xs j) := by
  have hk : k ≤ xs.length := Nat.le_of_lt (List.getElem?_eq_some_iff.1 he).1
  have hat := edge_at h he
  have hen := h.hi e (List.mem_of_getElem? he)
  have hle : e.1 ≤ en e := by simp [en]
  obtain ⟨_, f2⟩ := fill_gap hy (f := edge xs k) (t := e.1) hat (by omega) (fun j h1 _ => by
    rw [hys j]
    have : decide (j < edge xs k) = false := decide_eq_false (by omega)
    rw [this]
    rfl)
  intro j
  rw [f2 j, hys j, edge_succ he]
  by_cases c1 : j < edge xs k
  · simp [c1, show j < en e by omega, show ¬ (edge xs k ≤ j) by omega]
  · by_cases c2 : j < e.1
    · have := edge_gap h hk (j := j) (by omega) (fun e' he' => by rw [he] at he'; injection he' with he'; rw [← he']; exact c2)
      simp [c1, c2, this, show j < en e by omega, show edge xs k ≤ j by omega]
    · by_cases c3 : j < en e
      · have : hasB xs j = true := hasB_iff.2 ⟨e, List.mem_of_getElem? he, by omega, c3⟩
        simp [c1, c2, c3, this]
      · simp [c1, c2, c3]
theorem edge_last {n : Nat} {xs ys : List Sp} (h : Ok n xs) (hy : Ok n ys) (hys : ∀ j, hasB ys j = (decide (j < edge xs xs.length) && !hasB xs j)) :
    ∀ j, hasB (fillX n ys (edge xs xs.length : Nat) (n : Nat)) j = (decide (j < n) && !hasB xs j) := by
  have hat := edge_le h (Nat.le_refl xs.length)
  obtain ⟨_, f2⟩ := fill_gap hy (f := edge xs xs.length) (t := n) hat (Nat.le_refl _) (fun j h1 _ => by
    rw [hys j]
    have : decide (j < edge xs xs.length) = false := decide_eq_false (by omega)
    rw [this]
    rfl)
  intro j
  rw [f2 j, hys j]
  by_cases c1 : j < edge xs xs.length
  · simp [c1, show j < n by omega, show ¬ (edge xs xs.length ≤ j) by omega]
  · have := edge_gap h (Nat.le_refl _) (j := j) (by omega) (fun e' he' => by simp at he')
    simp [c1, this, show edge xs xs.length ≤ j by omega]
set_option maxHeartbeats 2000000 in
theorem others_c {w : World} {S : Nat} {v : Value} {n : Nat} {xs : List Sp} (h : St w S v n xs) : Calls Try.prog 39 #[.pointer (some ⟨S, 0, none⟩), .int .i64 (n : Nat)] w fun e w' =>
    ∃ S' v' ys, e = .returned (.pointer (some ⟨S', 0, none⟩)) ∧ St w' S' v' n ys ∧ w.heap.size ≤ S' ∧ (∀ g ∈ ob v', w.heap.size ≤ g) ∧ Below w.heap.size w w' ∧ ∀ j, hasB ys j = (decide (j < n) && !hasB xs j) := by
  have hn1 := h.lo
  have hn2 := h.hi
  have hok := h.ok
  have hN := new_c w (n : Nat)
  obtain ⟨w1, e1⟩ : ∃ w1, w.alloc (.cells #[.int .i64 (n : Nat), .slice none 0 0] 99) = w1 := ⟨_, rfl⟩
  have b1 : Below w.heap.size w w1 := by rw [← e1]; exact below_alloc (Below.refl _ w) _
  have s1 : St w1 w.heap.size (.slice none 0 0) n [] := ⟨by rw [← e1]; exact Is.new w 99 _, Rw.nil _ _, ok_nil n, by omega, by omega⟩
  have hN2 : Calls Try.prog 31 #[.int .i64 (n : Nat)] w fun e w' => e = .returned (.pointer (some ⟨w.heap.size, 0, none⟩)) ∧ w1 = w' := by
    refine hN.mono ?_
    rintro e w' (⟨_, _, rfl, rfl⟩ | ⟨hc, _⟩)
    · exact ⟨rfl, e1.symm⟩
    · omega
  have hL : Calls Try.prog 63 #[.pointer (some ⟨S, 0, none⟩)] w1 fun e w' => ∃ P C, e = .returned (.slice P xs.length C) ∧ Rw w' w1.heap.size (.slice P xs.length C) xs ∧ Below w1.heap.size w1 w' := by
    refine (list_c (h.below b1)).mono ?_
    rintro e w' ⟨v', rfl, hr, _, hb⟩
    obtain ⟨P, C, rfl⟩ := own_shape hr
    exact ⟨P, C, rfl, hr, hb⟩
  obtain ⟨m, hm⟩ : ∃ m, xs.length = m := ⟨_, rfl⟩
  have hm4 : m ≤ 4096 := by have := len_le hok; omega
  have hlt1 : w.heap.size < w1.heap.size := s1.one.lt
  rw [hm] at hL
  have HL := Lib.hid hL
  have HS := Lib.hid s1
  have HB := Lib.hid b1
  have HK := Lib.hid hok
  have HM := Lib.hid hm
  have HL1 := Lib.hid hlt1
  clear hL hN e1 s1 b1 hok hm h hlt1
  go_enter Try.func39, Try.ntmps39
  go_wp2_with (first
    | (go_at_call 31; refine hN2.mono ?_; rintro e w' ⟨rfl, rfl⟩)
    | (go_at_call 63; refine HL.out.mono ?_; rintro e w2 ⟨P, C, rfl, hrow, hb2⟩; have HR := Lib.hid hrow; have HB2 := Lib.hid hb2; clear hrow hb2))
  go_loopw [6, 8, 14] (fun a _ i wr => ∃ (k : Nat) (v' : Value) (ys : List Sp), i = .int .i64 (k : Int) ∧ k ≤ m ∧ a = .int .i64 (edge xs k : Nat) ∧ To w2 wr w.heap.size (.slice none 0 0) v' n ys ∧ ∀ j, hasB ys j = (decide (j < edge xs k) && !hasB xs j)) (fun _ _ i _ => m - (RowKit.intOf i).toNat)
  case atStart => exact ⟨0, _, [], rfl, Nat.zero_le _, rfl, To.stays (HS.out.below HB2.out) (Below.refl _ _), fun j => by simp [hasB, edge]⟩
  case round =>
    obtain ⟨k, v1, ys, rfl, hkn, rfl, ht, hys⟩ := hrel
    by_cases hlt2 : k < m
    · have hxk : xs[k]? = some (xs[k]'(by rw [HM.out]; exact hlt2)) := List.getElem?_eq_getElem _
      obtain ⟨x, ex⟩ : ∃ x, xs[k]'(by rw [HM.out]; exact hlt2) = x := ⟨_, rfl⟩
      rw [ex] at hxk
      have hrow : Rw wr w1.heap.size (.slice P m C) xs := HR.out.kept ht.kp (fun g hg hm => by
        have h1 := (HR.out.lt g hg).1
        have h2 := HL1.out
        simp [ob, Value.ownBlock] at hm
        omega)
      obtain ⟨g, cur, rfl, hi, h7⟩ : ∃ g cur, P = some ⟨g, 0, none⟩ ∧ Is wr g 101 cur ∧ cur.toList.take (xs.length * 2) = ecs xs := by
        rcases hrow.cases with ⟨_, h0⟩ | ⟨g, cap, cur, e, _, hi, _, _, _, h7⟩
        · rw [h0] at hxk; cases hxk
        · injection e with e _ _
          exact ⟨g, cur, e, hi, h7⟩
      obtain ⟨d0, d1⟩ := row_cells hi h7 k (by rw [HM.out]; exact hlt2)
      rw [ex] at d0 d1
      obtain ⟨xa, xn⟩ := x
      simp only at d0 d1
      have hb3 : Below wr.heap.size wr (wr.alloc (.cells #[.int .i64 (xa : Nat), .int .i64 (xn : Nat)] 101)) := below_alloc (Below.refl _ _) _
      have st3 := ht.st.below hb3
      have ib := Is.new wr 101 #[.int .i64 (xa : Nat), .int .i64 (xn : Nat)]
      obtain ⟨w3, e3⟩ : ∃ w3, wr.alloc (.cells #[.int .i64 (xa : Nat), .int .i64 (xn : Nat)] 101) = w3 := ⟨_, rfl⟩
      rw [e3] at hb3 st3 ib
      have c0 := ib.cell 0
      have c1 := ib.cell 1
      simp at c0 c1
      have hxe := HK.out.hi _ (List.mem_of_getElem? hxk)
      simp only [en] at hxe
      have hwr : IntKind.i64.wrap ((xa : Int) + (xn : Int)) = ((xa + xn : Nat) : Int) := by rw [wrap_small (by omega) (by omega)]; omega
      have hF := Lib.hid (fill_c st3 (edge xs k : Nat) (xa : Nat))
      have hbox : ∀ w4 v4 zs', To w3 w4 w.heap.size v1 v4 n zs' → w4.cell? ⟨wr.heap.size, 0, none⟩ = some (.int .i64 (xa : Nat)) ∧ w4.cell? ⟨wr.heap.size, 1, none⟩ = some (.int .i64 (xn : Nat)) := by
        intro w4 v4 zs' hto
        have i4 := hto.kp.is ib (fun hm => by
          rcases List.mem_cons.1 hm with e | hm
          · have := ht.st.one.lt; omega
          · have := (ht.st.row.lt _ hm).2; omega)
        have a0 := i4.cell 0
        have a1 := i4.cell 1
        simp at a0 a1
        exact ⟨a0, a1⟩
      have hstep := edge_step HK.out ht.st.ok hxk hys
      have hend := edge_succ hxk
      simp only [en] at hend
      simp only at hstep
      have HT := Lib.hid ht
      have HBX := Lib.hid hbox
      have HST := Lib.hid hstep
      have HEN := Lib.hid hend
      have HB3 := Lib.hid hb3
      clear ht hys hxk ex hi h7 hrow ib hbox hstep hend hb3 st3 hxe
      generalize edge xs k = ek at *
      go_wp2_with (go_at_call 32; refine hF.out.mono ?_; rintro e w4 ⟨rfl, v4, hto⟩; (obtain ⟨a0, a1⟩ := HBX.out _ _ _ hto); have HTo := Lib.hid hto; clear hto)
      go_roundw
      case rel => exact ⟨k + 1, v4, _, by go_num, by omega, by rw [HEN.out]; simp, (HT.out.trans ⟨HT.out.st.below HB3.out, Kp.of_below HB3.out _, fun g hg => .inl hg⟩).trans HTo.out, HST.out⟩
      case measure => simp [RowKit.intOf]; omega
    · obtain rfl : k = m := by omega
      have hlast := edge_last HK.out ht.st.ok (by rw [HM.out]; exact hys)
      rw [HM.out] at hlast
      have hF := Lib.hid (fill_c ht.st (edge xs k : Nat) (n : Nat))
      have HT := Lib.hid ht
      have HY := Lib.hid hlast
      clear ht hys hlast
      generalize edge xs k = ek at *
      go_wp2_with (go_at_call 32; refine hF.out.mono ?_; rintro e w4 ⟨rfl, v4, hto⟩; have HTo := Lib.hid hto; clear hto)
      go_ret
      have hfin := HT.out.trans HTo.out
      have hb : Below w.heap.size w w4 := by
        have hb2 : Below w.heap.size w w2 := HB.out.trans (HB2.out.mono (Nat.le_of_lt HL1.out))
        refine hb2.trans (hfin.kp.below (by have := hb2.size; omega) (fun x hx => ?_))
        simp [ob, Value.ownBlock] at hx
        omega
      refine ⟨_, v4, _, rfl, hfin.st, Nat.le_refl _, fun g hg => ?_, hb, HY.out⟩
      rcases hfin.lies g hg with e | e
      · cases e
      · have := HB2.out.size; have := HL1.out; omega
end Go.Proofs.Ytnpjbddannkgfaa
