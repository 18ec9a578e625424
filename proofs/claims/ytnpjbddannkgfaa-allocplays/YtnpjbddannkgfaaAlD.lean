/- letGo: the sectors of a chain wait, or are free. Conditions: none. -/
import Derived.Test.YtnpjbddannkgfaaAlC
namespace Go.Proofs.Ytnpjbddannkgfaa
open Go.ChangeShapes Go.WideShapes Go.RowKit Go.Maps Go.Spans Go.Alloc
set_option maxRecDepth 100000
/-- An allocator has become another one. -/
structure Ta (w w' : World) (A S : Nat) (v v' : Value) (bc bw n : Nat) (ys : List Sp) (M : List Ch) (W' : List Nat) : Prop where
  am : Am w' A S v' bc bw n ys M W'
  kp : Kp w w' (bl S v bc bw)
  lies : ∀ g ∈ ob v', g ∈ ob v ∨ w.heap.size ≤ g
section
variable {w w' w2 : World} {A S : Nat} {v v' v2 : Value} {bc bw n : Nat} {xs ys zs' : List Sp} {L M N' : List Ch} {W W' W2 : List Nat}
theorem Ta.refl (h : Am w A S v bc bw n xs L W) : Ta w w A S v v bc bw n xs L W := ⟨h, Kp.refl _ _, fun _ hg => .inl hg⟩
theorem bl_trans (h : ∀ g ∈ ob v', g ∈ ob v ∨ w.heap.size ≤ g) : ∀ y ∈ bl S v' bc bw, y ∈ bl S v bc bw ∨ w.heap.size ≤ y := by
  intro y hy
  simp only [bl, List.mem_cons] at hy ⊢
  rcases hy with rfl | rfl | rfl | hy
  · simp
  · simp
  · simp
  · rcases h y hy with e | e
    · simp [e]
    · exact .inr e
theorem Ta.trans (h : Ta w w' A S v v' bc bw n ys M W') (k : Ta w' w2 A S v' v2 bc bw n zs' N' W2) : Ta w w2 A S v v2 bc bw n zs' N' W2 :=
  ⟨k.am, h.kp.trans k.kp (bl_trans h.lies), fun g hg => by
    rcases k.lies g hg with e | e
    · exact h.lies g e
    · have := h.kp.size; exact .inr (by omega)⟩
theorem Ta.pre (hb : Below w.heap.size w w') (k : Ta w' w2 A S v v2 bc bw n zs' N' W2) : Ta w w2 A S v v2 bc bw n zs' N' W2 :=
  ⟨k.am, (Kp.of_below hb (bl S v bc bw)).trans k.kp (fun y hy => .inl hy), fun g hg => by
    rcases k.lies g hg with e | e
    · exact .inl e
    · have := hb.size; exact .inr (by omega)⟩
/-- One that is not there is given. -/
theorem give_new {n : Nat} {ys : List Sp} (h : Ok n ys) {a : Nat} (ha : a < n) (hn : hasB ys a = false) :
    fillE n ys (a : Nat) ((a : Nat) + 1) = 0 ∧ Ok n (fillX n ys (a : Nat) ((a : Nat) + 1)) ∧ ∀ j, hasB (fillX n ys (a : Nat) ((a : Nat) + 1)) j = (hasB ys j || decide (j = a)) := by
  have e1 : ((a : Nat) : Int).toNat = a := by omega
  have e2 : (((a : Nat) : Int) + 1).toNat = a + 1 := by omega
  have hb : busy ys a (a + 1) = false := busy_false.2 fun k h1 h2 => by
    have : k = a := by omega
    rw [this]
    exact hn
  have hf : ∀ e, ys[bh ys a]? = some e → a + 1 ≤ e.1 := (free_iff h (by omega)).1 fun k h1 h2 => by
    have : k = a := by omega
    rw [this]
    exact hn
  have eX : fillX n ys (a : Nat) ((a : Nat) + 1) = fillL ys a (a + 1) := by
    unfold fillX
    rw [e1, e2, hb, if_neg]
    rintro ((h | h | h) | h | h)
    · omega
    · omega
    · omega
    · omega
    · cases h
  have eE : fillE n ys (a : Nat) ((a : Nat) + 1) = 0 := by
    unfold fillE
    rw [e1, e2, hb, if_neg (by omega), if_neg (by omega)]
    rfl
  obtain ⟨f1, f2⟩ := fill_spec h (show a < a + 1 by omega) (by omega) hf
  refine ⟨eE, by rw [eX]; exact f1, fun j => ?_⟩
  rw [eX, f2 j]
  congr 1
  rw [Bool.eq_iff_iff]
  simp
  omega
set_option maxHeartbeats 1000000 in
theorem letGo_sure (h : Am w A S v bc bw n xs L W) {P : Option Addr} {N C : Nat} {r : Int} {l : List Nat} (hrow : In w (.slice P N C) l) (hnd : (l ++ W).Nodup) (hlt : ∀ k ∈ l, k ≤ 4096) (hlen : l.length + W.length ≤ 8192) :
    Calls Try.prog 55 #[.pointer (some ⟨A, 0, none⟩), .agg #[.slice P N C, .int .i64 r, .bool true]] w fun e w' => e = .returned (.tuple #[]) ∧ Ta w w' A S v v bc bw n xs L (l.reverse ++ W) := by
  have hb1 := below_alloc (Below.refl _ w) (.cells #[.slice P N C, .int .i64 r, .bool true] 78)
  have i1 := Is.new w 78 #[.slice P N C, .int .i64 r, .bool true]
  have h1 := h.below hb1
  have hrow1 := hrow.kept (Kp.of_below hb1 []) (noI_nil w)
  obtain ⟨w1, e1⟩ : ∃ w1, w.alloc (.cells #[.slice P N C, .int .i64 r, .bool true] 78) = w1 := ⟨_, rfl⟩
  rw [e1] at hb1 i1 h1 hrow1
  obtain ⟨m, hm⟩ : ∃ m, l.length = m := ⟨_, rfl⟩
  have hN : N = m := by
    rcases hrow.2 with ⟨h, h0⟩ | ⟨g, cap, cur, h, _⟩ <;> injection h with _ h _ <;> omega
  subst hN
  have c0 := i1.cell 0
  simp at c0
  have hN8 : N ≤ 8192 := by omega
  have HM := Lib.hid hm
  have HR := Lib.hid hrow1
  have HI := Lib.hid i1
  have HA := Lib.hid h1
  have HB := Lib.hid hb1
  clear h hrow hb1 i1 h1 hrow1 hm
  go_enter Try.func55, Try.ntmps55
  go_wp2
  go_loopw [5, 9] (fun _ i wr => ∃ k : Nat, i = .int .i64 (k : Int) ∧ k ≤ N ∧ Ta w1 wr A S v v bc bw n xs L ((l.take k).reverse ++ W)) (fun _ i _ => N - (RowKit.intOf i).toNat)
  case atStart => exact ⟨0, rfl, Nat.zero_le _, Ta.refl HA.out⟩
  case round =>
    obtain ⟨k, rfl, hkn, ht⟩ := hrel
    have i2 := ht.kp.is HI.out (HA.out.off HI.out (by decide) (by decide))
    have d2 := i2.cell 2
    simp at d2
    have a2 := ht.am.one.cell 2
    simp at a2
    by_cases hlt2 : k < N
    · have hx : l[k]? = some (l[k]'(by rw [HM.out]; exact hlt2)) := List.getElem?_eq_getElem _
      obtain ⟨x, ex⟩ : ∃ x, l[k]'(by rw [HM.out]; exact hlt2) = x := ⟨_, rfl⟩
      rw [ex] at hx
      obtain ⟨p', c', ep, hcell⟩ := (HR.out.kept ht.kp HA.out.noI).sl
      obtain ⟨ad, rfl, hc⟩ := hcell k (x : Nat) (by simp [nz, hx])
      injection ep with ep q1 q2
      clear q1 q2
      subst ep
      have hnd2 : ((l.take k).reverse ++ W).Nodup := by
        have hsub : (l.take k ++ W).Nodup := List.Nodup.sublist (List.Sublist.append_right (List.take_sublist _ _) _) hnd
        exact (List.Perm.append_right W (List.reverse_perm (l.take k))).nodup_iff.2 hsub
      obtain ⟨w3, hrun, hA3, hg⟩ := up_wt ht.am hnd2 (by simp; omega) (hlt x (List.mem_of_getElem? hx))
      have kk : Kp wr w3 (bl S v bc bw) := (Kp.of_grown hg).more (by simp [bl])
      have hT := Lib.hid (ht.trans ⟨hA3, kk, fun _ hg => .inl hg⟩)
      have eR : x :: ((l.take k).reverse ++ W) = (l.take (k + 1)).reverse ++ W := by rw [List.take_add_one, hx]; simp
      rw [eR] at hT
      clear ht i2 hA3 hg kk eR hnd2 hx ex hcell
      go_wp2
      go_roundw
      case rel => exact ⟨k + 1, by go_num, by omega, hT.out⟩
      case measure => simp [RowKit.intOf]; omega
    · obtain rfl : k = N := by omega
      have eR : l.take k = l := by rw [← HM.out, List.take_length]
      rw [eR] at ht
      have HT := Lib.hid ht
      clear ht i2 eR
      go_wp2
      go_end0
      exact ⟨rfl, Ta.pre HB.out HT.out⟩
set_option maxHeartbeats 1000000 in
theorem letGo_free (h : Am w A S v bc bw n xs L W) {P : Option Addr} {N C : Nat} {r : Int} {l : List Nat} (hrow : In w (.slice P N C) l) (hnd : l.Nodup) (hlt : ∀ k ∈ l, k < n) (hx : ∀ k ∈ l, hasB xs k = false) (hlen : l.length ≤ 8192) :
    Calls Try.prog 55 #[.pointer (some ⟨A, 0, none⟩), .agg #[.slice P N C, .int .i64 r, .bool false]] w fun e w' => e = .returned (.tuple #[]) ∧ ∃ v' ys, Ta w w' A S v v' bc bw n ys L W ∧ ∀ j, hasB ys j = (hasB xs j || decide (j ∈ l)) := by
  have hb1 := below_alloc (Below.refl _ w) (.cells #[.slice P N C, .int .i64 r, .bool false] 78)
  have i1 := Is.new w 78 #[.slice P N C, .int .i64 r, .bool false]
  have h1 := h.below hb1
  have hrow1 := hrow.kept (Kp.of_below hb1 []) (noI_nil w)
  obtain ⟨w1, e1⟩ : ∃ w1, w.alloc (.cells #[.slice P N C, .int .i64 r, .bool false] 78) = w1 := ⟨_, rfl⟩
  rw [e1] at hb1 i1 h1 hrow1
  obtain ⟨m, hm⟩ : ∃ m, l.length = m := ⟨_, rfl⟩
  have hN : N = m := by
    rcases hrow.2 with ⟨h, h0⟩ | ⟨g, cap, cur, h, _⟩ <;> injection h with _ h _ <;> omega
  subst hN
  have c0 := i1.cell 0
  simp at c0
  have hn4 := h.set.hi
  have hN8 : N ≤ 8192 := by omega
  have HM := Lib.hid hm
  have HR := Lib.hid hrow1
  have HI := Lib.hid i1
  have HA := Lib.hid h1
  have HB := Lib.hid hb1
  have HN4 := Lib.hid hn4
  clear h hrow hb1 i1 h1 hrow1 hm hn4
  go_enter Try.func55, Try.ntmps55
  go_wp2
  go_loopw [5, 9] (fun _ i wr => ∃ (k : Nat) (v' : Value) (ys : List Sp), i = .int .i64 (k : Int) ∧ k ≤ N ∧ Ta w1 wr A S v v' bc bw n ys L W ∧ ∀ j, hasB ys j = (hasB xs j || decide (j ∈ l.take k))) (fun _ i _ => N - (RowKit.intOf i).toNat)
  case atStart => exact ⟨0, v, xs, rfl, Nat.zero_le _, Ta.refl HA.out, fun j => by simp⟩
  case round =>
    obtain ⟨k, v1, ys, rfl, hkn, ht, hys⟩ := hrel
    have i2 := ht.kp.is HI.out (HA.out.off HI.out (by decide) (by decide))
    have d2 := i2.cell 2
    simp at d2
    have a2 := ht.am.one.cell 0
    simp at a2
    by_cases hlt2 : k < N
    · have hxk : l[k]? = some (l[k]'(by rw [HM.out]; exact hlt2)) := List.getElem?_eq_getElem _
      obtain ⟨x, ex⟩ : ∃ x, l[k]'(by rw [HM.out]; exact hlt2) = x := ⟨_, rfl⟩
      rw [ex] at hxk
      obtain ⟨p', c', ep, hcell⟩ := (HR.out.kept ht.kp HA.out.noI).sl
      obtain ⟨ad, rfl, hc⟩ := hcell k (x : Nat) (by simp [nz, hxk])
      injection ep with ep q1 q2
      clear q1 q2
      subst ep
      have hmem := List.mem_of_getElem? hxk
      have hnew : hasB ys x = false := by
        rw [hys x, hx x hmem]
        have : x ∉ l.take k := by
          intro hm
          obtain ⟨i, hi, e⟩ := List.getElem_of_mem hm
          rw [List.getElem_take] at e
          have hk2 : k < l.length := by rw [HM.out]; exact hlt2
          have hil : i < l.length := by rw [List.length_take] at hi; omega
          have hik : i < k := by rw [List.length_take] at hi; omega
          have := (List.nodup_iff_pairwise_ne.1 hnd)
          have hp := List.pairwise_iff_getElem.1 this i k hil hk2 hik
          exact hp (by rw [e, ex])
        simp [this]
      obtain ⟨_, f2, f3⟩ := give_new ht.am.set.ok (hlt x hmem) hnew
      have hx4 : x < 4096 := by have := hlt x hmem; have := HN4.out; omega
      have hG := Lib.hid (give_c ht.am.set (x : Nat) (by omega) (by omega))
      have hys2 : ∀ j, hasB (fillX n ys (x : Nat) ((x : Nat) + 1)) j = (hasB xs j || decide (j ∈ l.take (k + 1))) := by
        intro j
        rw [f3 j, hys j, List.take_add_one, hxk]
        simp [Bool.or_assoc]
      have HT := Lib.hid ht
      have HY := Lib.hid hys2
      clear ht i2 hnew f2 f3 hys hys2 hxk ex hcell hmem
      go_wp2_with (go_at_call 54; refine hG.out.mono ?_; rintro e w3 ⟨rfl, v3, hto⟩; have HTo := Lib.hid hto; clear hto)
      go_roundw
      case rel =>
        refine ⟨k + 1, v3, _, by go_num, by omega, HT.out.trans ⟨HT.out.am.to HTo.out, HTo.out.kp.more ?_, HTo.out.lies⟩, HY.out⟩
        intro g hg
        simp only [bl, List.mem_cons] at hg ⊢
        rcases hg with rfl | hg
        · simp
        · simp [hg]
      case measure => simp [RowKit.intOf]; omega
    · obtain rfl : k = N := by omega
      have eR : l.take k = l := by rw [← HM.out, List.take_length]
      rw [eR] at hys
      have HT := Lib.hid ht
      have HY := Lib.hid hys
      clear ht i2 eR hys
      go_wp2
      go_end0
      exact ⟨rfl, v1, ys, Ta.pre HB.out HT.out, HY.out⟩
end
end Go.Proofs.Ytnpjbddannkgfaa
