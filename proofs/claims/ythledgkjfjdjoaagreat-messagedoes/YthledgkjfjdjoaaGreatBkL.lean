/- What a patch makes of a text, by the document. Conditions: lengths below 2^40. -/
import Derived.Test.YthledgkjfjdjoaaGreatBkK
import Derived.Test.YthledgkjfjdjoaaGreatBkJ
namespace Go.Proofs.YthledgkjfjdjoaaGreat.Bk
open Go.ChangeShapes Go.WideShapes Go.RowKit Go.Codec Go.Blk
set_option maxRecDepth 100000
set_option linter.unusedSimpArgs false
set_option linter.unusedVariables false
/-- A patch's cell, and a row of 64 bytes behind it. -/
structure A2 (w : World) (box : Array Value) (l : List UInt8) (wx : World) : Prop where
  below : Below w.heap.size w wx
  box : Is wx w.heap.size 82 box
  row : Is wx (w.heap.size + 1) 126 (cellsOf l).toArray
  len : l.length = 64
section
variable {w wx wy : World} {box : Array Value} {l : List UInt8}
theorem A2.new (w : World) (box : Array Value) : A2 w box (List.replicate 64 0) ((w.alloc (.cells box 82)).alloc (.cells (cellsOf (List.replicate 64 0)).toArray 126)) := by
  have e : (w.alloc (.cells box 82)).heap.size = w.heap.size + 1 := by simp
  refine ⟨below_alloc (below_alloc (Below.refl _ _) _) _, (Is.new _ _ _).alloc _, ?_, by simp⟩
  have := Is.new (w.alloc (.cells box 82)) 126 (cellsOf (List.replicate 64 0)).toArray
  rwa [e] at this
theorem A2.later (h : A2 w box l wx) (hb : Below wx.heap.size wx wy) : A2 w box l wy :=
  ⟨h.below.trans (hb.mono h.below.size), h.box.kept (grow_below hb none) (by simp), h.row.kept (grow_below hb none) (by simp), h.len⟩
theorem A2.drew (h : A2 w box l wx) : A2 w box l wx.drew := ⟨h.below.drew, h.box, h.row, h.len⟩
theorem A2.put (h : A2 w box l wx) (k : Nat) (b : UInt8) : A2 w box (l.set k b) (wx.setCell ⟨w.heap.size + 1, k, none⟩ (.int .u8 b.toNat)) := by
  refine ⟨h.below.setCell (by simp) _, h.box.other (by simp) _, ?_, by rw [List.length_set]; exact h.len⟩
  have h1 := h.row.put k (.int .u8 b.toNat)
  have e : (cellsOf l).toArray.setIfInBounds k (.int .u8 b.toNat) = (cellsOf (l.set k b)).toArray := by simp [cellsOf, List.map_set]
  rwa [e] at h1
theorem A2.cells {a b c d : Value} (h : A2 w #[a, b, c, d] l wx) : wx.cell? ⟨w.heap.size, 0, none⟩ = some a ∧ wx.cell? ⟨w.heap.size, 1, none⟩ = some b ∧ wx.cell? ⟨w.heap.size, 2, none⟩ = some c ∧ wx.cell? ⟨w.heap.size, 3, none⟩ = some d :=
  ⟨h.box.cell 0, h.box.cell 1, h.box.cell 2, h.box.cell 3⟩
theorem A2.at (h : A2 w box l wx) (k : Nat) (hk : k < 64) : (∃ b : UInt8, wx.cell? ⟨w.heap.size + 1, k, none⟩ = some (.int .u8 b.toNat)) ∧ wx.frozen? ⟨w.heap.size + 1, k, none⟩ = false := by
  refine ⟨⟨byte l k, ?_⟩, h.row.frozen k⟩
  rw [h.row.cell k, byte_in (by rw [h.len]; exact hk)]
  simp [cellsOf, h.len, hk]
theorem A2.text (h : A2 w box l wx) : (convert 66 9 (.slice (some ⟨w.heap.size + 1, 0, none⟩) 64 64)).run Tryz.prog wx = .ok (.string (bs l)) wx := by
  have hl := h.len
  have h2 := run_convert_bytes_back (P := Tryz.prog) wx 66 9 5 ⟨w.heap.size + 1, 0, none⟩ l.length l Tryz.underlying66 Tryz.underlying5 Tryz.underlying9 (fun j hj => by
    have e : (⟨w.heap.size + 1, 0, none⟩ : Addr).add j = ⟨w.heap.size + 1, j, none⟩ := by unfold Addr.add; split <;> simp_all
    rw [e, h.row.cell j]
    simp [cellsOf, hj])
  rw [hl] at h2
  exact h2
end
theorem byte_set (l : List UInt8) (k : Nat) (b : UInt8) (hk : k < l.length) (j : Nat) : byte (l.set k b) j = if j = k then b else byte l j := by
  unfold byte
  rw [List.getElem?_set]
  by_cases h : k = j
  · subst h; simp [hk]
  · rw [if_neg h, if_neg (Ne.symm h)]
set_option maxHeartbeats 4000000 in
theorem rapply_no (v s : ByteArray) (L : List UInt8) (c : Bool) (a n : Int) (w : World) (H : ∀ w, Calls Tryz.prog 84 #[.agg #[.bool c, .int .i64 a, .int .i64 n, .string s]] w fun e w' => e = .returned (.bool false) ∧ Below w.heap.size w w') (HT : ∀ m : List UInt8, m.length ≤ 1099511627776 → (∀ j, byte m j = if j < 64 then byte v.data.toList j else 0) → ∀ wx, Calls Tryz.prog 86 #[.string (bs m)] wx fun e w' => e = .returned (.string (bs L)) ∧ wx = w') :
    Calls Tryz.prog 51 #[.string v, .agg #[.bool c, .int .i64 a, .int .i64 n, .string s]] w fun e w' => e = .returned (.string (bs L)) ∧ Below w.heap.size w w' := by
  have HX := Lib.hid (A2.new w #[.bool c, .int .i64 a, .int .i64 n, .string s])
  have CH := Lib.hid H; have CT := Lib.hid HT; clear H HT
  go_enter Tryz.func51, Tryz.ntmps51
  go_wp2_with fail
  go_loopw [6] (fun i W => ∃ (k : Nat) (l : List UInt8), k ≤ 64 ∧ i = .int .i64 k ∧ A2 w #[.bool c, .int .i64 a, .int .i64 n, .string s] l W ∧ ∀ j, byte l j = if j < k then byte v.data.toList j else 0) (fun i _ => 64 - (intOf i).toNat)
  case atStart => exact ⟨0, _, by omega, rfl, HX.out, fun j => by rw [byte_replicate, if_neg (by omega)]⟩
  case round =>
    clear HX
    obtain ⟨k, l, hk, rfl, hA, hl⟩ := hrel
    have HA := Lib.hid hA; have HL := Lib.hid hl; clear hA hl
    by_cases hlt : k < 64
    · obtain ⟨⟨b0, hc⟩, hf⟩ := HA.out.at k hlt
      have hlr := HA.out.row.lt
      have hkk : k < l.length := by rw [HA.out.len]; exact hlt
      have HK := Lib.hid hkk; clear hkk
      go_wp2_with (go_at_call 85; refine (byteAt_any v _ k).mono ?_; rintro e w' ⟨rfl, rfl⟩)
      refine ⟨⟨k + 1, _, by omega, by go_num, HA.out.put k _, fun j => ?_⟩, ?_⟩
      · rw [byte_set _ _ _ HK.out, HL.out]
        by_cases e : j = k
        · rw [if_pos e, if_pos (by omega), e]
        · rw [if_neg e]; by_cases h : j < k
          · rw [if_pos h, if_pos (by omega)]
          · rw [if_neg h, if_neg (by omega)]
      · simp [intOf]; omega
    · obtain rfl : k = 64 := by omega
      obtain ⟨c0, c1, c2, c3⟩ := HA.out.cells
      go_wp2_with fail
      refine (CH.out _).mono ?_; rintro e w1 ⟨rfl, hb⟩
      have HB := Lib.hid (HA.out.later hb)
      clear hb HA c0 c1 c2 c3
      have HA := HB; clear HB
      obtain ⟨c0, c1, c2, c3⟩ := HA.out.cells
      go_wp2_with fail
      refine (CH.out _).mono ?_; rintro e w2 ⟨rfl, hb⟩
      have HB := Lib.hid (HA.out.later hb)
      clear hb HA c0 c1 c2 c3
      have HA := HB; clear HB
      have hcv := HA.out.text
      have hlr := HA.out.row.lt
      go_wp2_with fail
      refine (CT.out _ (by rw [HA.out.len]; decide) HL.out _).mono ?_; rintro e w3 ⟨rfl, rfl⟩
      go_wp2_with fail
      go_ret
      exact ⟨rfl, HA.out.below⟩
set_option maxHeartbeats 4000000 in
theorem rapply_cut (v s : ByteArray) (L : List UInt8) (n : Nat) (hn : n < 64) (w : World) (H : ∀ w, Calls Tryz.prog 84 #[.agg #[.bool true, .int .i64 0, .int .i64 n, .string s]] w fun e w' => e = .returned (.bool true) ∧ Below w.heap.size w w') (HT : ∀ m : List UInt8, m.length ≤ 1099511627776 → (∀ j, byte m j = if j < n then byte v.data.toList j else 0) → ∀ wx, Calls Tryz.prog 86 #[.string (bs m)] wx fun e w' => e = .returned (.string (bs L)) ∧ wx = w') :
    Calls Tryz.prog 51 #[.string v, .agg #[.bool true, .int .i64 0, .int .i64 n, .string s]] w fun e w' => e = .returned (.string (bs L)) ∧ Below w.heap.size w w' := by
  have HX := Lib.hid (A2.new w #[.bool true, .int .i64 0, .int .i64 n, .string s])
  have CH := Lib.hid H; have CT := Lib.hid HT; clear H HT
  go_enter Tryz.func51, Tryz.ntmps51
  go_wp2_with fail
  go_loopw [6] (fun i W => ∃ (k : Nat) (l : List UInt8), k ≤ 64 ∧ i = .int .i64 k ∧ A2 w #[.bool true, .int .i64 0, .int .i64 n, .string s] l W ∧ ∀ j, byte l j = if j < k then byte v.data.toList j else 0) (fun i _ => 64 - (intOf i).toNat)
  case atStart => exact ⟨0, _, by omega, rfl, HX.out, fun j => by rw [byte_replicate, if_neg (by omega)]⟩
  case round =>
    clear HX
    obtain ⟨k, l, hk, rfl, hA, hl⟩ := hrel
    have HA := Lib.hid hA; have HL := Lib.hid hl; clear hA hl
    by_cases hlt : k < 64
    · obtain ⟨⟨b0, hc⟩, hf⟩ := HA.out.at k hlt
      have hlr := HA.out.row.lt
      have hkk : k < l.length := by rw [HA.out.len]; exact hlt
      have HK := Lib.hid hkk; clear hkk
      go_wp2_with (go_at_call 85; refine (byteAt_any v _ k).mono ?_; rintro e w' ⟨rfl, rfl⟩)
      refine ⟨⟨k + 1, _, by omega, by go_num, HA.out.put k _, fun j => ?_⟩, ?_⟩
      · rw [byte_set _ _ _ HK.out, HL.out]
        by_cases e : j = k
        · rw [if_pos e, if_pos (by omega), e]
        · rw [if_neg e]; by_cases h : j < k
          · rw [if_pos h, if_pos (by omega)]
          · rw [if_neg h, if_neg (by omega)]
      · simp [intOf]; omega
    · obtain rfl : k = 64 := by omega
      obtain ⟨c0, c1, c2, c3⟩ := HA.out.cells
      go_wp2_with fail
      refine (CH.out _).mono ?_; rintro e w1 ⟨rfl, hb⟩
      have HB := Lib.hid (HA.out.later hb)
      clear hb HA c0 c1 c2 c3
      have HA := HB; clear HB
      obtain ⟨c0, c1, c2, c3⟩ := HA.out.cells
      have hn0 : ¬ (n : Int) < 0 := by omega
      go_wp2_with fail
      go_loopw [7] (fun i W => ∃ (k : Nat) (m : List UInt8), n ≤ k ∧ k ≤ 64 ∧ i = .int .i64 k ∧ A2 w #[.bool true, .int .i64 0, .int .i64 n, .string s] m W ∧ ∀ j, byte m j = if n ≤ j ∧ j < k then 0 else byte l j) (fun i _ => 64 - (intOf i).toNat)
      case atStart => exact ⟨n, _, by omega, by omega, rfl, HA.out, fun j => by rw [if_neg (by omega)]⟩
      case round =>
        clear HA c0 c1 c2 c3
        obtain ⟨k, m, hnk, hk, rfl, hA, hm⟩ := hrel
        have HA := Lib.hid hA; have HM := Lib.hid hm; clear hA hm
        by_cases hlt : k < 64
        · obtain ⟨⟨b0, hc⟩, hf⟩ := HA.out.at k hlt
          have hlr := HA.out.row.lt
          have hkk : k < m.length := by rw [HA.out.len]; exact hlt
          have HK := Lib.hid hkk; clear hkk
          go_wp2_with fail
          refine ⟨⟨k + 1, _, by omega, by omega, by go_num, HA.out.put k 0, fun j => ?_⟩, ?_⟩
          · rw [byte_set _ _ _ HK.out, HM.out]
            by_cases e : j = k
            · rw [if_pos e, if_pos (by omega)]
            · rw [if_neg e]; by_cases h : n ≤ j ∧ j < k
              · rw [if_pos h, if_pos (by omega)]
              · rw [if_neg h, if_neg (by omega)]
          · simp [intOf]; omega
        · obtain rfl : k = 64 := by omega
          obtain ⟨c0, c1, c2, c3⟩ := HA.out.cells
          go_wp2_with fail
          refine (CH.out _).mono ?_; rintro e w2 ⟨rfl, hb⟩
          have HB := Lib.hid (HA.out.later hb)
          clear hb HA c0 c1 c2 c3
          have HA := HB; clear HB
          obtain ⟨c0, c1, c2, c3⟩ := HA.out.cells
          have hcv := HA.out.text
          have hlr := HA.out.row.lt
          go_wp2_with fail
          refine (CT.out _ (by rw [HA.out.len]; decide) (fun j => by rw [HM.out, HL.out]; by_cases h : j < n; rw [if_neg (by omega), if_pos (by omega), if_pos h]; rw [if_neg h]; split; rfl; rw [if_neg (by omega)]) _).mono ?_; rintro e w3 ⟨rfl, rfl⟩
          go_wp2_with fail
          go_ret
          exact ⟨rfl, HA.out.below⟩
set_option maxHeartbeats 4000000 in
theorem rapply_splice (v s : ByteArray) (L : List UInt8) (a : Nat) (hs : a + s.size ≤ 64) (w : World) (H : ∀ w, Calls Tryz.prog 84 #[.agg #[.bool false, .int .i64 a, .int .i64 0, .string s]] w fun e w' => e = .returned (.bool true) ∧ Below w.heap.size w w') (HT : ∀ m : List UInt8, m.length ≤ 1099511627776 → (∀ j, byte m j = if a ≤ j ∧ j < a + s.size then byte s.data.toList (j - a) else if j < 64 then byte v.data.toList j else 0) → ∀ wx, Calls Tryz.prog 86 #[.string (bs m)] wx fun e w' => e = .returned (.string (bs L)) ∧ wx = w') :
    Calls Tryz.prog 51 #[.string v, .agg #[.bool false, .int .i64 a, .int .i64 0, .string s]] w fun e w' => e = .returned (.string (bs L)) ∧ Below w.heap.size w w' := by
  have HX := Lib.hid (A2.new w #[.bool false, .int .i64 a, .int .i64 0, .string s])
  have CH := Lib.hid H; have CT := Lib.hid HT; clear H HT
  go_enter Tryz.func51, Tryz.ntmps51
  go_wp2_with fail
  go_loopw [6] (fun i W => ∃ (k : Nat) (l : List UInt8), k ≤ 64 ∧ i = .int .i64 k ∧ A2 w #[.bool false, .int .i64 a, .int .i64 0, .string s] l W ∧ ∀ j, byte l j = if j < k then byte v.data.toList j else 0) (fun i _ => 64 - (intOf i).toNat)
  case atStart => exact ⟨0, _, by omega, rfl, HX.out, fun j => by rw [byte_replicate, if_neg (by omega)]⟩
  case round =>
    clear HX
    obtain ⟨k, l, hk, rfl, hA, hl⟩ := hrel
    have HA := Lib.hid hA; have HL := Lib.hid hl; clear hA hl
    by_cases hlt : k < 64
    · obtain ⟨⟨b0, hc⟩, hf⟩ := HA.out.at k hlt
      have hlr := HA.out.row.lt
      have hkk : k < l.length := by rw [HA.out.len]; exact hlt
      have HK := Lib.hid hkk; clear hkk
      go_wp2_with (go_at_call 85; refine (byteAt_any v _ k).mono ?_; rintro e w' ⟨rfl, rfl⟩)
      refine ⟨⟨k + 1, _, by omega, by go_num, HA.out.put k _, fun j => ?_⟩, ?_⟩
      · rw [byte_set _ _ _ HK.out, HL.out]
        by_cases e : j = k
        · rw [if_pos e, if_pos (by omega), e]
        · rw [if_neg e]; by_cases h : j < k
          · rw [if_pos h, if_pos (by omega)]
          · rw [if_neg h, if_neg (by omega)]
      · simp [intOf]; omega
    · obtain rfl : k = 64 := by omega
      obtain ⟨c0, c1, c2, c3⟩ := HA.out.cells
      go_wp2_with fail
      refine (CH.out _).mono ?_; rintro e w1 ⟨rfl, hb⟩
      have HB := Lib.hid (HA.out.later hb)
      clear hb HA c0 c1 c2 c3
      have HA := HB; clear HB
      obtain ⟨c0, c1, c2, c3⟩ := HA.out.cells
      go_wp2_with fail
      refine (CH.out _).mono ?_; rintro e w2 ⟨rfl, hb⟩
      have HB := Lib.hid (HA.out.later hb)
      clear hb HA c0 c1 c2 c3
      have HA := HB; clear HB
      obtain ⟨c0, c1, c2, c3⟩ := HA.out.cells
      go_wp2_with fail
      go_loopw [8] (fun i W => ∃ (k : Nat) (m : List UInt8), k ≤ s.size ∧ i = .int .i64 k ∧ A2 w #[.bool false, .int .i64 a, .int .i64 0, .string s] m W ∧ ∀ j, byte m j = if a ≤ j ∧ j < a + k then byte s.data.toList (j - a) else byte l j) (fun i _ => s.size - (intOf i).toNat)
      case atStart => exact ⟨0, _, by omega, rfl, HA.out, fun j => by rw [if_neg (by omega)]⟩
      case round =>
        clear HA c0 c1 c2 c3
        obtain ⟨k, m, hk, rfl, hA, hm⟩ := hrel
        have HA := Lib.hid hA; have HM := Lib.hid hm; clear hA hm
        obtain ⟨c0, c1, c2, c3⟩ := HA.out.cells
        by_cases hlt : k < s.size
        · obtain ⟨q, hq⟩ : ∃ q : Nat, (a : Int) + (k : Int) = (q : Int) := ⟨a + k, by omega⟩
          have hq64 : q < 64 := by omega
          obtain ⟨⟨b0, hc⟩, hf⟩ := HA.out.at q hq64
          have hlr := HA.out.row.lt
          have hlb := HA.out.box.lt
          have hkk : q < m.length := by rw [HA.out.len]; exact hq64
          have HK := Lib.hid hkk; clear hkk
          go_wp2_with fail
          have hb := byte_at hlt
          have HB := Lib.hid hb; clear hb
          go_region
          go_wp2_with fail
          refine ⟨⟨k + 1, _, by omega, by go_num, (HA.out.put q _).drew, fun j => ?_⟩, ?_⟩
          · rw [byte_set _ _ _ HK.out, HM.out]
            have hq2 : q = a + k := by omega
            by_cases e : j = q
            · rw [if_pos e, if_pos (by omega), ← HB.out, show j - a = k by omega]
            · rw [if_neg e]; by_cases h : a ≤ j ∧ j < a + k
              · rw [if_pos h, if_pos (by omega)]
              · rw [if_neg h, if_neg (by omega)]
          · simp [intOf]; omega
        · obtain rfl : k = s.size := by omega
          have hcv := HA.out.text
          have hlr := HA.out.row.lt
          go_wp2_with fail
          refine (CT.out _ (by rw [HA.out.len]; decide) (fun j => by rw [HM.out, HL.out]) _).mono ?_; rintro e w3 ⟨rfl, rfl⟩
          go_wp2_with fail
          go_ret
          exact ⟨rfl, HA.out.below⟩
theorem rapply_any (v : ByteArray) (c : Bool) (a n : Int) (s : ByteArray) (hv : v.size ≤ 1099511627776) (hs : s.size ≤ 1099511627776) (w : World) :
    Calls Tryz.prog 51 #[.string v, .agg #[.bool c, .int .i64 a, .int .i64 n, .string s]] w fun e w' => e = .returned (.string (bs (apl v.data.toList c a n s.data.toList))) ∧ Below w.heap.size w w' := by
  have H := rmay_any c a n s hs
  have HT : ∀ m : List UInt8, m.length ≤ 1099511627776 → (∀ j, byte m j = img v.data.toList c a n s.data.toList j) → ∀ wx, Calls Tryz.prog 86 #[.string (bs m)] wx fun e w' => e = .returned (.string (bs (apl v.data.toList c a n s.data.toList))) ∧ wx = w' := by
    intro m hm hj wx
    have K := rtrim_any (bs m) (by rw [bs_size]; exact hm) wx
    rw [bs_list, apl_of m v.data.toList c a n s.data.toList hj] at K
    exact K
  cases h : may c a n s.data.toList with
  | false =>
    rw [h] at H
    refine rapply_no v s _ c a n w H fun m hm hj wx => HT m hm (fun j => ?_) wx
    rw [hj, img, h]
    by_cases hx : j < 64
    · rw [if_pos hx, if_neg (by omega)]; rfl
    · rw [if_neg hx, if_pos (by omega)]
  | true =>
    rw [h] at H
    cases c with
    | true =>
      obtain ⟨h1, h2, h3, h4⟩ := may_cut.1 h
      subst h3
      obtain ⟨k, rfl⟩ := Int.eq_ofNat_of_zero_le h1
      refine rapply_cut v s _ k (by omega) w H fun m hm hj wx => HT m hm (fun j => ?_) wx
      rw [hj, img, if_pos h, if_pos rfl, Int.toNat_natCast]
      by_cases hx : j < k
      · rw [if_pos hx, if_neg (by omega)]
      · rw [if_neg hx]; split <;> rfl
    | false =>
      obtain ⟨h1, h2, h3, h4⟩ := may_splice.1 h
      subst h4
      obtain ⟨k, rfl⟩ := Int.eq_ofNat_of_zero_le h2
      have hl : s.data.toList.length = s.size := (Lib.size_eq s).symm
      refine rapply_splice v s _ k (by omega) w H fun m hm hj wx => HT m hm (fun j => ?_) wx
      rw [hj, img, if_pos h, if_neg (show ¬ (false = true) by simp), Int.toNat_natCast, hl]
      by_cases hx : 64 ≤ j
      · rw [if_pos hx, if_neg (by omega), if_neg (by omega)]
      · rw [if_neg hx, if_pos (show j < 64 by omega)]
end Go.Proofs.YthledgkjfjdjoaaGreat.Bk
