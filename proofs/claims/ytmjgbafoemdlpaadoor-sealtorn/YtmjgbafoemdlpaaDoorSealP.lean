/- The stage's theorem, walked. Conditions: the program's table as it is laid. -/
import Derived.Test.YtmjgbafoemdlpaaDoorSealM
import Derived.Deep.Cut
import Derived.Deep.RegionHeld3
namespace Go.Proofs.YtmjgbafoemdlpaaDoor
open Go.ChangeShapes Go.WideShapes Go.RowKit Go.Codec
set_option maxRecDepth 100000
set_option linter.unusedVariables false
/-- What two boxes hold, and that nothing old has turned. -/
structure Boxes (w : World) (a b : Array Value) (wx : World) : Prop where
  below : Below w.heap.size w wx
  one : Is wx w.heap.size 57 a
  two : Is wx (w.heap.size + 1) 57 b
theorem Boxes.later {w wx wy : World} {a b : Array Value} (h : Boxes w a b wx) (hb : Below wx.heap.size wx wy) : Boxes w a b wy :=
  ⟨h.below.trans (hb.mono h.below.size), h.one.kept (grow_below hb none) (by simp), h.two.kept (grow_below hb none) (by simp)⟩
theorem Boxes.drew {w wx : World} {a b : Array Value} (h : Boxes w a b wx) (n : Nat) : Boxes w a b (wx.drewN n) :=
  h.later (below_drewN (Below.refl _ _) n)
theorem Boxes.step {w wx wy : World} {a b : Array Value} (h : Boxes w a b wx) (hb : Below wx.drew.heap.size wx.drew wy) : Boxes w a b wy :=
  h.later ⟨hb.os, hb.tape, hb.output, hb.size, hb.block⟩
theorem Boxes.new (w : World) (a b : Array Value) : Boxes w a b ((w.alloc (.cells a 57)).alloc (.cells b 57)) := by
  refine ⟨((Below.refl _ w).alloc (Nat.le_refl _) _).alloc (by simp) _, (Is.new w 57 a).alloc _, ?_⟩
  have h := Is.new (w.alloc (.cells a 57)) 57 b
  simpa using h
theorem Boxes.cells {w wx : World} {a0 a1 a2 a3 b0 b1 b2 b3 : Value} (h : Boxes w #[a0, a1, a2, a3] #[b0, b1, b2, b3] wx) :
    wx.cell? ⟨w.heap.size, 0, none⟩ = some a0 ∧ wx.cell? ⟨w.heap.size, 1, none⟩ = some a1 ∧ wx.cell? ⟨w.heap.size, 2, none⟩ = some a2 ∧
      wx.cell? ⟨w.heap.size + 1, 0, none⟩ = some b0 ∧ wx.cell? ⟨w.heap.size + 1, 1, none⟩ = some b1 ∧ wx.cell? ⟨w.heap.size + 1, 2, none⟩ = some b2 :=
  ⟨h.one.cell 0, h.one.cell 1, h.one.cell 2, h.two.cell 0, h.two.cell 1, h.two.cell 2⟩
set_option maxHeartbeats 4000000 in
theorem torn_core (g i g' i' m m' cut n : Nat) (s s' X Y : ByteArray) (M : Nat) (hM : max (s.size : Int) (s'.size : Int) = (M : Int)) (hm : m < 256) (r : Nat) (hr : (m : Int) % 64 = (r : Int)) (hr64 : r < 64) (hn : (26 : Int) + (M : Int) + (r : Int) = (n : Int)) (hn2 : n ≤ 2089)
    (h1 : ¬ (2000 : Int) < (s.size : Int)) (h2 : ¬ (2000 : Int) < (s'.size : Int)) (w : World) (HT : Hid (Laid w))
    (H1 : Hid (∀ w, Calls Tryd.prog 23 #[.agg #[.int .u64 g, .int .u32 i], .string s, .int .i64 (n : Nat)] w fun e w' => e = .returned (.string X) ∧ Below w.heap.size w w'))
    (H2 : Hid (∀ w, Calls Tryd.prog 23 #[.agg #[.int .u64 g', .int .u32 i'], .string s', .int .i64 (n : Nat)] w fun e w' => e = .returned (.string Y) ∧ Below w.heap.size w w'))
    (hX : (X.size : Int) = (n : Int)) (hY : (Y.size : Int) = (n : Int)) (k : Nat) (T : ByteArray) (hcut : cut < 65536) (hk : (cut : Int).tmod ((n : Int) + 1) = (k : Int)) (hkX : (k : Int) ≤ (X.size : Int)) (hkY : (k : Int) ≤ (Y.size : Int)) (hT : X.extract 0 k ++ Y.extract k Y.size = T)
    (D : Hid ((g = g' ∧ i = i') ∨ (¬ (g : Int) = (g' : Int) ∨ (g = g' ∧ ¬ (i : Int) = (i' : Int))) ∧ ((T.toList == X.toList) = true ∨ (T.toList == X.toList) = false ∧ (T.toList == Y.toList) = true ∨ ((T.toList == X.toList) = false ∧ (T.toList == Y.toList) = false) ∧ ∀ w, Calls Tryd.prog 24 #[.string T, .int .i64 4] w fun e w' => e = .returned (.bool true) ∧ Below w.heap.size w w'))) :
    Calls Tryd.prog 8 #[.agg #[.int .u64 g, .int .u32 i, .string s, .int .u8 m], .agg #[.int .u64 g', .int .u32 i', .string s', .int .u8 m'], .int .u16 cut] w fun e w' => e = .returned (.bool true) ∧ Below w.heap.size w w' := by
  have hu : IntKind.i64.wrap (cut : Int) = (cut : Int) := by rw [IntKind.wrap_i64]; omega
  have HW := Lib.hid (fun w' (hb : Below w.heap.size w w') => works_later HT.out hb)
  have HX := Lib.hid (Boxes.new w #[.int .u64 g, .int .u32 i, .string s, .int .u8 m] #[.int .u64 g', .int .u32 i', .string s', .int .u8 m'])
  go_enter Tryd.func8, Tryd.ntmps8
  go_upto_region 4 with fail
  generalize hWW : (w.alloc (.cells #[.int .u64 g, .int .u32 i, .string s, .int .u8 m] 57)).alloc (.cells #[.int .u64 g', .int .u32 i', .string s', .int .u8 m'] 57) = W at *
  clear hWW
  go_cut [8, 9] from 12 (fun x y wx => x = .string X ∧ y = .string Y ∧ Boxes w #[.int .u64 g, .int .u32 i, .string s, .int .u8 m] #[.int .u64 g', .int .u32 i', .string s', .int .u8 m'] wx)
  case first =>
    obtain ⟨a0, a1, a2, b0, b1, b2⟩ := HX.out.cells
    go_region_held3 (fun wx => wx.cell? ⟨w.heap.size, 0, none⟩ = some (.int .u64 g) ∧ wx.cell? ⟨w.heap.size, 1, none⟩ = some (.int .u32 i) ∧ wx.cell? ⟨w.heap.size, 2, none⟩ = some (.string s) ∧
        wx.cell? ⟨w.heap.size + 1, 0, none⟩ = some (.int .u64 g') ∧ wx.cell? ⟨w.heap.size + 1, 1, none⟩ = some (.int .u32 i') ∧ wx.cell? ⟨w.heap.size + 1, 2, none⟩ = some (.string s')) (first | exact HX2.out.cells | exact HX1.out.cells | exact HX.out.cells)
      (first
        | (go_at_call_of 23 (Value.agg #[.int .u64 g, .int .u32 i]); refine (H1.out _).mono ?_; rintro e w1 ⟨rfl, hb⟩; (first | (have HX2 := Lib.hid (HX1.out.later hb); clear hb) | (have HX1 := Lib.hid (HX.out.step hb); clear hb)))
        | (go_at_call_of 23 (Value.agg #[.int .u64 g', .int .u32 i']); refine (H2.out _).mono ?_; rintro e w1 ⟨rfl, hb⟩; (first | (have HX2 := Lib.hid (HX1.out.later hb); clear hb) | (have HX1 := Lib.hid (HX.out.step hb); clear hb))))
    all_goals (go_wp2_with fail; go_meet; case rel => exact ⟨rfl, rfl, HX2.out⟩)
  case rest =>
    obtain ⟨rfl, rfl, hB⟩ := hcut
    obtain ⟨a0, a1, -, b0, b1, -⟩ := hB.cells
    replace hB := Lib.hid hB
    have hX' : ((X.size : Int) != (n : Int)) = false := by simp [hX]
    have hY' : ((Y.size : Int) != (n : Int)) = false := by simp [hY]
    clear hM hr hn HX
    rcases D.out with ⟨rfl, rfl⟩ | ⟨hne, hd⟩
    · go_wp2_with fail
      refine (HW.out _ hB.out.below).mono ?_; rintro e w3 ⟨rfl, b3⟩
      go_wp2
      go_ret
      exact ⟨rfl, b3⟩
    · rcases hne with hne | ⟨rfl, hne⟩
      · rcases hd with hd | ⟨hd, hd'⟩ | ⟨⟨hd, hd'⟩, hn⟩
        · go_wp2
          go_quiet (fail)
          have B3 := Lib.hid (below_drewN hB.out.below nq)
          generalize wc.drewN nq = w3 at *
          go_wp2_with fail
          refine (HW.out _ B3.out).mono ?_; rintro e w4 ⟨rfl, b4⟩
          go_wp2
          go_ret
          exact ⟨rfl, b4⟩
        · go_wp2
          go_quiet (fail)
          have B3 := Lib.hid (below_drewN hB.out.below nq)
          generalize wc.drewN nq = w3 at *
          go_wp2_with fail
          refine (HW.out _ B3.out).mono ?_; rintro e w4 ⟨rfl, b4⟩
          go_wp2
          go_ret
          exact ⟨rfl, b4⟩
        · replace hn := Lib.hid hn
          go_wp2
          go_quiet (fail)
          have B3 := Lib.hid (below_drewN hB.out.below nq)
          generalize wc.drewN nq = w3 at *
          go_wp2_with fail
          refine (hn.out _).mono ?_; rintro e w4 ⟨rfl, b⟩
          have B4 := Lib.hid (B3.out.trans (b.mono B3.out.size)); clear b
          go_wp2_with fail
          refine (HW.out _ B4.out).mono ?_; rintro e w5 ⟨rfl, b5⟩
          go_wp2
          go_ret
          exact ⟨rfl, b5⟩
      · rcases hd with hd | ⟨hd, hd'⟩ | ⟨⟨hd, hd'⟩, hn⟩
        · go_wp2
          go_quiet (fail)
          have B3 := Lib.hid (below_drewN hB.out.below nq)
          generalize wc.drewN nq = w3 at *
          go_wp2_with fail
          refine (HW.out _ B3.out).mono ?_; rintro e w4 ⟨rfl, b4⟩
          go_wp2
          go_ret
          exact ⟨rfl, b4⟩
        · go_wp2
          go_quiet (fail)
          have B3 := Lib.hid (below_drewN hB.out.below nq)
          generalize wc.drewN nq = w3 at *
          go_wp2_with fail
          refine (HW.out _ B3.out).mono ?_; rintro e w4 ⟨rfl, b4⟩
          go_wp2
          go_ret
          exact ⟨rfl, b4⟩
        · replace hn := Lib.hid hn
          go_wp2
          go_quiet (fail)
          have B3 := Lib.hid (below_drewN hB.out.below nq)
          generalize wc.drewN nq = w3 at *
          go_wp2_with fail
          refine (hn.out _).mono ?_; rintro e w4 ⟨rfl, b⟩
          have B4 := Lib.hid (B3.out.trans (b.mono B3.out.size)); clear b
          go_wp2_with fail
          refine (HW.out _ B4.out).mono ?_; rintro e w5 ⟨rfl, b5⟩
          go_wp2
          go_ret
          exact ⟨rfl, b5⟩
theorem torn_big (g i g' i' m m' cut : Nat) (s s' : ByteArray) (hst : (2000 : Int) < (s.size : Int) ∨ ¬ (2000 : Int) < (s.size : Int) ∧ (2000 : Int) < (s'.size : Int)) (w : World) (ht : Laid w) (hs : s.size ≤ maxLen) (hs' : s'.size ≤ maxLen) :
    Calls Tryd.prog 8 #[.agg #[.int .u64 g, .int .u32 i, .string s, .int .u8 m], .agg #[.int .u64 g', .int .u32 i', .string s', .int .u8 m'], .int .u16 cut] w fun e w' => e = .returned (.bool true) ∧ Below w.heap.size w w' := by
  unfold maxLen at hs hs'
  have HX := Lib.hid (Boxes.new w #[.int .u64 g, .int .u32 i, .string s, .int .u8 m] #[.int .u64 g', .int .u32 i', .string s', .int .u8 m'])
  have HW := Lib.hid (fun w' (hb : Below w.heap.size w w') => works_later ht hb)
  clear ht
  rcases hst with h | ⟨h, h'⟩
  · go_enter Tryd.func8, Tryd.ntmps8
    go_wp2_with fail
    refine (HW.out _ HX.out.below).mono ?_; rintro e w1 ⟨rfl, b1⟩
    go_wp2
    go_ret
    exact ⟨rfl, b1⟩
  · go_enter Tryd.func8, Tryd.ntmps8
    go_wp2_with fail
    refine (HW.out _ HX.out.below).mono ?_; rintro e w1 ⟨rfl, b1⟩
    go_wp2
    go_ret
    exact ⟨rfl, b1⟩
theorem torn_law (g i g' i' m m' cut : Nat) (s s' : ByteArray) (hg : g < 18446744073709551616) (hi : i < 4294967296) (hg' : g' < 18446744073709551616) (hi' : i' < 4294967296) (hm : m < 256) (hcut : cut < 65536) (hs : s.size ≤ maxLen) (hs' : s'.size ≤ maxLen) (w : World) (ht : Laid w) :
    Calls Tryd.prog 8 #[.agg #[.int .u64 g, .int .u32 i, .string s, .int .u8 m], .agg #[.int .u64 g', .int .u32 i', .string s', .int .u8 m'], .int .u16 cut] w fun e w' => e = .returned (.bool true) ∧ Below w.heap.size w w' := by
  by_cases h1 : (2000 : Int) < (s.size : Int)
  · exact torn_big g i g' i' m m' cut s s' (.inl h1) w ht hs hs'
  by_cases h2 : (2000 : Int) < (s'.size : Int)
  · exact torn_big g i g' i' m m' cut s s' (.inr ⟨h1, h2⟩) w ht hs hs'
  have hl : s.data.toList.length = s.size := (Lib.size_eq s).symm
  have hl' : s'.data.toList.length = s'.size := (Lib.size_eq s').symm
  obtain ⟨M, hM⟩ : ∃ M, M = max s.size s'.size := ⟨_, rfl⟩
  obtain ⟨n, hn⟩ : ∃ n, n = 26 + M + m % 64 := ⟨_, rfl⟩
  have hk : cut % (n + 1) < n + 1 := Nat.mod_lt _ (by omega)
  obtain ⟨k, hkk⟩ : ∃ k, k = cut % (n + 1) := ⟨_, rfl⟩
  have e1 : (Seal.stamp g i s.data.toList (n : Int)).1 = Seal.sheet g i s.data.toList (n - 26 - s.size) := by
    unfold Seal.stamp
    rw [if_neg (by omega), if_neg (by omega), hl, Int.toNat_natCast]
  have e2 : (Seal.stamp g' i' s'.data.toList (n : Int)).1 = Seal.sheet g' i' s'.data.toList (n - 26 - s'.size) := by
    unfold Seal.stamp
    rw [if_neg (by omega), if_neg (by omega), hl', Int.toNat_natCast]
  have lx := Seal.sheet_length g i s.data.toList (n - 26 - s.size)
  have ly := Seal.sheet_length g' i' s'.data.toList (n - 26 - s'.size)
  have lX : (Seal.sheet g i s.data.toList (n - 26 - s.size)).length = n := by omega
  have lY : (Seal.sheet g' i' s'.data.toList (n - 26 - s'.size)).length = n := by omega
  have tr := Seal.torn g i g' i' s.data.toList s'.data.toList (n - 26 - s.size) (n - 26 - s'.size) k (by omega) (by omega) (by omega) hg hi hg' hi'
  have hT : (bs (Seal.sheet g i s.data.toList (n - 26 - s.size))).extract 0 k ++ (bs (Seal.sheet g' i' s'.data.toList (n - 26 - s'.size))).extract k (bs (Seal.sheet g' i' s'.data.toList (n - 26 - s'.size))).size =
      bs ((Seal.sheet g i s.data.toList (n - 26 - s.size)).take k ++ (Seal.sheet g' i' s'.data.toList (n - 26 - s'.size)).drop k) := by
    have d : ((Seal.sheet g' i' s'.data.toList (n - 26 - s'.size)).drop k).take ((Seal.sheet g' i' s'.data.toList (n - 26 - s'.size)).length - k) = (Seal.sheet g' i' s'.data.toList (n - 26 - s'.size)).drop k := List.take_of_length_le (by rw [List.length_drop]; omega)
    rw [bs_extract, bs_extract, bs_append, bs_size, d, List.drop_zero, Nat.sub_zero]
  refine torn_core g i g' i' m m' cut n s s' _ _ M (by rw [hM]; omega) hm (m % 64) (by omega) (by omega) (by omega) (by omega) h1 h2 w (Lib.hid ht) (Lib.hid fun w => stamped_any g i s n _ (by omega) e1 w) (Lib.hid fun w => stamped_any g' i' s' n _ (by omega) e2 w)
    (by rw [bs_size]; omega) (by rw [bs_size]; omega) k _ hcut (by rw [Int.tmod_eq_emod_of_nonneg (by omega), hkk]; rfl) (by rw [bs_size]; omega) (by rw [bs_size]; omega) hT (Lib.hid ?_)
  by_cases hs : g = g' ∧ i = i'
  · exact .inl hs
  · right
    refine ⟨?_, ?_⟩
    · by_cases hgg : g = g'
      · exact .inr ⟨hgg, fun hh => hs ⟨hgg, by omega⟩⟩
      · exact .inl fun hh => hgg (by omega)
    · have tr2 := tr hs _ rfl
      generalize hTT : (Seal.sheet g i s.data.toList (n - 26 - s.size)).take k ++ (Seal.sheet g' i' s'.data.toList (n - 26 - s'.size)).drop k = TT at *
      have lT : TT.length ≤ 1000000 := by
        rw [← hTT, List.length_append, List.length_take, List.length_drop]; omega
      by_cases c1 : TT = Seal.sheet g i s.data.toList (n - 26 - s.size)
      · exact .inl (same_text.2 (by rw [bs_list, bs_list]; exact c1))
      · right
        by_cases c2 : TT = Seal.sheet g' i' s'.data.toList (n - 26 - s'.size)
        · exact .inl ⟨other_text.2 (by rw [bs_list, bs_list]; exact c1), same_text.2 (by rw [bs_list, bs_list]; exact c2)⟩
        · refine .inr ⟨⟨other_text.2 (by rw [bs_list, bs_list]; exact c1), other_text.2 (by rw [bs_list, bs_list]; exact c2)⟩, fun w => ?_⟩
          have c3 : Seal.unstamp TT = (0, 0, [], 4) := by
            rcases tr2 with h | h | h
            · exact absurd h c1
            · exact absurd h c2
            · exact h
          exact none_true _ 4 (by rw [bs_size]; omega) (by rw [bs_list]; exact c3) w
end Go.Proofs.YtmjgbafoemdlpaaDoor
