/- The laws MetaChanges, MetaDoes. Conditions: numbers of their kinds. -/
import Derived.Test.YtoeaclfbmppnmaaMtM
namespace Go.Proofs.Ytoeaclfbmppnmaa
open Go.ChangeShapes Go.WideShapes Go.RowKit Go.Codec Go.Num Go.Mt
set_option maxRecDepth 100000
set_option linter.unusedSimpArgs false
set_option linter.unusedVariables false
/-- Two blocks, and that nothing older has turned. -/
structure Tw (w : World) (g : Nat) (t : TypeId) (a : Array Value) (g' : Nat) (t' : TypeId) (b : Array Value) (wx : World) : Prop where
  below : Below w.heap.size w wx
  one : Is wx g t a
  two : Is wx g' t' b
section
variable {w wx wy : World} {g g' : Nat} {t t' : TypeId} {a b : Array Value}
theorem Tw.later (h : Tw w g t a g' t' b wx) (hb : Below wx.heap.size wx wy) : Tw w g t a g' t' b wy :=
  ⟨h.below.trans (hb.mono h.below.size), h.one.kept (grow_below hb none) (by simp), h.two.kept (grow_below hb none) (by simp)⟩
theorem Tw.drew (h : Tw w g t a g' t' b wx) : Tw w g t a g' t' b wx.drew := ⟨h.below.drew, h.one, h.two⟩
theorem Tw.cells {a0 a1 a2 a3 b0 b1 b2 b3 : Value} (h : Tw w g t #[a0, a1, a2, a3] g' t' #[b0, b1, b2, b3] wx) :
    (wx.cell? ⟨g, 0, none⟩ = some a0 ∧ wx.cell? ⟨g, 1, none⟩ = some a1 ∧ wx.cell? ⟨g, 2, none⟩ = some a2 ∧ wx.cell? ⟨g, 3, none⟩ = some a3) ∧
    (wx.cell? ⟨g', 0, none⟩ = some b0 ∧ wx.cell? ⟨g', 1, none⟩ = some b1 ∧ wx.cell? ⟨g', 2, none⟩ = some b2 ∧ wx.cell? ⟨g', 3, none⟩ = some b3) :=
  ⟨⟨h.one.cell 0, h.one.cell 1, h.one.cell 2, h.one.cell 3⟩, h.two.cell 0, h.two.cell 1, h.two.cell 2, h.two.cell 3⟩
end
set_option maxHeartbeats 8000000 in
theorem metadoes_core (k sz mk st wh n op b A1 A2 A3 : Nat) (w : World)
    (A : Hid (∀ w, Calls Try.prog 20 #[.agg #[.int .u8 k, .int .u32 sz, .int .u64 mk, .int .u64 st], .agg #[.int .u8 wh, .int .u64 n, .int .u8 op, .int .u64 b]] w fun e w' => e = .returned (.agg #[.int .u8 k, .int .u32 A1, .int .u64 A2, .int .u64 A3]) ∧ Below w.heap.size w w'))
    (T : Hid (∀ w, Calls Try.prog 17 #[.agg #[.int .u8 wh, .int .u64 n, .int .u8 op, .int .u64 b]] w fun e w' => e = .returned (.agg #[.int .u8 wh, .int .u64 n, .int .u8 op, .int .u64 b]) ∧ Below w.heap.size w w'))
    (B : Hid (∀ w, Calls Try.prog 21 #[.agg #[.int .u8 k, .int .u32 sz, .int .u64 mk, .int .u64 st], .agg #[.int .u8 wh, .int .u64 n, .int .u8 op, .int .u64 b]] w fun e w' => e = .returned (.agg #[.int .u8 k, .int .u32 A1, .int .u64 A2, .int .u64 A3]) ∧ Below w.heap.size w w'))
    (AW : Hid (∀ w, Calls Try.prog 9 #[] w fun e w' => e = .returned (.bool true) ∧ Below w.heap.size w w')) :
    Calls Try.prog 5 #[.agg #[.int .u8 k, .int .u32 sz, .int .u64 mk, .int .u64 st], .agg #[.int .u8 wh, .int .u64 n, .int .u8 op, .int .u64 b]] w fun e w' => e = .returned (.bool true) ∧ Below w.heap.size w w' := by
  have HE := eqM
  have hp : Tw w w.heap.size 25 #[.int .u8 k, .int .u32 sz, .int .u64 mk, .int .u64 st] (w.heap.size + 1) 41 #[.int .u8 wh, .int .u64 n, .int .u8 op, .int .u64 b] ((w.alloc (.cells #[.int .u8 k, .int .u32 sz, .int .u64 mk, .int .u64 st] 25)).alloc (.cells #[.int .u8 wh, .int .u64 n, .int .u8 op, .int .u64 b] 41)) :=
    ⟨below_alloc (below_alloc (Below.refl _ _) _) _, (Is.new w 25 _).alloc _, (Is.new (w.alloc (.cells #[.int .u8 k, .int .u32 sz, .int .u64 mk, .int .u64 st] 25)) 41 _).at (by simp)⟩
  replace hp := hp.drew
  go_enter Try.func5, Try.ntmps5
  go_upto_region 1 with fail
  refine wp_region_held_drew (S := (fun wx => (wx.cell? ⟨w.heap.size, 0, none⟩ = some (.int .u8 k) ∧ wx.cell? ⟨w.heap.size, 1, none⟩ = some (.int .u32 sz) ∧ wx.cell? ⟨w.heap.size, 2, none⟩ = some (.int .u64 mk) ∧ wx.cell? ⟨w.heap.size, 3, none⟩ = some (.int .u64 st)) ∧ (wx.cell? ⟨w.heap.size + 1, 0, none⟩ = some (.int .u8 wh) ∧ wx.cell? ⟨w.heap.size + 1, 1, none⟩ = some (.int .u64 n) ∧ wx.cell? ⟨w.heap.size + 1, 2, none⟩ = some (.int .u8 op) ∧ wx.cell? ⟨w.heap.size + 1, 3, none⟩ = some (.int .u64 b)))) (by kernel_rfl) hp.cells (fun hHeld => ?_)
  generalize World.drew _ = w1 at *
  refine wpAnyH_take (i := 0) (oi := ⟨some 5, _, _, _, _, _⟩) (v := ?_) rfl (by kernel_rfl) (by kernel_rfl) (by kernel_rfl) (fun _ _ _ h => h) (Or.inl ⟨by rfl, ?_⟩) (by assumption) ?_
  rotate_left 1
  · intro wq hSw; (try dsimp only at hSw); (first | (go_simp; done) | (go_simp; with_reducible rfl))
  try simp only [Act.put, List.setIfInBounds_toArray, List.set_cons_zero, List.set_cons_succ]
  refine wpAnyH_take (i := 1) (oi := ⟨some 6, _, _, _, _, _⟩) (v := ?_) rfl (by kernel_rfl) (by kernel_rfl) (by kernel_rfl) (fun _ _ _ h => h) (Or.inl ⟨by rfl, ?_⟩) (by assumption) ?_
  rotate_left 1
  · intro wq hSw; (try dsimp only at hSw); (first | (go_simp; done) | (go_simp; with_reducible rfl))
  try simp only [Act.put, List.setIfInBounds_toArray, List.set_cons_zero, List.set_cons_succ]
  refine wpAnyH_take (i := 3) (oi := ⟨some 8, _, _, _, _, _⟩) (v := ?_) rfl (by kernel_rfl) (by kernel_rfl) (by kernel_rfl) (fun _ _ _ h => h) (Or.inl ⟨by rfl, ?_⟩) (by assumption) ?_
  rotate_left 1
  · intro wq hSw; (try dsimp only at hSw); (first | (go_simp; done) | (go_simp; with_reducible rfl))
  try simp only [Act.put, List.setIfInBounds_toArray, List.set_cons_zero, List.set_cons_succ]
  refine wpAnyH_take (i := 4) (oi := ⟨some 9, _, _, _, _, _⟩) (v := ?_) rfl (by kernel_rfl) (by kernel_rfl) (by kernel_rfl) (fun _ _ _ h => h) (Or.inl ⟨by rfl, ?_⟩) (by assumption) ?_
  rotate_left 1
  · intro wq hSw; (try dsimp only at hSw); (first | (go_simp; done) | (go_simp; with_reducible rfl))
  try simp only [Act.put, List.setIfInBounds_toArray, List.set_cons_zero, List.set_cons_succ]
  refine wpAnyH_ready (rs := [2]) (by kernel_rfl) (by simp) ?_
  refine AllReadyH.cons (o := ⟨some 7, _, _, _, _, _⟩) rfl (fun K hK => ?_) AllReadyH.nil
  · go_simp
    with_reducible refine (A.out _).mono ?_
    rintro e w1 ⟨rfl, hb⟩
    replace hp := hp.later hb
    clear hb
    refine hK.out _ _ hp.cells (fun hHeld => ?_)
    clear hK K
    try simp only [Act.put, List.setIfInBounds_toArray, List.set_cons_zero, List.set_cons_succ]
    refine wpAnyH_ready (rs := [5]) (by kernel_rfl) (by simp) ?_
    refine AllReadyH.cons (o := ⟨some 10, _, _, _, _, _⟩) rfl (fun K hK => ?_) AllReadyH.nil
    · go_simp
      with_reducible refine (T.out _).mono ?_
      rintro e w1 ⟨rfl, hb⟩
      replace hp := hp.later hb
      clear hb
      refine hK.out _ _ hp.cells (fun hHeld => ?_)
      clear hK K
      try simp only [Act.put, List.setIfInBounds_toArray, List.set_cons_zero, List.set_cons_succ]
      refine wpAnyH_ready (rs := [6]) (by kernel_rfl) (by simp) ?_
      refine AllReadyH.cons (o := ⟨some 11, _, _, _, _, _⟩) rfl (fun K hK => ?_) AllReadyH.nil
      · go_simp
        with_reducible refine (B.out _).mono ?_
        rintro e w1 ⟨rfl, hb⟩
        replace hp := hp.later hb
        clear hb
        refine hK.out _ _ hp.cells (fun hHeld => ?_)
        clear hK K
        try simp only [Act.put, List.setIfInBounds_toArray, List.set_cons_zero, List.set_cons_succ]
        refine wpAnyH_take (i := 7) (oi := ⟨some 12, _, _, _, _, _⟩) (v := ?_) rfl (by kernel_rfl) (by kernel_rfl) (by kernel_rfl) (fun _ _ _ h => h) (Or.inl ⟨by rfl, ?_⟩) (by assumption) ?_
        rotate_left 1
        · intro wq hSw; (try dsimp only at hSw); (first | (go_simp; done) | (go_simp; with_reducible rfl))
        try simp only [Act.put, List.setIfInBounds_toArray, List.set_cons_zero, List.set_cons_succ]
        refine wpAnyH_take (i := 8) (oi := ⟨some 13, _, _, _, _, _⟩) (v := ?_) rfl (by kernel_rfl) (by kernel_rfl) (by kernel_rfl) (fun _ _ _ h => h) (Or.inl ⟨by rfl, ?_⟩) (by assumption) ?_
        rotate_left 1
        · intro wq hSw; (try dsimp only at hSw); (first | (go_simp; done) | (go_simp; with_reducible rfl))
        try simp only [Act.put, List.setIfInBounds_toArray, List.set_cons_zero, List.set_cons_succ]
        refine wpAnyH_ready (rs := [9]) (by kernel_rfl) (by simp) ?_
        refine AllReadyH.cons (o := ⟨some 14, _, _, _, _, _⟩) rfl (fun K hK => ?_) AllReadyH.nil
        · go_simp
          with_reducible refine (AW.out _).mono ?_
          rintro e w1 ⟨rfl, hb⟩
          replace hp := hp.later hb
          clear hb
          refine hK.out _ _ hp.cells (fun hHeld => ?_)
          clear hK K
          try simp only [Act.put, List.setIfInBounds_toArray, List.set_cons_zero, List.set_cons_succ]
          refine wpAnyH_take (i := 10) (oi := ⟨some 15, _, _, _, _, _⟩) (v := ?_) rfl (by kernel_rfl) (by kernel_rfl) (by kernel_rfl) (fun _ _ _ h => h) (Or.inl ⟨by rfl, ?_⟩) (by assumption) ?_
          rotate_left 1
          · intro wq hSw; (try dsimp only at hSw); (first | (go_simp; done) | (go_simp; with_reducible rfl))
          try simp only [Act.put, List.setIfInBounds_toArray, List.set_cons_zero, List.set_cons_succ]
          refine wpAnyH_take (i := 11) (oi := ⟨some 4, _, _, _, _, _⟩) (v := ?_) rfl (by kernel_rfl) (by kernel_rfl) (by kernel_rfl) (fun _ _ _ h => h) (Or.inl ⟨by rfl, ?_⟩) (by assumption) ?_
          rotate_left 1
          · intro wq hSw; (try dsimp only at hSw); (first | (go_simp; done) | (go_simp; with_reducible rfl))
          try simp only [Act.put, List.setIfInBounds_toArray, List.set_cons_zero, List.set_cons_succ]
          refine wpAnyH_done (by kernel_rfl) ?_ _
          go_wp2
          go_ret
          exact ⟨rfl, hp.below⟩
theorem metadoes_any (k sz mk st wh n op b : Nat) (hm : mk < 18446744073709551616) (hb : b < 18446744073709551616) (w : World) :
    Calls Try.prog 5 #[.agg #[.int .u8 k, .int .u32 sz, .int .u64 mk, .int .u64 st], .agg #[.int .u8 wh, .int .u64 n, .int .u8 op, .int .u64 b]] w fun e w' => e = .returned (.bool true) ∧ Below w.heap.size w w' :=
  metadoes_core k sz mk st wh n op b _ _ _ w (Lib.hid fun w => apply_any k sz mk st wh n op b hm hb w) (Lib.hid fun w => theirs_any wh n op b w) (Lib.hid fun w => rapply_any k sz mk st wh n op b hm hb w) (Lib.hid fun w => awake_any w)
set_option maxHeartbeats 4000000 in
theorem changes_long (wh n op b : Nat) (s : ByteArray) (hs : (1000 : Int) < (s.size : Int)) (w : World) :
    Calls Try.prog 4 #[.agg #[.int .u8 wh, .int .u64 n, .int .u8 op, .int .u64 b], .string s] w fun e w' => e = .returned (.bool true) ∧ Below w.heap.size w w' := by
  have HX := Lib.hid (Box.new w 41 #[.int .u8 wh, .int .u64 n, .int .u8 op, .int .u64 b])
  go_enter Try.func4, Try.ntmps4
  go_wp2_with fail
  refine (awake_any _).mono ?_; rintro e w1 ⟨rfl, hb⟩
  replace HX := Lib.hid (HX.out.later hb)
  go_wp2_with fail
  go_ret
  exact ⟨rfl, HX.out.below⟩
set_option maxHeartbeats 8000000 in
theorem changes_core (wh n op b : Nat) (s : ByteArray) (hs : ¬ (1000 : Int) < (s.size : Int)) (T : ByteArray) (E F X0 X1 X2 X3 : Nat) (w : World)
    (P1 : Hid (∀ w, Calls Try.prog 15 #[.agg #[.int .u8 wh, .int .u64 n, .int .u8 op, .int .u64 b]] w fun e w' => e = .returned (.tuple #[.string T, .int .i64 E]) ∧ Below w.heap.size w w'))
    (P2 : Hid (∀ w, Calls Try.prog 16 #[.agg #[.int .u8 wh, .int .u64 n, .int .u8 op, .int .u64 b]] w fun e w' => e = .returned (.tuple #[.string T, .int .i64 E]) ∧ Below w.heap.size w w'))
    (TH : Hid (∀ w, Calls Try.prog 17 #[.agg #[.int .u8 wh, .int .u64 n, .int .u8 op, .int .u64 b]] w fun e w' => e = .returned (.agg #[.int .u8 wh, .int .u64 n, .int .u8 op, .int .u64 b]) ∧ Below w.heap.size w w'))
    (TX : Hid (∀ w, Calls Try.prog 17 #[.agg #[.int .u8 X0, .int .u64 X1, .int .u8 X2, .int .u64 X3]] w fun e w' => e = .returned (.agg #[.int .u8 X0, .int .u64 X1, .int .u8 X2, .int .u64 X3]) ∧ Below w.heap.size w w'))
    (T1 : Hid (∀ w, Calls Try.prog 18 #[.string s] w fun e w' => e = .returned (.tuple #[.agg #[.int .u8 X0, .int .u64 X1, .int .u8 X2, .int .u64 X3], .int .i64 F]) ∧ Below w.heap.size w w'))
    (T2 : Hid (∀ w, Calls Try.prog 19 #[.string s] w fun e w' => e = .returned (.tuple #[.agg #[.int .u8 X0, .int .u64 X1, .int .u8 X2, .int .u64 X3], .int .i64 F]) ∧ Below w.heap.size w w'))
    (AW : Hid (∀ w, Calls Try.prog 9 #[] w fun e w' => e = .returned (.bool true) ∧ Below w.heap.size w w')) :
    Calls Try.prog 4 #[.agg #[.int .u8 wh, .int .u64 n, .int .u8 op, .int .u64 b], .string s] w fun e w' => e = .returned (.bool true) ∧ Below w.heap.size w w' := by
  have HX := Lib.hid (Box.new w 41 #[.int .u8 wh, .int .u64 n, .int .u8 op, .int .u64 b])
  have HE := eqD
  go_enter Try.func4, Try.ntmps4
  go_wp2_with fail
  refine (P1.out _).mono ?_; rintro e w1 ⟨rfl, hb⟩
  replace HX := Lib.hid (HX.out.later hb); clear hb
  obtain ⟨c0, c1, c2, c3⟩ := HX.out.cells
  go_wp2_with fail
  clear c0 c1 c2 c3
  refine (TH.out _).mono ?_; rintro e w2 ⟨rfl, hb⟩
  replace HX := Lib.hid (HX.out.later hb); clear hb
  go_wp2_with fail
  refine (P2.out _).mono ?_; rintro e w2 ⟨rfl, hb⟩
  replace HX := Lib.hid (HX.out.later hb); clear hb
  go_wp2_with fail
  refine (T1.out _).mono ?_; rintro e w3 ⟨rfl, hb⟩
  replace HX := Lib.hid (HX.out.later hb); clear hb
  have HY := Lib.hid (HX.out.and 41 #[.int .u8 X0, .int .u64 X1, .int .u8 X2, .int .u64 X3])
  go_wp2_with fail
  refine (T2.out _).mono ?_; rintro e w4 ⟨rfl, hb⟩
  replace HY := Lib.hid (HY.out.later hb); clear hb HX
  have HZ := Lib.hid (Is.new w4 45 #[.int .u8 X0, .int .u64 X1, .int .u8 X2, .int .u64 X3])
  replace HY := Lib.hid (HY.out.later (below_alloc (Below.refl _ _) (.cells #[.int .u8 X0, .int .u64 X1, .int .u8 X2, .int .u64 X3] 45)))
  have hp : Tw w w3.heap.size 41 #[.int .u8 X0, .int .u64 X1, .int .u8 X2, .int .u64 X3] w4.heap.size 45 #[.int .u8 X0, .int .u64 X1, .int .u8 X2, .int .u64 X3] (w4.alloc (.cells #[.int .u8 X0, .int .u64 X1, .int .u8 X2, .int .u64 X3] 45)) := ⟨HY.out.box.below, HY.out.two, HZ.out⟩
  replace hp := hp.drew
  clear HY HZ
  go_upto_region 7 with fail
  refine wp_region_held_drew (S := (fun wx => (wx.cell? ⟨w3.heap.size, 0, none⟩ = some (.int .u8 X0) ∧ wx.cell? ⟨w3.heap.size, 1, none⟩ = some (.int .u64 X1) ∧ wx.cell? ⟨w3.heap.size, 2, none⟩ = some (.int .u8 X2) ∧ wx.cell? ⟨w3.heap.size, 3, none⟩ = some (.int .u64 X3)) ∧ (wx.cell? ⟨w4.heap.size, 0, none⟩ = some (.int .u8 X0) ∧ wx.cell? ⟨w4.heap.size, 1, none⟩ = some (.int .u64 X1) ∧ wx.cell? ⟨w4.heap.size, 2, none⟩ = some (.int .u8 X2) ∧ wx.cell? ⟨w4.heap.size, 3, none⟩ = some (.int .u64 X3)))) (by kernel_rfl) hp.cells (fun hHeld => ?_)
  generalize World.drew _ = w5 at *
  refine wpAnyH_take (i := 0) (oi := ⟨some 38, _, _, _, _, _⟩) (v := ?_) rfl (by kernel_rfl) (by kernel_rfl) (by kernel_rfl) (fun _ _ _ h => h) (Or.inl ⟨by rfl, ?_⟩) (by assumption) ?_
  rotate_left 1
  · intro wq hSw; (try dsimp only at hSw); (first | (go_simp; done) | (go_simp; with_reducible rfl))
  try simp only [Act.put, List.setIfInBounds_toArray, List.set_cons_zero, List.set_cons_succ]
  refine wpAnyH_take (i := 1) (oi := ⟨some 39, _, _, _, _, _⟩) (v := ?_) rfl (by kernel_rfl) (by kernel_rfl) (by kernel_rfl) (fun _ _ _ h => h) (Or.inl ⟨by rfl, ?_⟩) (by assumption) ?_
  rotate_left 1
  · intro wq hSw; (try dsimp only at hSw); (first | (go_simp; done) | (go_simp; with_reducible rfl))
  try simp only [Act.put, List.setIfInBounds_toArray, List.set_cons_zero, List.set_cons_succ]
  refine wpAnyH_take (i := 2) (oi := ⟨some 40, _, _, _, _, _⟩) (v := ?_) rfl (by kernel_rfl) (by kernel_rfl) (by kernel_rfl) (fun _ _ _ h => h) (Or.inl ⟨by rfl, ?_⟩) (by assumption) ?_
  rotate_left 1
  · intro wq hSw; (try dsimp only at hSw); (first | (go_simp; done) | (go_simp; with_reducible rfl))
  try simp only [Act.put, List.setIfInBounds_toArray, List.set_cons_zero, List.set_cons_succ]
  refine wpAnyH_take (i := 3) (oi := ⟨some 41, _, _, _, _, _⟩) (v := ?_) rfl (by kernel_rfl) (by kernel_rfl) (by kernel_rfl) (fun _ _ _ h => h) (Or.inl ⟨by rfl, ?_⟩) (by assumption) ?_
  rotate_left 1
  · intro wq hSw; (try dsimp only at hSw); (first | (go_simp; done) | (go_simp; with_reducible rfl))
  try simp only [Act.put, List.setIfInBounds_toArray, List.set_cons_zero, List.set_cons_succ]
  refine wpAnyH_take (i := 4) (oi := ⟨some 42, _, _, _, _, _⟩) (v := ?_) rfl (by kernel_rfl) (by kernel_rfl) (by kernel_rfl) (fun _ _ _ h => h) (Or.inl ⟨by rfl, ?_⟩) (by assumption) ?_
  rotate_left 1
  · intro wq hSw; (try dsimp only at hSw); (first | (go_simp; done) | (go_simp; with_reducible rfl))
  try simp only [Act.put, List.setIfInBounds_toArray, List.set_cons_zero, List.set_cons_succ]
  refine wpAnyH_take (i := 5) (oi := ⟨some 43, _, _, _, _, _⟩) (v := ?_) rfl (by kernel_rfl) (by kernel_rfl) (by kernel_rfl) (fun _ _ _ h => h) (Or.inl ⟨by rfl, ?_⟩) (by assumption) ?_
  rotate_left 1
  · intro wq hSw; (try dsimp only at hSw); (first | (go_simp; done) | (go_simp; with_reducible rfl))
  try simp only [Act.put, List.setIfInBounds_toArray, List.set_cons_zero, List.set_cons_succ]
  refine wpAnyH_take (i := 6) (oi := ⟨some 44, _, _, _, _, _⟩) (v := ?_) rfl (by kernel_rfl) (by kernel_rfl) (by kernel_rfl) (fun _ _ _ h => h) (Or.inl ⟨by rfl, ?_⟩) (by assumption) ?_
  rotate_left 1
  · intro wq hSw; (try dsimp only at hSw); (first | (go_simp; done) | (go_simp; with_reducible rfl))
  try simp only [Act.put, List.setIfInBounds_toArray, List.set_cons_zero, List.set_cons_succ]
  refine wpAnyH_take (i := 7) (oi := ⟨some 45, _, _, _, _, _⟩) (v := ?_) rfl (by kernel_rfl) (by kernel_rfl) (by kernel_rfl) (fun _ _ _ h => h) (Or.inl ⟨by rfl, ?_⟩) (by assumption) ?_
  rotate_left 1
  · intro wq hSw; (try dsimp only at hSw); (first | (go_simp; done) | (go_simp; with_reducible rfl))
  try simp only [Act.put, List.setIfInBounds_toArray, List.set_cons_zero, List.set_cons_succ]
  refine wpAnyH_take (i := 8) (oi := ⟨some 46, _, _, _, _, _⟩) (v := ?_) rfl (by kernel_rfl) (by kernel_rfl) (by kernel_rfl) (fun _ _ _ h => h) (Or.inl ⟨by rfl, ?_⟩) (by assumption) ?_
  rotate_left 1
  · intro wq hSw; (try dsimp only at hSw); (first | (go_simp; done) | (go_simp; with_reducible rfl))
  try simp only [Act.put, List.setIfInBounds_toArray, List.set_cons_zero, List.set_cons_succ]
  refine wpAnyH_take (i := 9) (oi := ⟨some 47, _, _, _, _, _⟩) (v := ?_) rfl (by kernel_rfl) (by kernel_rfl) (by kernel_rfl) (fun _ _ _ h => h) (Or.inl ⟨by rfl, ?_⟩) (by assumption) ?_
  rotate_left 1
  · intro wq hSw; (try dsimp only at hSw); (first | (go_simp; done) | (go_simp; with_reducible rfl))
  try simp only [Act.put, List.setIfInBounds_toArray, List.set_cons_zero, List.set_cons_succ]
  refine wpAnyH_take (i := 11) (oi := ⟨some 49, _, _, _, _, _⟩) (v := ?_) rfl (by kernel_rfl) (by kernel_rfl) (by kernel_rfl) (fun _ _ _ h => h) (Or.inl ⟨by rfl, ?_⟩) (by assumption) ?_
  rotate_left 1
  · intro wq hSw; (try dsimp only at hSw); (first | (go_simp; done) | (go_simp; with_reducible rfl))
  try simp only [Act.put, List.setIfInBounds_toArray, List.set_cons_zero, List.set_cons_succ]
  refine wpAnyH_ready (rs := [10]) (by kernel_rfl) (by simp) ?_
  refine AllReadyH.cons (o := ⟨some 48, _, _, _, _, _⟩) rfl (fun K hK => ?_) AllReadyH.nil
  · go_simp
    with_reducible refine (TX.out _).mono ?_
    rintro e w1 ⟨rfl, hb⟩
    replace hp := hp.later hb
    clear hb
    refine hK.out _ _ hp.cells (fun hHeld => ?_)
    clear hK K
    try simp only [Act.put, List.setIfInBounds_toArray, List.set_cons_zero, List.set_cons_succ]
    refine wpAnyH_take (i := 12) (oi := ⟨some 50, _, _, _, _, _⟩) (v := ?_) rfl (by kernel_rfl) (by kernel_rfl) (by kernel_rfl) (fun _ _ _ h => h) (Or.inl ⟨by rfl, ?_⟩) (by assumption) ?_
    rotate_left 1
    · intro wq hSw; (try dsimp only at hSw); (first | (go_simp; done) | (go_simp; with_reducible rfl))
    try simp only [Act.put, List.setIfInBounds_toArray, List.set_cons_zero, List.set_cons_succ]
    refine wpAnyH_take (i := 13) (oi := ⟨some 51, _, _, _, _, _⟩) (v := ?_) rfl (by kernel_rfl) (by kernel_rfl) (by kernel_rfl) (fun _ _ _ h => h) (Or.inl ⟨by rfl, ?_⟩) (by assumption) ?_
    rotate_left 1
    · intro wq hSw; (try dsimp only at hSw); (first | (go_simp; done) | (go_simp; with_reducible rfl))
    try simp only [Act.put, List.setIfInBounds_toArray, List.set_cons_zero, List.set_cons_succ]
    refine wpAnyH_take (i := 14) (oi := ⟨some 52, _, _, _, _, _⟩) (v := ?_) rfl (by kernel_rfl) (by kernel_rfl) (by kernel_rfl) (fun _ _ _ h => h) (Or.inl ⟨by rfl, ?_⟩) (by assumption) ?_
    rotate_left 1
    · intro wq hSw; (try dsimp only at hSw); (first | (go_simp; done) | (go_simp; with_reducible rfl))
    try simp only [Act.put, List.setIfInBounds_toArray, List.set_cons_zero, List.set_cons_succ]
    refine wpAnyH_take (i := 15) (oi := ⟨some 53, _, _, _, _, _⟩) (v := ?_) rfl (by kernel_rfl) (by kernel_rfl) (by kernel_rfl) (fun _ _ _ h => h) (Or.inl ⟨by rfl, ?_⟩) (by assumption) ?_
    rotate_left 1
    · intro wq hSw; (try dsimp only at hSw); (first | (go_simp; done) | (go_simp; with_reducible rfl))
    try simp only [Act.put, List.setIfInBounds_toArray, List.set_cons_zero, List.set_cons_succ]
    refine wpAnyH_take (i := 16) (oi := ⟨some 54, _, _, _, _, _⟩) (v := ?_) rfl (by kernel_rfl) (by kernel_rfl) (by kernel_rfl) (fun _ _ _ h => h) (Or.inl ⟨by rfl, ?_⟩) (by assumption) ?_
    rotate_left 1
    · intro wq hSw; (try dsimp only at hSw); (first | (go_simp; done) | (go_simp; with_reducible rfl))
    try simp only [Act.put, List.setIfInBounds_toArray, List.set_cons_zero, List.set_cons_succ]
    refine wpAnyH_take (i := 17) (oi := ⟨some 55, _, _, _, _, _⟩) (v := ?_) rfl (by kernel_rfl) (by kernel_rfl) (by kernel_rfl) (fun _ _ _ h => h) (Or.inl ⟨by rfl, ?_⟩) (by assumption) ?_
    rotate_left 1
    · intro wq hSw; (try dsimp only at hSw); (first | (go_simp; done) | (go_simp; with_reducible rfl))
    try simp only [Act.put, List.setIfInBounds_toArray, List.set_cons_zero, List.set_cons_succ]
    refine wpAnyH_take (i := 18) (oi := ⟨some 56, _, _, _, _, _⟩) (v := ?_) rfl (by kernel_rfl) (by kernel_rfl) (by kernel_rfl) (fun _ _ _ h => h) (Or.inl ⟨by rfl, ?_⟩) (by assumption) ?_
    rotate_left 1
    · intro wq hSw; (try dsimp only at hSw); (first | (go_simp; done) | (go_simp; with_reducible rfl))
    try simp only [Act.put, List.setIfInBounds_toArray, List.set_cons_zero, List.set_cons_succ]
    refine wpAnyH_take (i := 19) (oi := ⟨some 57, _, _, _, _, _⟩) (v := ?_) rfl (by kernel_rfl) (by kernel_rfl) (by kernel_rfl) (fun _ _ _ h => h) (Or.inl ⟨by rfl, ?_⟩) (by assumption) ?_
    rotate_left 1
    · intro wq hSw; (try dsimp only at hSw); (first | (go_simp; done) | (go_simp; with_reducible rfl))
    try simp only [Act.put, List.setIfInBounds_toArray, List.set_cons_zero, List.set_cons_succ]
    refine wpAnyH_ready (rs := [20]) (by kernel_rfl) (by simp) ?_
    refine AllReadyH.cons (o := ⟨some 58, _, _, _, _, _⟩) rfl (fun K hK => ?_) AllReadyH.nil
    · go_simp
      with_reducible refine (AW.out _).mono ?_
      rintro e w1 ⟨rfl, hb⟩
      replace hp := hp.later hb
      clear hb
      refine hK.out _ _ hp.cells (fun hHeld => ?_)
      clear hK K
      try simp only [Act.put, List.setIfInBounds_toArray, List.set_cons_zero, List.set_cons_succ]
      refine wpAnyH_take (i := 21) (oi := ⟨some 59, _, _, _, _, _⟩) (v := ?_) rfl (by kernel_rfl) (by kernel_rfl) (by kernel_rfl) (fun _ _ _ h => h) (Or.inl ⟨by rfl, ?_⟩) (by assumption) ?_
      rotate_left 1
      · intro wq hSw; (try dsimp only at hSw); (first | (go_simp; done) | (go_simp; with_reducible rfl))
      try simp only [Act.put, List.setIfInBounds_toArray, List.set_cons_zero, List.set_cons_succ]
      refine wpAnyH_take (i := 22) (oi := ⟨some 4, _, _, _, _, _⟩) (v := ?_) rfl (by kernel_rfl) (by kernel_rfl) (by kernel_rfl) (fun _ _ _ h => h) (Or.inl ⟨by rfl, ?_⟩) (by assumption) ?_
      rotate_left 1
      · intro wq hSw; (try dsimp only at hSw); (first | (go_simp; done) | (go_simp; with_reducible rfl))
      try simp only [Act.put, List.setIfInBounds_toArray, List.set_cons_zero, List.set_cons_succ]
      refine wpAnyH_done (by kernel_rfl) ?_ _
      go_wp2
      go_ret
      exact ⟨rfl, hp.below⟩
theorem changes_any (wh n op b : Nat) (hn : n < 18446744073709551616) (ho : op < 256) (hb : b < 18446744073709551616) (s : ByteArray) (w : World) :
    Calls Try.prog 4 #[.agg #[.int .u8 wh, .int .u64 n, .int .u8 op, .int .u64 b], .string s] w fun e w' => e = .returned (.bool true) ∧ Below w.heap.size w w' := by
  by_cases hs : (1000 : Int) < (s.size : Int)
  · exact changes_long wh n op b s hs w
  · exact changes_core wh n op b s hs _ _ _ _ _ _ _ w (Lib.hid fun w => putChange_any wh n op b ho w) (Lib.hid fun w => rputChange_any wh n op b hn ho hb w) (Lib.hid fun w => theirs_any wh n op b w) (Lib.hid fun w => theirs_any _ _ _ _ w) (Lib.hid fun w => takeChange_any s _ rfl (by omega) w) (Lib.hid fun w => rtakeChange_any s (by omega) w) (Lib.hid fun w => awake_any w)
end Go.Proofs.Ytoeaclfbmppnmaa
