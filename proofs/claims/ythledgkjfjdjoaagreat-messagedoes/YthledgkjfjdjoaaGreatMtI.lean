/- The document's metas of texts. Conditions: lengths below 2^40. -/
import Derived.Test.YthledgkjfjdjoaaGreatMtH
namespace Go.Proofs.YthledgkjfjdjoaaGreat.Mt
open Go.ChangeShapes Go.WideShapes Go.RowKit Go.Codec Go.Num Go.Mt
set_option maxRecDepth 100000
set_option linter.unusedSimpArgs false
set_option linter.unusedVariables false
/-- A boxed answer, and another block. -/
structure Bx2 (w : World) (t : TypeId) (arr : Array Value) (g : Nat) (t2 : TypeId) (ms : Array Value) (wx : World) : Prop where
  box : Box w t arr wx
  two : Is wx g t2 ms
  lt : w.heap.size < g
section
variable {w wx wy : World} {t t2 : TypeId} {arr ns : Array Value} {g : Nat}
theorem Box.and (h : Box w t arr wx) (t2 : TypeId) (ns : Array Value) : Bx2 w t arr wx.heap.size t2 ns (wx.alloc (.cells ns t2)) := ⟨h.later (below_alloc (Below.refl _ _) _), Is.new _ _ _, h.one.lt⟩
theorem Bx2.later (h : Bx2 w t arr g t2 ns wx) (hb : Below wx.heap.size wx wy) : Bx2 w t arr g t2 ns wy := ⟨h.box.later hb, h.two.kept (grow_below hb none) (by simp), h.lt⟩
theorem Bx2.cells {a b c d : Value} (h : Bx2 w t #[a, b, c, d] g t2 ns wx) : wx.cell? ⟨w.heap.size, 0, none⟩ = some a ∧ wx.cell? ⟨w.heap.size, 1, none⟩ = some b ∧ wx.cell? ⟨w.heap.size, 2, none⟩ = some c ∧ wx.cell? ⟨w.heap.size, 3, none⟩ = some d := h.box.cells
theorem Bx2.ms {a b c d : Value} (h : Bx2 w t arr g t2 #[a, b, c, d] wx) : wx.cell? ⟨g, 0, none⟩ = some a ∧ wx.cell? ⟨g, 1, none⟩ = some b ∧ wx.cell? ⟨g, 2, none⟩ = some c ∧ wx.cell? ⟨g, 3, none⟩ = some d := ⟨h.two.cell 0, h.two.cell 1, h.two.cell 2, h.two.cell 3⟩
theorem Bx2.put (h : Bx2 w t arr g t2 ns wx) (i : Nat) (v : Value) : Bx2 w t arr g t2 (ns.setIfInBounds i v) (wx.setCell ⟨g, i, none⟩ v) :=
  ⟨⟨h.box.below.setCell (by exact Nat.le_of_lt h.lt) _, h.box.one.other (by have := h.lt; show w.heap.size ≠ g; omega) _⟩, h.two.put i v, h.lt⟩
end
theorem num_first (s : ByteArray) (h : 0 < s.size) : num s.data.toList 0 1 = s[0].toNat := by
  have := num_step s 0 0 (Nat.le_refl _) h
  rw [num_none] at this
  simpa using this
set_option maxHeartbeats 4000000 in
theorem rtake_torn (s : ByteArray) (hl : s.size < 21) (w : World) :
    Calls Tryz.prog 52 #[.string s] w fun e w' => e = .returned (.tuple #[.agg #[.int .u8 0, .int .u32 0, .int .u64 0, .int .u64 0], .int .i64 10]) ∧ Below w.heap.size w w' := by
  have hl' : (s.size : Int) < 21 := by omega
  have HX := Lib.hid (Box.new w 89 #[.int .u8 0, .int .u32 0, .int .u64 0, .int .u64 0])
  go_enter Tryz.func52, Tryz.ntmps52
  obtain ⟨c0, c1, c2, c3⟩ := HX.out.cells
  have f0 := HX.out.one.frozen 0; have f1 := HX.out.one.frozen 1; have f2 := HX.out.one.frozen 2; have f3 := HX.out.one.frozen 3
  have hlt := HX.out.one.lt
  go_wp2_with fail
  exact bodyPost_ret (v := .tuple #[.agg #[.int .u8 0, .int .u32 0, .int .u64 0, .int .u64 0], .int .i64 10]) (by simp [results, Tryz.results52, go_sem]) rfl ⟨rfl, HX.out.below⟩
set_option maxHeartbeats 8000000 in
theorem rtake_long (s : ByteArray) (k sz mk st : Nat) (h0 : 0 < s.size) (hk : ((s[0].toNat : Nat) : Int) = (k : Int)) (hz : sz < 4294967296) (hl : (21 : Int) < (s.size : Int)) (w : World)
    (N1 : Hid (∀ w, Calls Tryz.prog 87 #[.string s, .int .i64 1, .int .i64 5] w fun e w' => e = .returned (.int .u64 sz) ∧ w = w'))
    (N2 : Hid (∀ w, Calls Tryz.prog 87 #[.string s, .int .i64 5, .int .i64 13] w fun e w' => e = .returned (.int .u64 mk) ∧ w = w'))
    (N3 : Hid (∀ w, Calls Tryz.prog 87 #[.string s, .int .i64 13, .int .i64 21] w fun e w' => e = .returned (.int .u64 st) ∧ w = w')) :
    Calls Tryz.prog 52 #[.string s] w fun e w' => e = .returned (.tuple #[.agg #[.int .u8 0, .int .u32 0, .int .u64 0, .int .u64 0], .int .i64 4]) ∧ Below w.heap.size w w' := by
  have h0' : (0 : Int) < (s.size : Int) := by omega
  have hcv1 : IntKind.u32.wrap (sz : Int) = (sz : Int) := by rw [IntKind.wrap_u32]; omega
  have hcv2 : (sz : Int) % 4294967296 = (sz : Int) := by omega
  have HX := Lib.hid (Box.new w 89 #[.int .u8 0, .int .u32 0, .int .u64 0, .int .u64 0])
  go_enter Tryz.func52, Tryz.ntmps52
  go_upto_region 3 with fail
  have hp := HX.out.drew
  clear HX
  refine wp_region_held_drew (S := (fun wx => wx.cell? ⟨w.heap.size, 0, none⟩ = some (.int .u8 0) ∧ wx.cell? ⟨w.heap.size, 1, none⟩ = some (.int .u32 0) ∧ wx.cell? ⟨w.heap.size, 2, none⟩ = some (.int .u64 0) ∧ wx.cell? ⟨w.heap.size, 3, none⟩ = some (.int .u64 0))) (by kernel_rfl) hp.cells (fun hHeld => ?_)
  generalize World.drew _ = w1 at *
  refine wpAnyH_take (i := 0) (oi := ⟨some 9, _, _, _, _, _⟩) (v := ?_) rfl (by kernel_rfl) (by kernel_rfl) (by kernel_rfl) (fun _ _ _ h => h) (Or.inl ⟨by rfl, ?_⟩) (by assumption) ?_
  rotate_left 1
  · intro wq hSw; (try dsimp only at hSw); (first | (go_simp; done) | (go_simp; with_reducible rfl))
  try simp only [Act.put, List.setIfInBounds_toArray, List.set_cons_zero, List.set_cons_succ]
  refine wpAnyH_take (i := 1) (oi := ⟨some 10, _, _, _, _, _⟩) (v := ?_) rfl (by kernel_rfl) (by kernel_rfl) (by kernel_rfl) (fun _ _ _ h => h) (Or.inl ⟨by rfl, ?_⟩) (by assumption) ?_
  rotate_left 1
  · intro wq hSw; (try dsimp only at hSw); (first | (go_simp; done) | (go_simp; with_reducible rfl))
  try simp only [Act.put, List.setIfInBounds_toArray, List.set_cons_zero, List.set_cons_succ]
  refine wpAnyH_take (i := 2) (oi := ⟨some 11, _, _, _, _, _⟩) (v := ?_) rfl (by kernel_rfl) (by kernel_rfl) (by kernel_rfl) (fun _ _ _ h => h) (Or.inl ⟨by rfl, ?_⟩) (by assumption) ?_
  rotate_left 1
  · intro wq hSw; (try dsimp only at hSw); (first | (go_simp; done) | (go_simp; with_reducible rfl))
  try simp only [Act.put, List.setIfInBounds_toArray, List.set_cons_zero, List.set_cons_succ]
  refine wpAnyH_take (i := 5) (oi := ⟨some 14, _, _, _, _, _⟩) (v := ?_) rfl (by kernel_rfl) (by kernel_rfl) (by kernel_rfl) (fun _ _ _ h => h) (Or.inl ⟨by rfl, ?_⟩) (by assumption) ?_
  rotate_left 1
  · intro wq hSw; (try dsimp only at hSw); (first | (go_simp; done) | (go_simp; with_reducible rfl))
  try simp only [Act.put, List.setIfInBounds_toArray, List.set_cons_zero, List.set_cons_succ]
  refine wpAnyH_take (i := 7) (oi := ⟨some 16, _, _, _, _, _⟩) (v := ?_) rfl (by kernel_rfl) (by kernel_rfl) (by kernel_rfl) (fun _ _ _ h => h) (Or.inl ⟨by rfl, ?_⟩) (by assumption) ?_
  rotate_left 1
  · intro wq hSw; (try dsimp only at hSw); (first | (go_simp; done) | (go_simp; with_reducible rfl))
  try simp only [Act.put, List.setIfInBounds_toArray, List.set_cons_zero, List.set_cons_succ]
  refine wpAnyH_ready (rs := [3, 10]) (by kernel_rfl) (by simp) ?_
  refine AllReadyH.cons (o := ⟨some 12, _, _, _, _, _⟩) rfl (fun K hK => ?_) (AllReadyH.cons (o := ⟨some 4, _, _, _, _, _⟩) rfl (fun K hK => ?_) AllReadyH.nil)
  · go_simp
    with_reducible refine (N1.out _).mono ?_
    rintro e wz ⟨rfl, rfl⟩
    refine hK.out _ _ hp.cells (fun hHeld => ?_)
    clear hK K
    try simp only [Act.put, List.setIfInBounds_toArray, List.set_cons_zero, List.set_cons_succ]
    refine wpAnyH_take (i := 4) (oi := ⟨some 13, _, _, _, _, _⟩) (v := ?_) rfl (by kernel_rfl) (by kernel_rfl) (by kernel_rfl) (fun _ _ _ h => h) (Or.inl ⟨by rfl, ?_⟩) (by assumption) ?_
    rotate_left 1
    · intro wq hSw; (try dsimp only at hSw); (first | (go_simp; done) | (go_simp; with_reducible rfl))
    try simp only [Act.put, List.setIfInBounds_toArray, List.set_cons_zero, List.set_cons_succ]
    refine wpAnyH_ready (rs := [6, 10]) (by kernel_rfl) (by simp) ?_
    refine AllReadyH.cons (o := ⟨some 15, _, _, _, _, _⟩) rfl (fun K hK => ?_) (AllReadyH.cons (o := ⟨some 4, _, _, _, _, _⟩) rfl (fun K hK => ?_) AllReadyH.nil)
    · go_simp
      with_reducible refine (N2.out _).mono ?_
      rintro e wz ⟨rfl, rfl⟩
      refine hK.out _ _ hp.cells (fun hHeld => ?_)
      clear hK K
      try simp only [Act.put, List.setIfInBounds_toArray, List.set_cons_zero, List.set_cons_succ]
      refine wpAnyH_ready (rs := [8, 10]) (by kernel_rfl) (by simp) ?_
      refine AllReadyH.cons (o := ⟨some 17, _, _, _, _, _⟩) rfl (fun K hK => ?_) (AllReadyH.cons (o := ⟨some 4, _, _, _, _, _⟩) rfl (fun K hK => ?_) AllReadyH.nil)
      · go_simp
        with_reducible refine (N3.out _).mono ?_
        rintro e wz ⟨rfl, rfl⟩
        refine hK.out _ _ hp.cells (fun hHeld => ?_)
        clear hK K
        try simp only [Act.put, List.setIfInBounds_toArray, List.set_cons_zero, List.set_cons_succ]
        refine wpAnyH_take (i := 9) (oi := ⟨some 18, _, _, _, _, _⟩) (v := ?_) rfl (by kernel_rfl) (by kernel_rfl) (by kernel_rfl) (fun _ _ _ h => h) (Or.inl ⟨by rfl, ?_⟩) (by assumption) ?_
        rotate_left 1
        · intro wq hSw; (try dsimp only at hSw); (first | (go_simp; done) | (go_simp; with_reducible rfl))
        try simp only [Act.put, List.setIfInBounds_toArray, List.set_cons_zero, List.set_cons_succ]
        refine wpAnyH_ready (rs := [10]) (by kernel_rfl) (by simp) ?_
        refine AllReadyH.cons (o := ⟨some 4, _, _, _, _, _⟩) rfl (fun K hK => ?_) AllReadyH.nil
        · go_simp
          have hp0 := hp
          replace hp := hp.and 89 #[.int .u8 0, .int .u32 0, .int .u64 0, .int .u64 0]
          refine hK.out _ _ hp.cells (fun hHeld => ?_)
          clear hK K
          try simp only [Act.put, List.setIfInBounds_toArray, List.set_cons_zero, List.set_cons_succ]
          refine wpAnyH_ready (rs := [11]) (by kernel_rfl) (by simp) ?_
          refine AllReadyH.cons (o := ⟨none, _, _, _, _, _⟩) rfl (fun K hK => ?_) AllReadyH.nil
          · go_simp
            replace hp := hp0.and 89 #[.int .u8 k, .int .u32 sz, .int .u64 mk, .int .u64 st]
            refine hK.out _ _ hp.cells (fun hHeld => ?_)
            clear hK K
            try simp only [Act.put, List.setIfInBounds_toArray, List.set_cons_zero, List.set_cons_succ]
            refine wpAnyH_done (by kernel_rfl) ?_ _
            obtain ⟨c0, c1, c2, c3⟩ := hp.cells
            have f0 := hp.box.one.frozen 0; have f1 := hp.box.one.frozen 1; have f2 := hp.box.one.frozen 2; have f3 := hp.box.one.frozen 3
            have hlt := hp.box.one.lt
            go_wp2_with fail
            have HF := Lib.hid (Box.four (a' := .int .u8 0) (b' := .int .u32 0) (c' := .int .u64 0) (d' := .int .u64 0) hp.box)
            obtain ⟨d0, d1, d2, d3⟩ := HF.out.cells
            exact bodyPost_ret (v := .tuple #[.agg #[.int .u8 0, .int .u32 0, .int .u64 0, .int .u64 0], .int .i64 4]) (by simp [results, Tryz.results52, go_sem, d0, d1, d2, d3, hlt]) rfl ⟨rfl, HF.out.below⟩
      · go_simp
        have hp0 := hp
        replace hp := hp.and 89 #[.int .u8 0, .int .u32 0, .int .u64 0, .int .u64 0]
        refine hK.out _ _ hp.cells (fun hHeld => ?_)
        clear hK K
        try simp only [Act.put, List.setIfInBounds_toArray, List.set_cons_zero, List.set_cons_succ]
        refine wpAnyH_ready (rs := [8]) (by kernel_rfl) (by simp) ?_
        refine AllReadyH.cons (o := ⟨some 17, _, _, _, _, _⟩) rfl (fun K hK => ?_) AllReadyH.nil
        · go_simp
          with_reducible refine (N3.out _).mono ?_
          rintro e wz ⟨rfl, rfl⟩
          refine hK.out _ _ hp.cells (fun hHeld => ?_)
          clear hK K
          try simp only [Act.put, List.setIfInBounds_toArray, List.set_cons_zero, List.set_cons_succ]
          refine wpAnyH_take (i := 9) (oi := ⟨some 18, _, _, _, _, _⟩) (v := ?_) rfl (by kernel_rfl) (by kernel_rfl) (by kernel_rfl) (fun _ _ _ h => h) (Or.inl ⟨by rfl, ?_⟩) (by assumption) ?_
          rotate_left 1
          · intro wq hSw; (try dsimp only at hSw); (first | (go_simp; done) | (go_simp; with_reducible rfl))
          try simp only [Act.put, List.setIfInBounds_toArray, List.set_cons_zero, List.set_cons_succ]
          refine wpAnyH_ready (rs := [11]) (by kernel_rfl) (by simp) ?_
          refine AllReadyH.cons (o := ⟨none, _, _, _, _, _⟩) rfl (fun K hK => ?_) AllReadyH.nil
          · go_simp
            replace hp := hp0.and 89 #[.int .u8 k, .int .u32 sz, .int .u64 mk, .int .u64 st]
            refine hK.out _ _ hp.cells (fun hHeld => ?_)
            clear hK K
            try simp only [Act.put, List.setIfInBounds_toArray, List.set_cons_zero, List.set_cons_succ]
            refine wpAnyH_done (by kernel_rfl) ?_ _
            obtain ⟨c0, c1, c2, c3⟩ := hp.cells
            have f0 := hp.box.one.frozen 0; have f1 := hp.box.one.frozen 1; have f2 := hp.box.one.frozen 2; have f3 := hp.box.one.frozen 3
            have hlt := hp.box.one.lt
            go_wp2_with fail
            have HF := Lib.hid (Box.four (a' := .int .u8 0) (b' := .int .u32 0) (c' := .int .u64 0) (d' := .int .u64 0) hp.box)
            obtain ⟨d0, d1, d2, d3⟩ := HF.out.cells
            exact bodyPost_ret (v := .tuple #[.agg #[.int .u8 0, .int .u32 0, .int .u64 0, .int .u64 0], .int .i64 4]) (by simp [results, Tryz.results52, go_sem, d0, d1, d2, d3, hlt]) rfl ⟨rfl, HF.out.below⟩
    · go_simp
      have hp0 := hp
      replace hp := hp.and 89 #[.int .u8 0, .int .u32 0, .int .u64 0, .int .u64 0]
      refine hK.out _ _ hp.cells (fun hHeld => ?_)
      clear hK K
      try simp only [Act.put, List.setIfInBounds_toArray, List.set_cons_zero, List.set_cons_succ]
      refine wpAnyH_ready (rs := [6]) (by kernel_rfl) (by simp) ?_
      refine AllReadyH.cons (o := ⟨some 15, _, _, _, _, _⟩) rfl (fun K hK => ?_) AllReadyH.nil
      · go_simp
        with_reducible refine (N2.out _).mono ?_
        rintro e wz ⟨rfl, rfl⟩
        refine hK.out _ _ hp.cells (fun hHeld => ?_)
        clear hK K
        try simp only [Act.put, List.setIfInBounds_toArray, List.set_cons_zero, List.set_cons_succ]
        refine wpAnyH_ready (rs := [8]) (by kernel_rfl) (by simp) ?_
        refine AllReadyH.cons (o := ⟨some 17, _, _, _, _, _⟩) rfl (fun K hK => ?_) AllReadyH.nil
        · go_simp
          with_reducible refine (N3.out _).mono ?_
          rintro e wz ⟨rfl, rfl⟩
          refine hK.out _ _ hp.cells (fun hHeld => ?_)
          clear hK K
          try simp only [Act.put, List.setIfInBounds_toArray, List.set_cons_zero, List.set_cons_succ]
          refine wpAnyH_take (i := 9) (oi := ⟨some 18, _, _, _, _, _⟩) (v := ?_) rfl (by kernel_rfl) (by kernel_rfl) (by kernel_rfl) (fun _ _ _ h => h) (Or.inl ⟨by rfl, ?_⟩) (by assumption) ?_
          rotate_left 1
          · intro wq hSw; (try dsimp only at hSw); (first | (go_simp; done) | (go_simp; with_reducible rfl))
          try simp only [Act.put, List.setIfInBounds_toArray, List.set_cons_zero, List.set_cons_succ]
          refine wpAnyH_ready (rs := [11]) (by kernel_rfl) (by simp) ?_
          refine AllReadyH.cons (o := ⟨none, _, _, _, _, _⟩) rfl (fun K hK => ?_) AllReadyH.nil
          · go_simp
            replace hp := hp0.and 89 #[.int .u8 k, .int .u32 sz, .int .u64 mk, .int .u64 st]
            refine hK.out _ _ hp.cells (fun hHeld => ?_)
            clear hK K
            try simp only [Act.put, List.setIfInBounds_toArray, List.set_cons_zero, List.set_cons_succ]
            refine wpAnyH_done (by kernel_rfl) ?_ _
            obtain ⟨c0, c1, c2, c3⟩ := hp.cells
            have f0 := hp.box.one.frozen 0; have f1 := hp.box.one.frozen 1; have f2 := hp.box.one.frozen 2; have f3 := hp.box.one.frozen 3
            have hlt := hp.box.one.lt
            go_wp2_with fail
            have HF := Lib.hid (Box.four (a' := .int .u8 0) (b' := .int .u32 0) (c' := .int .u64 0) (d' := .int .u64 0) hp.box)
            obtain ⟨d0, d1, d2, d3⟩ := HF.out.cells
            exact bodyPost_ret (v := .tuple #[.agg #[.int .u8 0, .int .u32 0, .int .u64 0, .int .u64 0], .int .i64 4]) (by simp [results, Tryz.results52, go_sem, d0, d1, d2, d3, hlt]) rfl ⟨rfl, HF.out.below⟩
  · go_simp
    have hp0 := hp
    replace hp := hp.and 89 #[.int .u8 0, .int .u32 0, .int .u64 0, .int .u64 0]
    refine hK.out _ _ hp.cells (fun hHeld => ?_)
    clear hK K
    try simp only [Act.put, List.setIfInBounds_toArray, List.set_cons_zero, List.set_cons_succ]
    refine wpAnyH_ready (rs := [3]) (by kernel_rfl) (by simp) ?_
    refine AllReadyH.cons (o := ⟨some 12, _, _, _, _, _⟩) rfl (fun K hK => ?_) AllReadyH.nil
    · go_simp
      with_reducible refine (N1.out _).mono ?_
      rintro e wz ⟨rfl, rfl⟩
      refine hK.out _ _ hp.cells (fun hHeld => ?_)
      clear hK K
      try simp only [Act.put, List.setIfInBounds_toArray, List.set_cons_zero, List.set_cons_succ]
      refine wpAnyH_take (i := 4) (oi := ⟨some 13, _, _, _, _, _⟩) (v := ?_) rfl (by kernel_rfl) (by kernel_rfl) (by kernel_rfl) (fun _ _ _ h => h) (Or.inl ⟨by rfl, ?_⟩) (by assumption) ?_
      rotate_left 1
      · intro wq hSw; (try dsimp only at hSw); (first | (go_simp; done) | (go_simp; with_reducible rfl))
      try simp only [Act.put, List.setIfInBounds_toArray, List.set_cons_zero, List.set_cons_succ]
      refine wpAnyH_ready (rs := [6]) (by kernel_rfl) (by simp) ?_
      refine AllReadyH.cons (o := ⟨some 15, _, _, _, _, _⟩) rfl (fun K hK => ?_) AllReadyH.nil
      · go_simp
        with_reducible refine (N2.out _).mono ?_
        rintro e wz ⟨rfl, rfl⟩
        refine hK.out _ _ hp.cells (fun hHeld => ?_)
        clear hK K
        try simp only [Act.put, List.setIfInBounds_toArray, List.set_cons_zero, List.set_cons_succ]
        refine wpAnyH_ready (rs := [8]) (by kernel_rfl) (by simp) ?_
        refine AllReadyH.cons (o := ⟨some 17, _, _, _, _, _⟩) rfl (fun K hK => ?_) AllReadyH.nil
        · go_simp
          with_reducible refine (N3.out _).mono ?_
          rintro e wz ⟨rfl, rfl⟩
          refine hK.out _ _ hp.cells (fun hHeld => ?_)
          clear hK K
          try simp only [Act.put, List.setIfInBounds_toArray, List.set_cons_zero, List.set_cons_succ]
          refine wpAnyH_take (i := 9) (oi := ⟨some 18, _, _, _, _, _⟩) (v := ?_) rfl (by kernel_rfl) (by kernel_rfl) (by kernel_rfl) (fun _ _ _ h => h) (Or.inl ⟨by rfl, ?_⟩) (by assumption) ?_
          rotate_left 1
          · intro wq hSw; (try dsimp only at hSw); (first | (go_simp; done) | (go_simp; with_reducible rfl))
          try simp only [Act.put, List.setIfInBounds_toArray, List.set_cons_zero, List.set_cons_succ]
          refine wpAnyH_ready (rs := [11]) (by kernel_rfl) (by simp) ?_
          refine AllReadyH.cons (o := ⟨none, _, _, _, _, _⟩) rfl (fun K hK => ?_) AllReadyH.nil
          · go_simp
            replace hp := hp0.and 89 #[.int .u8 k, .int .u32 sz, .int .u64 mk, .int .u64 st]
            refine hK.out _ _ hp.cells (fun hHeld => ?_)
            clear hK K
            try simp only [Act.put, List.setIfInBounds_toArray, List.set_cons_zero, List.set_cons_succ]
            refine wpAnyH_done (by kernel_rfl) ?_ _
            obtain ⟨c0, c1, c2, c3⟩ := hp.cells
            have f0 := hp.box.one.frozen 0; have f1 := hp.box.one.frozen 1; have f2 := hp.box.one.frozen 2; have f3 := hp.box.one.frozen 3
            have hlt := hp.box.one.lt
            go_wp2_with fail
            have HF := Lib.hid (Box.four (a' := .int .u8 0) (b' := .int .u32 0) (c' := .int .u64 0) (d' := .int .u64 0) hp.box)
            obtain ⟨d0, d1, d2, d3⟩ := HF.out.cells
            exact bodyPost_ret (v := .tuple #[.agg #[.int .u8 0, .int .u32 0, .int .u64 0, .int .u64 0], .int .i64 4]) (by simp [results, Tryz.results52, go_sem, d0, d1, d2, d3, hlt]) rfl ⟨rfl, HF.out.below⟩
set_option maxHeartbeats 8000000 in
theorem rtake_form (s : ByteArray) (k sz mk st : Nat) (h0 : 0 < s.size) (hk : ((s[0].toNat : Nat) : Int) = (k : Int)) (hz : sz < 4294967296) (hl : (s.size : Int) = (21 : Int)) (w : World)
    (N1 : Hid (∀ w, Calls Tryz.prog 87 #[.string s, .int .i64 1, .int .i64 5] w fun e w' => e = .returned (.int .u64 sz) ∧ w = w'))
    (N2 : Hid (∀ w, Calls Tryz.prog 87 #[.string s, .int .i64 5, .int .i64 13] w fun e w' => e = .returned (.int .u64 mk) ∧ w = w'))
    (N3 : Hid (∀ w, Calls Tryz.prog 87 #[.string s, .int .i64 13, .int .i64 21] w fun e w' => e = .returned (.int .u64 st) ∧ w = w')) (MB : ∀ w, Calls Tryz.prog 88 #[.agg #[.int .u8 k, .int .u32 sz, .int .u64 mk, .int .u64 st]] w fun e w' => e = .returned (.bool false) ∧ Below w.heap.size w w') :
    Calls Tryz.prog 52 #[.string s] w fun e w' => e = .returned (.tuple #[.agg #[.int .u8 0, .int .u32 0, .int .u64 0, .int .u64 0], .int .i64 4]) ∧ Below w.heap.size w w' := by
  have h0' : (0 : Int) < (s.size : Int) := by omega
  have hcv1 : IntKind.u32.wrap (sz : Int) = (sz : Int) := by rw [IntKind.wrap_u32]; omega
  have hcv2 : (sz : Int) % 4294967296 = (sz : Int) := by omega
  have HX := Lib.hid (Box.new w 89 #[.int .u8 0, .int .u32 0, .int .u64 0, .int .u64 0])
  go_enter Tryz.func52, Tryz.ntmps52
  go_upto_region 3 with fail
  have hp := HX.out.drew
  clear HX
  refine wp_region_held_drew (S := (fun wx => wx.cell? ⟨w.heap.size, 0, none⟩ = some (.int .u8 0) ∧ wx.cell? ⟨w.heap.size, 1, none⟩ = some (.int .u32 0) ∧ wx.cell? ⟨w.heap.size, 2, none⟩ = some (.int .u64 0) ∧ wx.cell? ⟨w.heap.size, 3, none⟩ = some (.int .u64 0))) (by kernel_rfl) hp.cells (fun hHeld => ?_)
  generalize World.drew _ = w1 at *
  refine wpAnyH_take (i := 0) (oi := ⟨some 9, _, _, _, _, _⟩) (v := ?_) rfl (by kernel_rfl) (by kernel_rfl) (by kernel_rfl) (fun _ _ _ h => h) (Or.inl ⟨by rfl, ?_⟩) (by assumption) ?_
  rotate_left 1
  · intro wq hSw; (try dsimp only at hSw); (first | (go_simp; done) | (go_simp; with_reducible rfl))
  try simp only [Act.put, List.setIfInBounds_toArray, List.set_cons_zero, List.set_cons_succ]
  refine wpAnyH_take (i := 1) (oi := ⟨some 10, _, _, _, _, _⟩) (v := ?_) rfl (by kernel_rfl) (by kernel_rfl) (by kernel_rfl) (fun _ _ _ h => h) (Or.inl ⟨by rfl, ?_⟩) (by assumption) ?_
  rotate_left 1
  · intro wq hSw; (try dsimp only at hSw); (first | (go_simp; done) | (go_simp; with_reducible rfl))
  try simp only [Act.put, List.setIfInBounds_toArray, List.set_cons_zero, List.set_cons_succ]
  refine wpAnyH_take (i := 2) (oi := ⟨some 11, _, _, _, _, _⟩) (v := ?_) rfl (by kernel_rfl) (by kernel_rfl) (by kernel_rfl) (fun _ _ _ h => h) (Or.inl ⟨by rfl, ?_⟩) (by assumption) ?_
  rotate_left 1
  · intro wq hSw; (try dsimp only at hSw); (first | (go_simp; done) | (go_simp; with_reducible rfl))
  try simp only [Act.put, List.setIfInBounds_toArray, List.set_cons_zero, List.set_cons_succ]
  refine wpAnyH_take (i := 5) (oi := ⟨some 14, _, _, _, _, _⟩) (v := ?_) rfl (by kernel_rfl) (by kernel_rfl) (by kernel_rfl) (fun _ _ _ h => h) (Or.inl ⟨by rfl, ?_⟩) (by assumption) ?_
  rotate_left 1
  · intro wq hSw; (try dsimp only at hSw); (first | (go_simp; done) | (go_simp; with_reducible rfl))
  try simp only [Act.put, List.setIfInBounds_toArray, List.set_cons_zero, List.set_cons_succ]
  refine wpAnyH_take (i := 7) (oi := ⟨some 16, _, _, _, _, _⟩) (v := ?_) rfl (by kernel_rfl) (by kernel_rfl) (by kernel_rfl) (fun _ _ _ h => h) (Or.inl ⟨by rfl, ?_⟩) (by assumption) ?_
  rotate_left 1
  · intro wq hSw; (try dsimp only at hSw); (first | (go_simp; done) | (go_simp; with_reducible rfl))
  try simp only [Act.put, List.setIfInBounds_toArray, List.set_cons_zero, List.set_cons_succ]
  refine wpAnyH_ready (rs := [3, 10]) (by kernel_rfl) (by simp) ?_
  refine AllReadyH.cons (o := ⟨some 12, _, _, _, _, _⟩) rfl (fun K hK => ?_) (AllReadyH.cons (o := ⟨some 4, _, _, _, _, _⟩) rfl (fun K hK => ?_) AllReadyH.nil)
  · go_simp
    with_reducible refine (N1.out _).mono ?_
    rintro e wz ⟨rfl, rfl⟩
    refine hK.out _ _ hp.cells (fun hHeld => ?_)
    clear hK K
    try simp only [Act.put, List.setIfInBounds_toArray, List.set_cons_zero, List.set_cons_succ]
    refine wpAnyH_take (i := 4) (oi := ⟨some 13, _, _, _, _, _⟩) (v := ?_) rfl (by kernel_rfl) (by kernel_rfl) (by kernel_rfl) (fun _ _ _ h => h) (Or.inl ⟨by rfl, ?_⟩) (by assumption) ?_
    rotate_left 1
    · intro wq hSw; (try dsimp only at hSw); (first | (go_simp; done) | (go_simp; with_reducible rfl))
    try simp only [Act.put, List.setIfInBounds_toArray, List.set_cons_zero, List.set_cons_succ]
    refine wpAnyH_ready (rs := [6, 10]) (by kernel_rfl) (by simp) ?_
    refine AllReadyH.cons (o := ⟨some 15, _, _, _, _, _⟩) rfl (fun K hK => ?_) (AllReadyH.cons (o := ⟨some 4, _, _, _, _, _⟩) rfl (fun K hK => ?_) AllReadyH.nil)
    · go_simp
      with_reducible refine (N2.out _).mono ?_
      rintro e wz ⟨rfl, rfl⟩
      refine hK.out _ _ hp.cells (fun hHeld => ?_)
      clear hK K
      try simp only [Act.put, List.setIfInBounds_toArray, List.set_cons_zero, List.set_cons_succ]
      refine wpAnyH_ready (rs := [8, 10]) (by kernel_rfl) (by simp) ?_
      refine AllReadyH.cons (o := ⟨some 17, _, _, _, _, _⟩) rfl (fun K hK => ?_) (AllReadyH.cons (o := ⟨some 4, _, _, _, _, _⟩) rfl (fun K hK => ?_) AllReadyH.nil)
      · go_simp
        with_reducible refine (N3.out _).mono ?_
        rintro e wz ⟨rfl, rfl⟩
        refine hK.out _ _ hp.cells (fun hHeld => ?_)
        clear hK K
        try simp only [Act.put, List.setIfInBounds_toArray, List.set_cons_zero, List.set_cons_succ]
        refine wpAnyH_take (i := 9) (oi := ⟨some 18, _, _, _, _, _⟩) (v := ?_) rfl (by kernel_rfl) (by kernel_rfl) (by kernel_rfl) (fun _ _ _ h => h) (Or.inl ⟨by rfl, ?_⟩) (by assumption) ?_
        rotate_left 1
        · intro wq hSw; (try dsimp only at hSw); (first | (go_simp; done) | (go_simp; with_reducible rfl))
        try simp only [Act.put, List.setIfInBounds_toArray, List.set_cons_zero, List.set_cons_succ]
        refine wpAnyH_ready (rs := [10]) (by kernel_rfl) (by simp) ?_
        refine AllReadyH.cons (o := ⟨some 4, _, _, _, _, _⟩) rfl (fun K hK => ?_) AllReadyH.nil
        · go_simp
          have hp0 := hp
          replace hp := hp.and 89 #[.int .u8 0, .int .u32 0, .int .u64 0, .int .u64 0]
          refine hK.out _ _ hp.cells (fun hHeld => ?_)
          clear hK K
          try simp only [Act.put, List.setIfInBounds_toArray, List.set_cons_zero, List.set_cons_succ]
          refine wpAnyH_ready (rs := [11]) (by kernel_rfl) (by simp) ?_
          refine AllReadyH.cons (o := ⟨none, _, _, _, _, _⟩) rfl (fun K hK => ?_) AllReadyH.nil
          · go_simp
            replace hp := hp0.and 89 #[.int .u8 k, .int .u32 sz, .int .u64 mk, .int .u64 st]
            refine hK.out _ _ hp.cells (fun hHeld => ?_)
            clear hK K
            try simp only [Act.put, List.setIfInBounds_toArray, List.set_cons_zero, List.set_cons_succ]
            refine wpAnyH_done (by kernel_rfl) ?_ _
            obtain ⟨m0, m1, m2, m3⟩ := hp.ms
            have hltm := hp.two.lt
            go_wp2_with fail
            refine (MB _).mono ?_; rintro e w3 ⟨rfl, hb⟩
            replace hp := hp.later hb
            clear hb m0 m1 m2 m3 hltm
            obtain ⟨m0, m1, m2, m3⟩ := hp.ms
            have hltm := hp.two.lt
            obtain ⟨c0, c1, c2, c3⟩ := hp.cells
            have f0 := hp.box.one.frozen 0; have f1 := hp.box.one.frozen 1; have f2 := hp.box.one.frozen 2; have f3 := hp.box.one.frozen 3
            have hlt := hp.box.one.lt
            go_wp2_with fail
            have HF := Lib.hid (Box.four (a' := .int .u8 0) (b' := .int .u32 0) (c' := .int .u64 0) (d' := .int .u64 0) hp.box)
            obtain ⟨d0, d1, d2, d3⟩ := HF.out.cells
            exact bodyPost_ret (v := .tuple #[.agg #[.int .u8 0, .int .u32 0, .int .u64 0, .int .u64 0], .int .i64 4]) (by simp [results, Tryz.results52, go_sem, d0, d1, d2, d3, hlt]) rfl ⟨rfl, HF.out.below⟩
      · go_simp
        have hp0 := hp
        replace hp := hp.and 89 #[.int .u8 0, .int .u32 0, .int .u64 0, .int .u64 0]
        refine hK.out _ _ hp.cells (fun hHeld => ?_)
        clear hK K
        try simp only [Act.put, List.setIfInBounds_toArray, List.set_cons_zero, List.set_cons_succ]
        refine wpAnyH_ready (rs := [8]) (by kernel_rfl) (by simp) ?_
        refine AllReadyH.cons (o := ⟨some 17, _, _, _, _, _⟩) rfl (fun K hK => ?_) AllReadyH.nil
        · go_simp
          with_reducible refine (N3.out _).mono ?_
          rintro e wz ⟨rfl, rfl⟩
          refine hK.out _ _ hp.cells (fun hHeld => ?_)
          clear hK K
          try simp only [Act.put, List.setIfInBounds_toArray, List.set_cons_zero, List.set_cons_succ]
          refine wpAnyH_take (i := 9) (oi := ⟨some 18, _, _, _, _, _⟩) (v := ?_) rfl (by kernel_rfl) (by kernel_rfl) (by kernel_rfl) (fun _ _ _ h => h) (Or.inl ⟨by rfl, ?_⟩) (by assumption) ?_
          rotate_left 1
          · intro wq hSw; (try dsimp only at hSw); (first | (go_simp; done) | (go_simp; with_reducible rfl))
          try simp only [Act.put, List.setIfInBounds_toArray, List.set_cons_zero, List.set_cons_succ]
          refine wpAnyH_ready (rs := [11]) (by kernel_rfl) (by simp) ?_
          refine AllReadyH.cons (o := ⟨none, _, _, _, _, _⟩) rfl (fun K hK => ?_) AllReadyH.nil
          · go_simp
            replace hp := hp0.and 89 #[.int .u8 k, .int .u32 sz, .int .u64 mk, .int .u64 st]
            refine hK.out _ _ hp.cells (fun hHeld => ?_)
            clear hK K
            try simp only [Act.put, List.setIfInBounds_toArray, List.set_cons_zero, List.set_cons_succ]
            refine wpAnyH_done (by kernel_rfl) ?_ _
            obtain ⟨m0, m1, m2, m3⟩ := hp.ms
            have hltm := hp.two.lt
            go_wp2_with fail
            refine (MB _).mono ?_; rintro e w3 ⟨rfl, hb⟩
            replace hp := hp.later hb
            clear hb m0 m1 m2 m3 hltm
            obtain ⟨m0, m1, m2, m3⟩ := hp.ms
            have hltm := hp.two.lt
            obtain ⟨c0, c1, c2, c3⟩ := hp.cells
            have f0 := hp.box.one.frozen 0; have f1 := hp.box.one.frozen 1; have f2 := hp.box.one.frozen 2; have f3 := hp.box.one.frozen 3
            have hlt := hp.box.one.lt
            go_wp2_with fail
            have HF := Lib.hid (Box.four (a' := .int .u8 0) (b' := .int .u32 0) (c' := .int .u64 0) (d' := .int .u64 0) hp.box)
            obtain ⟨d0, d1, d2, d3⟩ := HF.out.cells
            exact bodyPost_ret (v := .tuple #[.agg #[.int .u8 0, .int .u32 0, .int .u64 0, .int .u64 0], .int .i64 4]) (by simp [results, Tryz.results52, go_sem, d0, d1, d2, d3, hlt]) rfl ⟨rfl, HF.out.below⟩
    · go_simp
      have hp0 := hp
      replace hp := hp.and 89 #[.int .u8 0, .int .u32 0, .int .u64 0, .int .u64 0]
      refine hK.out _ _ hp.cells (fun hHeld => ?_)
      clear hK K
      try simp only [Act.put, List.setIfInBounds_toArray, List.set_cons_zero, List.set_cons_succ]
      refine wpAnyH_ready (rs := [6]) (by kernel_rfl) (by simp) ?_
      refine AllReadyH.cons (o := ⟨some 15, _, _, _, _, _⟩) rfl (fun K hK => ?_) AllReadyH.nil
      · go_simp
        with_reducible refine (N2.out _).mono ?_
        rintro e wz ⟨rfl, rfl⟩
        refine hK.out _ _ hp.cells (fun hHeld => ?_)
        clear hK K
        try simp only [Act.put, List.setIfInBounds_toArray, List.set_cons_zero, List.set_cons_succ]
        refine wpAnyH_ready (rs := [8]) (by kernel_rfl) (by simp) ?_
        refine AllReadyH.cons (o := ⟨some 17, _, _, _, _, _⟩) rfl (fun K hK => ?_) AllReadyH.nil
        · go_simp
          with_reducible refine (N3.out _).mono ?_
          rintro e wz ⟨rfl, rfl⟩
          refine hK.out _ _ hp.cells (fun hHeld => ?_)
          clear hK K
          try simp only [Act.put, List.setIfInBounds_toArray, List.set_cons_zero, List.set_cons_succ]
          refine wpAnyH_take (i := 9) (oi := ⟨some 18, _, _, _, _, _⟩) (v := ?_) rfl (by kernel_rfl) (by kernel_rfl) (by kernel_rfl) (fun _ _ _ h => h) (Or.inl ⟨by rfl, ?_⟩) (by assumption) ?_
          rotate_left 1
          · intro wq hSw; (try dsimp only at hSw); (first | (go_simp; done) | (go_simp; with_reducible rfl))
          try simp only [Act.put, List.setIfInBounds_toArray, List.set_cons_zero, List.set_cons_succ]
          refine wpAnyH_ready (rs := [11]) (by kernel_rfl) (by simp) ?_
          refine AllReadyH.cons (o := ⟨none, _, _, _, _, _⟩) rfl (fun K hK => ?_) AllReadyH.nil
          · go_simp
            replace hp := hp0.and 89 #[.int .u8 k, .int .u32 sz, .int .u64 mk, .int .u64 st]
            refine hK.out _ _ hp.cells (fun hHeld => ?_)
            clear hK K
            try simp only [Act.put, List.setIfInBounds_toArray, List.set_cons_zero, List.set_cons_succ]
            refine wpAnyH_done (by kernel_rfl) ?_ _
            obtain ⟨m0, m1, m2, m3⟩ := hp.ms
            have hltm := hp.two.lt
            go_wp2_with fail
            refine (MB _).mono ?_; rintro e w3 ⟨rfl, hb⟩
            replace hp := hp.later hb
            clear hb m0 m1 m2 m3 hltm
            obtain ⟨m0, m1, m2, m3⟩ := hp.ms
            have hltm := hp.two.lt
            obtain ⟨c0, c1, c2, c3⟩ := hp.cells
            have f0 := hp.box.one.frozen 0; have f1 := hp.box.one.frozen 1; have f2 := hp.box.one.frozen 2; have f3 := hp.box.one.frozen 3
            have hlt := hp.box.one.lt
            go_wp2_with fail
            have HF := Lib.hid (Box.four (a' := .int .u8 0) (b' := .int .u32 0) (c' := .int .u64 0) (d' := .int .u64 0) hp.box)
            obtain ⟨d0, d1, d2, d3⟩ := HF.out.cells
            exact bodyPost_ret (v := .tuple #[.agg #[.int .u8 0, .int .u32 0, .int .u64 0, .int .u64 0], .int .i64 4]) (by simp [results, Tryz.results52, go_sem, d0, d1, d2, d3, hlt]) rfl ⟨rfl, HF.out.below⟩
  · go_simp
    have hp0 := hp
    replace hp := hp.and 89 #[.int .u8 0, .int .u32 0, .int .u64 0, .int .u64 0]
    refine hK.out _ _ hp.cells (fun hHeld => ?_)
    clear hK K
    try simp only [Act.put, List.setIfInBounds_toArray, List.set_cons_zero, List.set_cons_succ]
    refine wpAnyH_ready (rs := [3]) (by kernel_rfl) (by simp) ?_
    refine AllReadyH.cons (o := ⟨some 12, _, _, _, _, _⟩) rfl (fun K hK => ?_) AllReadyH.nil
    · go_simp
      with_reducible refine (N1.out _).mono ?_
      rintro e wz ⟨rfl, rfl⟩
      refine hK.out _ _ hp.cells (fun hHeld => ?_)
      clear hK K
      try simp only [Act.put, List.setIfInBounds_toArray, List.set_cons_zero, List.set_cons_succ]
      refine wpAnyH_take (i := 4) (oi := ⟨some 13, _, _, _, _, _⟩) (v := ?_) rfl (by kernel_rfl) (by kernel_rfl) (by kernel_rfl) (fun _ _ _ h => h) (Or.inl ⟨by rfl, ?_⟩) (by assumption) ?_
      rotate_left 1
      · intro wq hSw; (try dsimp only at hSw); (first | (go_simp; done) | (go_simp; with_reducible rfl))
      try simp only [Act.put, List.setIfInBounds_toArray, List.set_cons_zero, List.set_cons_succ]
      refine wpAnyH_ready (rs := [6]) (by kernel_rfl) (by simp) ?_
      refine AllReadyH.cons (o := ⟨some 15, _, _, _, _, _⟩) rfl (fun K hK => ?_) AllReadyH.nil
      · go_simp
        with_reducible refine (N2.out _).mono ?_
        rintro e wz ⟨rfl, rfl⟩
        refine hK.out _ _ hp.cells (fun hHeld => ?_)
        clear hK K
        try simp only [Act.put, List.setIfInBounds_toArray, List.set_cons_zero, List.set_cons_succ]
        refine wpAnyH_ready (rs := [8]) (by kernel_rfl) (by simp) ?_
        refine AllReadyH.cons (o := ⟨some 17, _, _, _, _, _⟩) rfl (fun K hK => ?_) AllReadyH.nil
        · go_simp
          with_reducible refine (N3.out _).mono ?_
          rintro e wz ⟨rfl, rfl⟩
          refine hK.out _ _ hp.cells (fun hHeld => ?_)
          clear hK K
          try simp only [Act.put, List.setIfInBounds_toArray, List.set_cons_zero, List.set_cons_succ]
          refine wpAnyH_take (i := 9) (oi := ⟨some 18, _, _, _, _, _⟩) (v := ?_) rfl (by kernel_rfl) (by kernel_rfl) (by kernel_rfl) (fun _ _ _ h => h) (Or.inl ⟨by rfl, ?_⟩) (by assumption) ?_
          rotate_left 1
          · intro wq hSw; (try dsimp only at hSw); (first | (go_simp; done) | (go_simp; with_reducible rfl))
          try simp only [Act.put, List.setIfInBounds_toArray, List.set_cons_zero, List.set_cons_succ]
          refine wpAnyH_ready (rs := [11]) (by kernel_rfl) (by simp) ?_
          refine AllReadyH.cons (o := ⟨none, _, _, _, _, _⟩) rfl (fun K hK => ?_) AllReadyH.nil
          · go_simp
            replace hp := hp0.and 89 #[.int .u8 k, .int .u32 sz, .int .u64 mk, .int .u64 st]
            refine hK.out _ _ hp.cells (fun hHeld => ?_)
            clear hK K
            try simp only [Act.put, List.setIfInBounds_toArray, List.set_cons_zero, List.set_cons_succ]
            refine wpAnyH_done (by kernel_rfl) ?_ _
            obtain ⟨m0, m1, m2, m3⟩ := hp.ms
            have hltm := hp.two.lt
            go_wp2_with fail
            refine (MB _).mono ?_; rintro e w3 ⟨rfl, hb⟩
            replace hp := hp.later hb
            clear hb m0 m1 m2 m3 hltm
            obtain ⟨m0, m1, m2, m3⟩ := hp.ms
            have hltm := hp.two.lt
            obtain ⟨c0, c1, c2, c3⟩ := hp.cells
            have f0 := hp.box.one.frozen 0; have f1 := hp.box.one.frozen 1; have f2 := hp.box.one.frozen 2; have f3 := hp.box.one.frozen 3
            have hlt := hp.box.one.lt
            go_wp2_with fail
            have HF := Lib.hid (Box.four (a' := .int .u8 0) (b' := .int .u32 0) (c' := .int .u64 0) (d' := .int .u64 0) hp.box)
            obtain ⟨d0, d1, d2, d3⟩ := HF.out.cells
            exact bodyPost_ret (v := .tuple #[.agg #[.int .u8 0, .int .u32 0, .int .u64 0, .int .u64 0], .int .i64 4]) (by simp [results, Tryz.results52, go_sem, d0, d1, d2, d3, hlt]) rfl ⟨rfl, HF.out.below⟩
set_option maxHeartbeats 8000000 in
theorem rtake_ok (s : ByteArray) (k sz mk st : Nat) (h0 : 0 < s.size) (hk : ((s[0].toNat : Nat) : Int) = (k : Int)) (hz : sz < 4294967296) (hl : (s.size : Int) = (21 : Int)) (w : World)
    (N1 : Hid (∀ w, Calls Tryz.prog 87 #[.string s, .int .i64 1, .int .i64 5] w fun e w' => e = .returned (.int .u64 sz) ∧ w = w'))
    (N2 : Hid (∀ w, Calls Tryz.prog 87 #[.string s, .int .i64 5, .int .i64 13] w fun e w' => e = .returned (.int .u64 mk) ∧ w = w'))
    (N3 : Hid (∀ w, Calls Tryz.prog 87 #[.string s, .int .i64 13, .int .i64 21] w fun e w' => e = .returned (.int .u64 st) ∧ w = w')) (MB : ∀ w, Calls Tryz.prog 88 #[.agg #[.int .u8 k, .int .u32 sz, .int .u64 mk, .int .u64 st]] w fun e w' => e = .returned (.bool true) ∧ Below w.heap.size w w') :
    Calls Tryz.prog 52 #[.string s] w fun e w' => e = .returned (.tuple #[.agg #[.int .u8 k, .int .u32 sz, .int .u64 mk, .int .u64 st], .int .i64 0]) ∧ Below w.heap.size w w' := by
  have h0' : (0 : Int) < (s.size : Int) := by omega
  have hcv1 : IntKind.u32.wrap (sz : Int) = (sz : Int) := by rw [IntKind.wrap_u32]; omega
  have hcv2 : (sz : Int) % 4294967296 = (sz : Int) := by omega
  have HX := Lib.hid (Box.new w 89 #[.int .u8 0, .int .u32 0, .int .u64 0, .int .u64 0])
  go_enter Tryz.func52, Tryz.ntmps52
  go_upto_region 3 with fail
  have hp := HX.out.drew
  clear HX
  refine wp_region_held_drew (S := (fun wx => wx.cell? ⟨w.heap.size, 0, none⟩ = some (.int .u8 0) ∧ wx.cell? ⟨w.heap.size, 1, none⟩ = some (.int .u32 0) ∧ wx.cell? ⟨w.heap.size, 2, none⟩ = some (.int .u64 0) ∧ wx.cell? ⟨w.heap.size, 3, none⟩ = some (.int .u64 0))) (by kernel_rfl) hp.cells (fun hHeld => ?_)
  generalize World.drew _ = w1 at *
  refine wpAnyH_take (i := 0) (oi := ⟨some 9, _, _, _, _, _⟩) (v := ?_) rfl (by kernel_rfl) (by kernel_rfl) (by kernel_rfl) (fun _ _ _ h => h) (Or.inl ⟨by rfl, ?_⟩) (by assumption) ?_
  rotate_left 1
  · intro wq hSw; (try dsimp only at hSw); (first | (go_simp; done) | (go_simp; with_reducible rfl))
  try simp only [Act.put, List.setIfInBounds_toArray, List.set_cons_zero, List.set_cons_succ]
  refine wpAnyH_take (i := 1) (oi := ⟨some 10, _, _, _, _, _⟩) (v := ?_) rfl (by kernel_rfl) (by kernel_rfl) (by kernel_rfl) (fun _ _ _ h => h) (Or.inl ⟨by rfl, ?_⟩) (by assumption) ?_
  rotate_left 1
  · intro wq hSw; (try dsimp only at hSw); (first | (go_simp; done) | (go_simp; with_reducible rfl))
  try simp only [Act.put, List.setIfInBounds_toArray, List.set_cons_zero, List.set_cons_succ]
  refine wpAnyH_take (i := 2) (oi := ⟨some 11, _, _, _, _, _⟩) (v := ?_) rfl (by kernel_rfl) (by kernel_rfl) (by kernel_rfl) (fun _ _ _ h => h) (Or.inl ⟨by rfl, ?_⟩) (by assumption) ?_
  rotate_left 1
  · intro wq hSw; (try dsimp only at hSw); (first | (go_simp; done) | (go_simp; with_reducible rfl))
  try simp only [Act.put, List.setIfInBounds_toArray, List.set_cons_zero, List.set_cons_succ]
  refine wpAnyH_take (i := 5) (oi := ⟨some 14, _, _, _, _, _⟩) (v := ?_) rfl (by kernel_rfl) (by kernel_rfl) (by kernel_rfl) (fun _ _ _ h => h) (Or.inl ⟨by rfl, ?_⟩) (by assumption) ?_
  rotate_left 1
  · intro wq hSw; (try dsimp only at hSw); (first | (go_simp; done) | (go_simp; with_reducible rfl))
  try simp only [Act.put, List.setIfInBounds_toArray, List.set_cons_zero, List.set_cons_succ]
  refine wpAnyH_take (i := 7) (oi := ⟨some 16, _, _, _, _, _⟩) (v := ?_) rfl (by kernel_rfl) (by kernel_rfl) (by kernel_rfl) (fun _ _ _ h => h) (Or.inl ⟨by rfl, ?_⟩) (by assumption) ?_
  rotate_left 1
  · intro wq hSw; (try dsimp only at hSw); (first | (go_simp; done) | (go_simp; with_reducible rfl))
  try simp only [Act.put, List.setIfInBounds_toArray, List.set_cons_zero, List.set_cons_succ]
  refine wpAnyH_ready (rs := [3, 10]) (by kernel_rfl) (by simp) ?_
  refine AllReadyH.cons (o := ⟨some 12, _, _, _, _, _⟩) rfl (fun K hK => ?_) (AllReadyH.cons (o := ⟨some 4, _, _, _, _, _⟩) rfl (fun K hK => ?_) AllReadyH.nil)
  · go_simp
    with_reducible refine (N1.out _).mono ?_
    rintro e wz ⟨rfl, rfl⟩
    refine hK.out _ _ hp.cells (fun hHeld => ?_)
    clear hK K
    try simp only [Act.put, List.setIfInBounds_toArray, List.set_cons_zero, List.set_cons_succ]
    refine wpAnyH_take (i := 4) (oi := ⟨some 13, _, _, _, _, _⟩) (v := ?_) rfl (by kernel_rfl) (by kernel_rfl) (by kernel_rfl) (fun _ _ _ h => h) (Or.inl ⟨by rfl, ?_⟩) (by assumption) ?_
    rotate_left 1
    · intro wq hSw; (try dsimp only at hSw); (first | (go_simp; done) | (go_simp; with_reducible rfl))
    try simp only [Act.put, List.setIfInBounds_toArray, List.set_cons_zero, List.set_cons_succ]
    refine wpAnyH_ready (rs := [6, 10]) (by kernel_rfl) (by simp) ?_
    refine AllReadyH.cons (o := ⟨some 15, _, _, _, _, _⟩) rfl (fun K hK => ?_) (AllReadyH.cons (o := ⟨some 4, _, _, _, _, _⟩) rfl (fun K hK => ?_) AllReadyH.nil)
    · go_simp
      with_reducible refine (N2.out _).mono ?_
      rintro e wz ⟨rfl, rfl⟩
      refine hK.out _ _ hp.cells (fun hHeld => ?_)
      clear hK K
      try simp only [Act.put, List.setIfInBounds_toArray, List.set_cons_zero, List.set_cons_succ]
      refine wpAnyH_ready (rs := [8, 10]) (by kernel_rfl) (by simp) ?_
      refine AllReadyH.cons (o := ⟨some 17, _, _, _, _, _⟩) rfl (fun K hK => ?_) (AllReadyH.cons (o := ⟨some 4, _, _, _, _, _⟩) rfl (fun K hK => ?_) AllReadyH.nil)
      · go_simp
        with_reducible refine (N3.out _).mono ?_
        rintro e wz ⟨rfl, rfl⟩
        refine hK.out _ _ hp.cells (fun hHeld => ?_)
        clear hK K
        try simp only [Act.put, List.setIfInBounds_toArray, List.set_cons_zero, List.set_cons_succ]
        refine wpAnyH_take (i := 9) (oi := ⟨some 18, _, _, _, _, _⟩) (v := ?_) rfl (by kernel_rfl) (by kernel_rfl) (by kernel_rfl) (fun _ _ _ h => h) (Or.inl ⟨by rfl, ?_⟩) (by assumption) ?_
        rotate_left 1
        · intro wq hSw; (try dsimp only at hSw); (first | (go_simp; done) | (go_simp; with_reducible rfl))
        try simp only [Act.put, List.setIfInBounds_toArray, List.set_cons_zero, List.set_cons_succ]
        refine wpAnyH_ready (rs := [10]) (by kernel_rfl) (by simp) ?_
        refine AllReadyH.cons (o := ⟨some 4, _, _, _, _, _⟩) rfl (fun K hK => ?_) AllReadyH.nil
        · go_simp
          have hp0 := hp
          replace hp := hp.and 89 #[.int .u8 0, .int .u32 0, .int .u64 0, .int .u64 0]
          refine hK.out _ _ hp.cells (fun hHeld => ?_)
          clear hK K
          try simp only [Act.put, List.setIfInBounds_toArray, List.set_cons_zero, List.set_cons_succ]
          refine wpAnyH_ready (rs := [11]) (by kernel_rfl) (by simp) ?_
          refine AllReadyH.cons (o := ⟨none, _, _, _, _, _⟩) rfl (fun K hK => ?_) AllReadyH.nil
          · go_simp
            replace hp := hp0.and 89 #[.int .u8 k, .int .u32 sz, .int .u64 mk, .int .u64 st]
            refine hK.out _ _ hp.cells (fun hHeld => ?_)
            clear hK K
            try simp only [Act.put, List.setIfInBounds_toArray, List.set_cons_zero, List.set_cons_succ]
            refine wpAnyH_done (by kernel_rfl) ?_ _
            obtain ⟨m0, m1, m2, m3⟩ := hp.ms
            have hltm := hp.two.lt
            go_wp2_with fail
            refine (MB _).mono ?_; rintro e w3 ⟨rfl, hb⟩
            replace hp := hp.later hb
            clear hb m0 m1 m2 m3 hltm
            obtain ⟨m0, m1, m2, m3⟩ := hp.ms
            have hltm := hp.two.lt
            obtain ⟨c0, c1, c2, c3⟩ := hp.cells
            have f0 := hp.box.one.frozen 0; have f1 := hp.box.one.frozen 1; have f2 := hp.box.one.frozen 2; have f3 := hp.box.one.frozen 3
            have hlt := hp.box.one.lt
            go_wp2_with fail
            have HF := Lib.hid (Box.four (a' := .int .u8 k) (b' := .int .u32 sz) (c' := .int .u64 mk) (d' := .int .u64 st) hp.box)
            obtain ⟨d0, d1, d2, d3⟩ := HF.out.cells
            exact bodyPost_ret (v := .tuple #[.agg #[.int .u8 k, .int .u32 sz, .int .u64 mk, .int .u64 st], .int .i64 0]) (by simp [results, Tryz.results52, go_sem, d0, d1, d2, d3, hlt]) rfl ⟨rfl, HF.out.below⟩
      · go_simp
        have hp0 := hp
        replace hp := hp.and 89 #[.int .u8 0, .int .u32 0, .int .u64 0, .int .u64 0]
        refine hK.out _ _ hp.cells (fun hHeld => ?_)
        clear hK K
        try simp only [Act.put, List.setIfInBounds_toArray, List.set_cons_zero, List.set_cons_succ]
        refine wpAnyH_ready (rs := [8]) (by kernel_rfl) (by simp) ?_
        refine AllReadyH.cons (o := ⟨some 17, _, _, _, _, _⟩) rfl (fun K hK => ?_) AllReadyH.nil
        · go_simp
          with_reducible refine (N3.out _).mono ?_
          rintro e wz ⟨rfl, rfl⟩
          refine hK.out _ _ hp.cells (fun hHeld => ?_)
          clear hK K
          try simp only [Act.put, List.setIfInBounds_toArray, List.set_cons_zero, List.set_cons_succ]
          refine wpAnyH_take (i := 9) (oi := ⟨some 18, _, _, _, _, _⟩) (v := ?_) rfl (by kernel_rfl) (by kernel_rfl) (by kernel_rfl) (fun _ _ _ h => h) (Or.inl ⟨by rfl, ?_⟩) (by assumption) ?_
          rotate_left 1
          · intro wq hSw; (try dsimp only at hSw); (first | (go_simp; done) | (go_simp; with_reducible rfl))
          try simp only [Act.put, List.setIfInBounds_toArray, List.set_cons_zero, List.set_cons_succ]
          refine wpAnyH_ready (rs := [11]) (by kernel_rfl) (by simp) ?_
          refine AllReadyH.cons (o := ⟨none, _, _, _, _, _⟩) rfl (fun K hK => ?_) AllReadyH.nil
          · go_simp
            replace hp := hp0.and 89 #[.int .u8 k, .int .u32 sz, .int .u64 mk, .int .u64 st]
            refine hK.out _ _ hp.cells (fun hHeld => ?_)
            clear hK K
            try simp only [Act.put, List.setIfInBounds_toArray, List.set_cons_zero, List.set_cons_succ]
            refine wpAnyH_done (by kernel_rfl) ?_ _
            obtain ⟨m0, m1, m2, m3⟩ := hp.ms
            have hltm := hp.two.lt
            go_wp2_with fail
            refine (MB _).mono ?_; rintro e w3 ⟨rfl, hb⟩
            replace hp := hp.later hb
            clear hb m0 m1 m2 m3 hltm
            obtain ⟨m0, m1, m2, m3⟩ := hp.ms
            have hltm := hp.two.lt
            obtain ⟨c0, c1, c2, c3⟩ := hp.cells
            have f0 := hp.box.one.frozen 0; have f1 := hp.box.one.frozen 1; have f2 := hp.box.one.frozen 2; have f3 := hp.box.one.frozen 3
            have hlt := hp.box.one.lt
            go_wp2_with fail
            have HF := Lib.hid (Box.four (a' := .int .u8 k) (b' := .int .u32 sz) (c' := .int .u64 mk) (d' := .int .u64 st) hp.box)
            obtain ⟨d0, d1, d2, d3⟩ := HF.out.cells
            exact bodyPost_ret (v := .tuple #[.agg #[.int .u8 k, .int .u32 sz, .int .u64 mk, .int .u64 st], .int .i64 0]) (by simp [results, Tryz.results52, go_sem, d0, d1, d2, d3, hlt]) rfl ⟨rfl, HF.out.below⟩
    · go_simp
      have hp0 := hp
      replace hp := hp.and 89 #[.int .u8 0, .int .u32 0, .int .u64 0, .int .u64 0]
      refine hK.out _ _ hp.cells (fun hHeld => ?_)
      clear hK K
      try simp only [Act.put, List.setIfInBounds_toArray, List.set_cons_zero, List.set_cons_succ]
      refine wpAnyH_ready (rs := [6]) (by kernel_rfl) (by simp) ?_
      refine AllReadyH.cons (o := ⟨some 15, _, _, _, _, _⟩) rfl (fun K hK => ?_) AllReadyH.nil
      · go_simp
        with_reducible refine (N2.out _).mono ?_
        rintro e wz ⟨rfl, rfl⟩
        refine hK.out _ _ hp.cells (fun hHeld => ?_)
        clear hK K
        try simp only [Act.put, List.setIfInBounds_toArray, List.set_cons_zero, List.set_cons_succ]
        refine wpAnyH_ready (rs := [8]) (by kernel_rfl) (by simp) ?_
        refine AllReadyH.cons (o := ⟨some 17, _, _, _, _, _⟩) rfl (fun K hK => ?_) AllReadyH.nil
        · go_simp
          with_reducible refine (N3.out _).mono ?_
          rintro e wz ⟨rfl, rfl⟩
          refine hK.out _ _ hp.cells (fun hHeld => ?_)
          clear hK K
          try simp only [Act.put, List.setIfInBounds_toArray, List.set_cons_zero, List.set_cons_succ]
          refine wpAnyH_take (i := 9) (oi := ⟨some 18, _, _, _, _, _⟩) (v := ?_) rfl (by kernel_rfl) (by kernel_rfl) (by kernel_rfl) (fun _ _ _ h => h) (Or.inl ⟨by rfl, ?_⟩) (by assumption) ?_
          rotate_left 1
          · intro wq hSw; (try dsimp only at hSw); (first | (go_simp; done) | (go_simp; with_reducible rfl))
          try simp only [Act.put, List.setIfInBounds_toArray, List.set_cons_zero, List.set_cons_succ]
          refine wpAnyH_ready (rs := [11]) (by kernel_rfl) (by simp) ?_
          refine AllReadyH.cons (o := ⟨none, _, _, _, _, _⟩) rfl (fun K hK => ?_) AllReadyH.nil
          · go_simp
            replace hp := hp0.and 89 #[.int .u8 k, .int .u32 sz, .int .u64 mk, .int .u64 st]
            refine hK.out _ _ hp.cells (fun hHeld => ?_)
            clear hK K
            try simp only [Act.put, List.setIfInBounds_toArray, List.set_cons_zero, List.set_cons_succ]
            refine wpAnyH_done (by kernel_rfl) ?_ _
            obtain ⟨m0, m1, m2, m3⟩ := hp.ms
            have hltm := hp.two.lt
            go_wp2_with fail
            refine (MB _).mono ?_; rintro e w3 ⟨rfl, hb⟩
            replace hp := hp.later hb
            clear hb m0 m1 m2 m3 hltm
            obtain ⟨m0, m1, m2, m3⟩ := hp.ms
            have hltm := hp.two.lt
            obtain ⟨c0, c1, c2, c3⟩ := hp.cells
            have f0 := hp.box.one.frozen 0; have f1 := hp.box.one.frozen 1; have f2 := hp.box.one.frozen 2; have f3 := hp.box.one.frozen 3
            have hlt := hp.box.one.lt
            go_wp2_with fail
            have HF := Lib.hid (Box.four (a' := .int .u8 k) (b' := .int .u32 sz) (c' := .int .u64 mk) (d' := .int .u64 st) hp.box)
            obtain ⟨d0, d1, d2, d3⟩ := HF.out.cells
            exact bodyPost_ret (v := .tuple #[.agg #[.int .u8 k, .int .u32 sz, .int .u64 mk, .int .u64 st], .int .i64 0]) (by simp [results, Tryz.results52, go_sem, d0, d1, d2, d3, hlt]) rfl ⟨rfl, HF.out.below⟩
  · go_simp
    have hp0 := hp
    replace hp := hp.and 89 #[.int .u8 0, .int .u32 0, .int .u64 0, .int .u64 0]
    refine hK.out _ _ hp.cells (fun hHeld => ?_)
    clear hK K
    try simp only [Act.put, List.setIfInBounds_toArray, List.set_cons_zero, List.set_cons_succ]
    refine wpAnyH_ready (rs := [3]) (by kernel_rfl) (by simp) ?_
    refine AllReadyH.cons (o := ⟨some 12, _, _, _, _, _⟩) rfl (fun K hK => ?_) AllReadyH.nil
    · go_simp
      with_reducible refine (N1.out _).mono ?_
      rintro e wz ⟨rfl, rfl⟩
      refine hK.out _ _ hp.cells (fun hHeld => ?_)
      clear hK K
      try simp only [Act.put, List.setIfInBounds_toArray, List.set_cons_zero, List.set_cons_succ]
      refine wpAnyH_take (i := 4) (oi := ⟨some 13, _, _, _, _, _⟩) (v := ?_) rfl (by kernel_rfl) (by kernel_rfl) (by kernel_rfl) (fun _ _ _ h => h) (Or.inl ⟨by rfl, ?_⟩) (by assumption) ?_
      rotate_left 1
      · intro wq hSw; (try dsimp only at hSw); (first | (go_simp; done) | (go_simp; with_reducible rfl))
      try simp only [Act.put, List.setIfInBounds_toArray, List.set_cons_zero, List.set_cons_succ]
      refine wpAnyH_ready (rs := [6]) (by kernel_rfl) (by simp) ?_
      refine AllReadyH.cons (o := ⟨some 15, _, _, _, _, _⟩) rfl (fun K hK => ?_) AllReadyH.nil
      · go_simp
        with_reducible refine (N2.out _).mono ?_
        rintro e wz ⟨rfl, rfl⟩
        refine hK.out _ _ hp.cells (fun hHeld => ?_)
        clear hK K
        try simp only [Act.put, List.setIfInBounds_toArray, List.set_cons_zero, List.set_cons_succ]
        refine wpAnyH_ready (rs := [8]) (by kernel_rfl) (by simp) ?_
        refine AllReadyH.cons (o := ⟨some 17, _, _, _, _, _⟩) rfl (fun K hK => ?_) AllReadyH.nil
        · go_simp
          with_reducible refine (N3.out _).mono ?_
          rintro e wz ⟨rfl, rfl⟩
          refine hK.out _ _ hp.cells (fun hHeld => ?_)
          clear hK K
          try simp only [Act.put, List.setIfInBounds_toArray, List.set_cons_zero, List.set_cons_succ]
          refine wpAnyH_take (i := 9) (oi := ⟨some 18, _, _, _, _, _⟩) (v := ?_) rfl (by kernel_rfl) (by kernel_rfl) (by kernel_rfl) (fun _ _ _ h => h) (Or.inl ⟨by rfl, ?_⟩) (by assumption) ?_
          rotate_left 1
          · intro wq hSw; (try dsimp only at hSw); (first | (go_simp; done) | (go_simp; with_reducible rfl))
          try simp only [Act.put, List.setIfInBounds_toArray, List.set_cons_zero, List.set_cons_succ]
          refine wpAnyH_ready (rs := [11]) (by kernel_rfl) (by simp) ?_
          refine AllReadyH.cons (o := ⟨none, _, _, _, _, _⟩) rfl (fun K hK => ?_) AllReadyH.nil
          · go_simp
            replace hp := hp0.and 89 #[.int .u8 k, .int .u32 sz, .int .u64 mk, .int .u64 st]
            refine hK.out _ _ hp.cells (fun hHeld => ?_)
            clear hK K
            try simp only [Act.put, List.setIfInBounds_toArray, List.set_cons_zero, List.set_cons_succ]
            refine wpAnyH_done (by kernel_rfl) ?_ _
            obtain ⟨m0, m1, m2, m3⟩ := hp.ms
            have hltm := hp.two.lt
            go_wp2_with fail
            refine (MB _).mono ?_; rintro e w3 ⟨rfl, hb⟩
            replace hp := hp.later hb
            clear hb m0 m1 m2 m3 hltm
            obtain ⟨m0, m1, m2, m3⟩ := hp.ms
            have hltm := hp.two.lt
            obtain ⟨c0, c1, c2, c3⟩ := hp.cells
            have f0 := hp.box.one.frozen 0; have f1 := hp.box.one.frozen 1; have f2 := hp.box.one.frozen 2; have f3 := hp.box.one.frozen 3
            have hlt := hp.box.one.lt
            go_wp2_with fail
            have HF := Lib.hid (Box.four (a' := .int .u8 k) (b' := .int .u32 sz) (c' := .int .u64 mk) (d' := .int .u64 st) hp.box)
            obtain ⟨d0, d1, d2, d3⟩ := HF.out.cells
            exact bodyPost_ret (v := .tuple #[.agg #[.int .u8 k, .int .u32 sz, .int .u64 mk, .int .u64 st], .int .i64 0]) (by simp [results, Tryz.results52, go_sem, d0, d1, d2, d3, hlt]) rfl ⟨rfl, HF.out.below⟩
theorem rtake_any (s : ByteArray) (hs : s.size ≤ 1099511627776) (w : World) :
    Calls Tryz.prog 52 #[.string s] w fun e w' => e = .returned (.tuple #[.agg #[.int .u8 (okI (takeE s.data.toList) (num s.data.toList 0 1) : Nat), .int .u32 (okI (takeE s.data.toList) (num s.data.toList 1 5) : Nat), .int .u64 (okI (takeE s.data.toList) (num s.data.toList 5 13) : Nat), .int .u64 (okI (takeE s.data.toList) (num s.data.toList 13 21) : Nat)], .int .i64 (takeE s.data.toList : Nat)]) ∧ Below w.heap.size w w' := by
  have hz := Lib.size_eq s
  by_cases h1 : s.data.toList.length < 21
  · have e : takeE s.data.toList = 10 := by unfold takeE; rw [if_pos h1]
    rw [e]
    exact rtake_torn s (by omega) w
  have h0 : 0 < s.size := by omega
  have hk : ((s[0].toNat : Nat) : Int) = ((num s.data.toList 0 1 : Nat) : Int) := by rw [num_first s h0]
  have N1 := Lib.hid (fun w => rnum_any s 1 5 (by omega) (by omega) (by omega) hs w)
  have N2 := Lib.hid (fun w => rnum_any s 5 13 (by omega) (by omega) (by omega) hs w)
  have N3 := Lib.hid (fun w => rnum_any s 13 21 (by omega) (by omega) (by omega) hs w)
  have hz4 := num4 s.data.toList
  have hm8 := num8 s.data.toList 5
  have H := may_any (num s.data.toList 0 1) (num s.data.toList 1 5) (num s.data.toList 5 13) (num s.data.toList 13 21) hm8
  by_cases h2 : 21 < s.data.toList.length
  · have e : takeE s.data.toList = 4 := by unfold takeE; rw [if_neg h1, if_pos h2]
    rw [e]
    exact rtake_long s _ _ _ _ h0 hk hz4 (by omega) w N1 N2 N3
  have e : takeE s.data.toList = ckM (num s.data.toList 0 1) (num s.data.toList 1 5) (num s.data.toList 5 13) := by unfold takeE; rw [if_neg h1, if_neg h2]
  rw [e]
  generalize num s.data.toList 0 1 = k at *
  generalize num s.data.toList 1 5 = sz at *
  generalize num s.data.toList 5 13 = mk at *
  generalize num s.data.toList 13 21 = st at *
  cases h : mayM k sz mk with
  | true =>
    have e2 : ckM k sz mk = 0 := by simp [ckM, h]
    rw [e2]
    rw [h] at H
    exact rtake_ok s k sz mk st h0 hk hz4 (by omega) w N1 N2 N3 H
  | false =>
    have e2 : ckM k sz mk = 4 := by simp [ckM, h]
    rw [e2]
    rw [h] at H
    exact rtake_form s k sz mk st h0 hk hz4 (by omega) w N1 N2 N3 H
end Go.Proofs.YthledgkjfjdjoaaGreat.Mt
