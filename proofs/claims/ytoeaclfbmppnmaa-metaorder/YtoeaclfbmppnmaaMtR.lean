/- The law MetaOrder. Conditions: numbers of their kinds. -/
import Derived.Test.YtoeaclfbmppnmaaMtP
import Derived.Test.YtoeaclfbmppnmaaMtQ
namespace Go.Proofs.Ytoeaclfbmppnmaa
open Go.ChangeShapes Go.WideShapes Go.RowKit Go.Codec Go.Num Go.Mt
set_option maxRecDepth 100000
set_option linter.unusedSimpArgs false
set_option linter.unusedVariables false
theorem Fr.s4 {w wx : World} {L : List (Nat × TypeId × Array Value)} (h : Fr w L wx) (i0 i1 i2 i3 : Nat) {g0 g1 g2 g3 : Nat} {t0 t1 t2 t3 : TypeId} {a0 a1 a2 a3 b0 b1 b2 b3 c0 c1 c2 c3 d0 d1 d2 d3 : Value}
    (h0 : L[i0]? = some (g0, t0, #[a0, a1, a2, a3])) (h1 : L[i1]? = some (g1, t1, #[b0, b1, b2, b3])) (h2 : L[i2]? = some (g2, t2, #[c0, c1, c2, c3])) (h3 : L[i3]? = some (g3, t3, #[d0, d1, d2, d3])) :
    (wx.cell? ⟨g0, 0, none⟩ = some a0 ∧ wx.cell? ⟨g0, 1, none⟩ = some a1 ∧ wx.cell? ⟨g0, 2, none⟩ = some a2 ∧ wx.cell? ⟨g0, 3, none⟩ = some a3) ∧ (wx.cell? ⟨g1, 0, none⟩ = some b0 ∧ wx.cell? ⟨g1, 1, none⟩ = some b1 ∧ wx.cell? ⟨g1, 2, none⟩ = some b2 ∧ wx.cell? ⟨g1, 3, none⟩ = some b3) ∧
    (wx.cell? ⟨g2, 0, none⟩ = some c0 ∧ wx.cell? ⟨g2, 1, none⟩ = some c1 ∧ wx.cell? ⟨g2, 2, none⟩ = some c2 ∧ wx.cell? ⟨g2, 3, none⟩ = some c3) ∧ (wx.cell? ⟨g3, 0, none⟩ = some d0 ∧ wx.cell? ⟨g3, 1, none⟩ = some d1 ∧ wx.cell? ⟨g3, 2, none⟩ = some d2 ∧ wx.cell? ⟨g3, 3, none⟩ = some d3) :=
  ⟨h.c4 i0 h0, h.c4 i1 h1, h.c4 i2 h2, h.c4 i3 h3⟩
set_option maxHeartbeats 32000000 in
theorem order_core (k sz mk st wh n op b wh' n' op' b' E pa pb A1 A2 A3 B1 B2 B3 C1 C2 C3 D1 D2 D3 T1 T2 T3 : Nat) (w : World)
    (N1 : Hid (∀ w, Calls Try.prog 20 #[.agg #[.int .u8 k, .int .u32 sz, .int .u64 mk, .int .u64 st], .agg #[.int .u8 wh, .int .u64 n, .int .u8 op, .int .u64 b]] w fun e w' => e = .returned (.agg #[.int .u8 k, .int .u32 A1, .int .u64 A2, .int .u64 A3]) ∧ Below w.heap.size w w'))
    (N2 : Hid (∀ w, Calls Try.prog 14 #[.agg #[.int .u8 k, .int .u32 A1, .int .u64 A2, .int .u64 A3]] w fun e w' => e = .returned (.int .i64 E) ∧ Below w.heap.size w w'))
    (N3 : Hid (∀ w, Calls Try.prog 14 #[.agg #[.int .u8 k, .int .u32 sz, .int .u64 mk, .int .u64 st]] w fun e w' => e = .returned (.int .i64 E) ∧ Below w.heap.size w w'))
    (N4 : Hid (∀ w, Calls Try.prog 20 #[.agg #[.int .u8 k, .int .u32 A1, .int .u64 A2, .int .u64 A3], .agg #[.int .u8 wh', .int .u64 n', .int .u8 op', .int .u64 b']] w fun e w' => e = .returned (.agg #[.int .u8 k, .int .u32 B1, .int .u64 B2, .int .u64 B3]) ∧ Below w.heap.size w w'))
    (N5 : Hid (∀ w, Calls Try.prog 20 #[.agg #[.int .u8 k, .int .u32 sz, .int .u64 mk, .int .u64 st], .agg #[.int .u8 wh', .int .u64 n', .int .u8 op', .int .u64 b']] w fun e w' => e = .returned (.agg #[.int .u8 k, .int .u32 C1, .int .u64 C2, .int .u64 C3]) ∧ Below w.heap.size w w'))
    (N6 : Hid (∀ w, Calls Try.prog 20 #[.agg #[.int .u8 k, .int .u32 C1, .int .u64 C2, .int .u64 C3], .agg #[.int .u8 wh, .int .u64 n, .int .u8 op, .int .u64 b]] w fun e w' => e = .returned (.agg #[.int .u8 k, .int .u32 D1, .int .u64 D2, .int .u64 D3]) ∧ Below w.heap.size w w'))
    (N7 : Hid (∀ w, Calls Try.prog 20 #[.agg #[.int .u8 k, .int .u32 A1, .int .u64 A2, .int .u64 A3], .agg #[.int .u8 wh, .int .u64 n, .int .u8 op, .int .u64 b]] w fun e w' => e = .returned (.agg #[.int .u8 k, .int .u32 T1, .int .u64 T2, .int .u64 T3]) ∧ Below w.heap.size w w'))
    (Q1 : Hid (∀ w, Calls Try.prog 26 #[.agg #[.int .u8 wh, .int .u64 n, .int .u8 op, .int .u64 b]] w fun e w' => e = .returned (.int .i64 pa) ∧ Below w.heap.size w w'))
    (Q2 : Hid (∀ w, Calls Try.prog 26 #[.agg #[.int .u8 wh', .int .u64 n', .int .u8 op', .int .u64 b']] w fun e w' => e = .returned (.int .i64 pb) ∧ Below w.heap.size w w'))
    (AW : Hid (∀ w, Calls Try.prog 9 #[] w fun e w' => e = .returned (.bool true) ∧ Below w.heap.size w w'))
    (D5 : Hid ((((pa : Int) != (pb : Int)) = true ∧ B1 = D1 ∧ B2 = D2 ∧ B3 = D3) ∨ (((pa : Int) != (pb : Int)) = false ∧ ((wh : Int) == 1) = true ∧ ((wh' : Int) == 1) = true ∧ B1 = D1 ∧ B2 = D2 ∧ B3 = D3) ∨ (((pa : Int) != (pb : Int)) = false ∧ ((wh : Int) == 1) = true ∧ ((wh' : Int) == 1) = false) ∨ (((pa : Int) != (pb : Int)) = false ∧ ((wh : Int) == 1) = false)))
    (D7 : Hid ((((pa : Int) != 2) = true ∧ A1 = T1 ∧ A2 = T2 ∧ A3 = T3) ∨ ((pa : Int) != 2) = false))
    (D9 : Hid ((pa = 1 ∧ A2 = mk ∧ A3 = st) ∨ (pa = 2 ∧ A1 = sz ∧ A3 = st) ∨ (pa = 3 ∧ A1 = sz ∧ A2 = mk))) :
    Calls Try.prog 8 #[.agg #[.int .u8 k, .int .u32 sz, .int .u64 mk, .int .u64 st], .agg #[.int .u8 wh, .int .u64 n, .int .u8 op, .int .u64 b], .agg #[.int .u8 wh', .int .u64 n', .int .u8 op', .int .u64 b']] w fun e w' => e = .returned (.bool true) ∧ Below w.heap.size w w' := by
  have HE := neM
  have hp := Fr.three w 25 41 41 #[.int .u8 k, .int .u32 sz, .int .u64 mk, .int .u64 st] #[.int .u8 wh, .int .u64 n, .int .u8 op, .int .u64 b] #[.int .u8 wh', .int .u64 n', .int .u8 op', .int .u64 b']
  have HP := Lib.hid hp; clear hp
  go_enter Try.func8, Try.ntmps8
  go_wp2_with fail
  refine (N1.out _).mono ?_; rintro e w1 ⟨rfl, hb⟩
  have hp : Fr w [(w.heap.size, 25, #[.int .u8 k, .int .u32 sz, .int .u64 mk, .int .u64 st]), (w.heap.size + 1, 41, #[.int .u8 wh, .int .u64 n, .int .u8 op, .int .u64 b]), (w.heap.size + 1 + 1, 41, #[.int .u8 wh', .int .u64 n', .int .u8 op', .int .u64 b']), (w1.heap.size, 25, #[.int .u8 k, .int .u32 A1, .int .u64 A2, .int .u64 A3])] _ := (HP.out.later hb).new 25 #[.int .u8 k, .int .u32 A1, .int .u64 A2, .int .u64 A3]
  clear hb HP
  go_upto_region 2 with fail
  generalize w1.heap.size = gx at *
  generalize w1.alloc _ = w2 at *
  clear w1
  go_cut [24] from 10 (fun v wx => v = .bool false ∧ Fr w [(w.heap.size, 25, #[.int .u8 k, .int .u32 sz, .int .u64 mk, .int .u64 st]), (w.heap.size + 1, 41, #[.int .u8 wh, .int .u64 n, .int .u8 op, .int .u64 b]), (w.heap.size + 1 + 1, 41, #[.int .u8 wh', .int .u64 n', .int .u8 op', .int .u64 b']), (gx, 25, #[.int .u8 k, .int .u32 A1, .int .u64 A2, .int .u64 A3])] wx)
  case first =>
    replace hp := hp.drew
    refine wp_region_held_drew (S := (fun wx => (wx.cell? ⟨w.heap.size, 0, none⟩ = some (.int .u8 k) ∧ wx.cell? ⟨w.heap.size, 1, none⟩ = some (.int .u32 sz) ∧ wx.cell? ⟨w.heap.size, 2, none⟩ = some (.int .u64 mk) ∧ wx.cell? ⟨w.heap.size, 3, none⟩ = some (.int .u64 st)) ∧ (wx.cell? ⟨w.heap.size + 1, 0, none⟩ = some (.int .u8 wh) ∧ wx.cell? ⟨w.heap.size + 1, 1, none⟩ = some (.int .u64 n) ∧ wx.cell? ⟨w.heap.size + 1, 2, none⟩ = some (.int .u8 op) ∧ wx.cell? ⟨w.heap.size + 1, 3, none⟩ = some (.int .u64 b)) ∧ (wx.cell? ⟨w.heap.size + 1 + 1, 0, none⟩ = some (.int .u8 wh') ∧ wx.cell? ⟨w.heap.size + 1 + 1, 1, none⟩ = some (.int .u64 n') ∧ wx.cell? ⟨w.heap.size + 1 + 1, 2, none⟩ = some (.int .u8 op') ∧ wx.cell? ⟨w.heap.size + 1 + 1, 3, none⟩ = some (.int .u64 b')) ∧ (wx.cell? ⟨gx, 0, none⟩ = some (.int .u8 k) ∧ wx.cell? ⟨gx, 1, none⟩ = some (.int .u32 A1) ∧ wx.cell? ⟨gx, 2, none⟩ = some (.int .u64 A2) ∧ wx.cell? ⟨gx, 3, none⟩ = some (.int .u64 A3)))) (by kernel_rfl) (hp.s4 0 1 2 3 rfl rfl rfl rfl) (fun hHeld => ?_)
    generalize World.drew _ = w3 at *
    refine wpAnyH_take (i := 0) (oi := ⟨some 13, _, _, _, _, _⟩) (v := ?_) rfl (by kernel_rfl) (by kernel_rfl) (by kernel_rfl) (fun _ _ _ h => h) (Or.inl ⟨by rfl, ?_⟩) (by assumption) ?_
    rotate_left 1
    · intro wq hSw; (try dsimp only at hSw); (first | (go_simp; done) | (go_simp; with_reducible rfl))
    try simp only [Act.put, List.setIfInBounds_toArray, List.set_cons_zero, List.set_cons_succ]
    refine wpAnyH_take (i := 2) (oi := ⟨some 15, _, _, _, _, _⟩) (v := ?_) rfl (by kernel_rfl) (by kernel_rfl) (by kernel_rfl) (fun _ _ _ h => h) (Or.inl ⟨by rfl, ?_⟩) (by assumption) ?_
    rotate_left 1
    · intro wq hSw; (try dsimp only at hSw); (first | (go_simp; done) | (go_simp; with_reducible rfl))
    try simp only [Act.put, List.setIfInBounds_toArray, List.set_cons_zero, List.set_cons_succ]
    refine wpAnyH_ready (rs := [1]) (by kernel_rfl) (by simp) ?_
    refine AllReadyH.cons (o := ⟨some 14, _, _, _, _, _⟩) rfl (fun K hK => ?_) AllReadyH.nil
    · go_simp
      with_reducible refine (N2.out _).mono ?_
      rintro e w1 ⟨rfl, hb⟩
      replace hp := hp.later hb
      clear hb
      refine hK.out _ _ (hp.s4 0 1 2 3 rfl rfl rfl rfl) (fun hHeld => ?_)
      clear hK K
      try simp only [Act.put, List.setIfInBounds_toArray, List.set_cons_zero, List.set_cons_succ]
      refine wpAnyH_ready (rs := [3]) (by kernel_rfl) (by simp) ?_
      refine AllReadyH.cons (o := ⟨some 16, _, _, _, _, _⟩) rfl (fun K hK => ?_) AllReadyH.nil
      · go_simp
        with_reducible refine (N3.out _).mono ?_
        rintro e w1 ⟨rfl, hb⟩
        replace hp := hp.later hb
        clear hb
        refine hK.out _ _ (hp.s4 0 1 2 3 rfl rfl rfl rfl) (fun hHeld => ?_)
        clear hK K
        try simp only [Act.put, List.setIfInBounds_toArray, List.set_cons_zero, List.set_cons_succ]
        refine wpAnyH_take (i := 4) (oi := ⟨some 17, _, _, _, _, _⟩) (v := ?_) rfl (by kernel_rfl) (by kernel_rfl) (by kernel_rfl) (fun _ _ _ h => h) (Or.inl ⟨by rfl, ?_⟩) (by assumption) ?_
        rotate_left 1
        · intro wq hSw; (try dsimp only at hSw); (first | (go_simp; done) | (go_simp; with_reducible rfl))
        try simp only [Act.put, List.setIfInBounds_toArray, List.set_cons_zero, List.set_cons_succ]
        refine wpAnyH_take (i := 5) (oi := ⟨some 18, _, _, _, _, _⟩) (v := ?_) rfl (by kernel_rfl) (by kernel_rfl) (by kernel_rfl) (fun _ _ _ h => h) (Or.inl ⟨by rfl, ?_⟩) (by assumption) ?_
        rotate_left 1
        · intro wq hSw; (try dsimp only at hSw); (first | (go_simp; done) | (go_simp; with_reducible rfl))
        try simp only [Act.put, List.setIfInBounds_toArray, List.set_cons_zero, List.set_cons_succ]
        refine wpAnyH_take (i := 6) (oi := ⟨some 19, _, _, _, _, _⟩) (v := ?_) rfl (by kernel_rfl) (by kernel_rfl) (by kernel_rfl) (fun _ _ _ h => h) (Or.inl ⟨by rfl, ?_⟩) (by assumption) ?_
        rotate_left 1
        · intro wq hSw; (try dsimp only at hSw); (first | (go_simp; done) | (go_simp; with_reducible rfl))
        try simp only [Act.put, List.setIfInBounds_toArray, List.set_cons_zero, List.set_cons_succ]
        refine wpAnyH_take (i := 7) (oi := ⟨some 20, _, _, _, _, _⟩) (v := ?_) rfl (by kernel_rfl) (by kernel_rfl) (by kernel_rfl) (fun _ _ _ h => h) (Or.inl ⟨by rfl, ?_⟩) (by assumption) ?_
        rotate_left 1
        · intro wq hSw; (try dsimp only at hSw); (first | (go_simp; done) | (go_simp; with_reducible rfl))
        try simp only [Act.put, List.setIfInBounds_toArray, List.set_cons_zero, List.set_cons_succ]
        refine wpAnyH_take (i := 8) (oi := ⟨some 21, _, _, _, _, _⟩) (v := ?_) rfl (by kernel_rfl) (by kernel_rfl) (by kernel_rfl) (fun _ _ _ h => h) (Or.inl ⟨by rfl, ?_⟩) (by assumption) ?_
        rotate_left 1
        · intro wq hSw; (try dsimp only at hSw); (first | (go_simp; done) | (go_simp; with_reducible rfl))
        try simp only [Act.put, List.setIfInBounds_toArray, List.set_cons_zero, List.set_cons_succ]
        refine wpAnyH_take (i := 9) (oi := ⟨some 22, _, _, _, _, _⟩) (v := ?_) rfl (by kernel_rfl) (by kernel_rfl) (by kernel_rfl) (fun _ _ _ h => h) (Or.inl ⟨by rfl, ?_⟩) (by assumption) ?_
        rotate_left 1
        · intro wq hSw; (try dsimp only at hSw); (first | (go_simp; done) | (go_simp; with_reducible rfl))
        try simp only [Act.put, List.setIfInBounds_toArray, List.set_cons_zero, List.set_cons_succ]
        refine wpAnyH_take (i := 10) (oi := ⟨some 23, _, _, _, _, _⟩) (v := ?_) rfl (by kernel_rfl) (by kernel_rfl) (by kernel_rfl) (fun _ _ _ h => h) (Or.inl ⟨by rfl, ?_⟩) (by assumption) ?_
        rotate_left 1
        · intro wq hSw; (try dsimp only at hSw); (first | (go_simp; done) | (go_simp; with_reducible rfl))
        try simp only [Act.put, List.setIfInBounds_toArray, List.set_cons_zero, List.set_cons_succ]
        refine wpAnyH_take (i := 11) (oi := ⟨some 24, _, _, _, _, _⟩) (v := ?_) rfl (by kernel_rfl) (by kernel_rfl) (by kernel_rfl) (fun _ _ _ h => h) (Or.inl ⟨by rfl, ?_⟩) (by assumption) ?_
        rotate_left 1
        · intro wq hSw; (try dsimp only at hSw); (first | (go_simp; done) | (go_simp; with_reducible rfl))
        try simp only [Act.put, List.setIfInBounds_toArray, List.set_cons_zero, List.set_cons_succ]
        refine wpAnyH_done (by kernel_rfl) ?_ _
        go_wp2_with fail
        go_meet
        case rel => exact ⟨rfl, hp⟩
  case rest =>
    obtain ⟨rfl, hp⟩ := hcut
    clear N2 N3
    go_upto_region 4 with fail
    go_cut [8, 9] from 10 (fun p q wx => ∃ g8 g9, p = .pointer (some ⟨g8, 0, none⟩) ∧ q = .pointer (some ⟨g9, 0, none⟩) ∧ Fr w [(w.heap.size, 25, #[.int .u8 k, .int .u32 sz, .int .u64 mk, .int .u64 st]), (w.heap.size + 1, 41, #[.int .u8 wh, .int .u64 n, .int .u8 op, .int .u64 b]), (w.heap.size + 1 + 1, 41, #[.int .u8 wh', .int .u64 n', .int .u8 op', .int .u64 b']), (gx, 25, #[.int .u8 k, .int .u32 A1, .int .u64 A2, .int .u64 A3]), (g8, 25, #[.int .u8 k, .int .u32 B1, .int .u64 B2, .int .u64 B3]), (g9, 25, #[.int .u8 k, .int .u32 D1, .int .u64 D2, .int .u64 D3])] wx)
    case first =>
      replace hp := hp.drew
      refine wp_region_held_drew (S := (fun wx => (wx.cell? ⟨w.heap.size, 0, none⟩ = some (.int .u8 k) ∧ wx.cell? ⟨w.heap.size, 1, none⟩ = some (.int .u32 sz) ∧ wx.cell? ⟨w.heap.size, 2, none⟩ = some (.int .u64 mk) ∧ wx.cell? ⟨w.heap.size, 3, none⟩ = some (.int .u64 st)) ∧ (wx.cell? ⟨w.heap.size + 1, 0, none⟩ = some (.int .u8 wh) ∧ wx.cell? ⟨w.heap.size + 1, 1, none⟩ = some (.int .u64 n) ∧ wx.cell? ⟨w.heap.size + 1, 2, none⟩ = some (.int .u8 op) ∧ wx.cell? ⟨w.heap.size + 1, 3, none⟩ = some (.int .u64 b)) ∧ (wx.cell? ⟨w.heap.size + 1 + 1, 0, none⟩ = some (.int .u8 wh') ∧ wx.cell? ⟨w.heap.size + 1 + 1, 1, none⟩ = some (.int .u64 n') ∧ wx.cell? ⟨w.heap.size + 1 + 1, 2, none⟩ = some (.int .u8 op') ∧ wx.cell? ⟨w.heap.size + 1 + 1, 3, none⟩ = some (.int .u64 b')) ∧ (wx.cell? ⟨gx, 0, none⟩ = some (.int .u8 k) ∧ wx.cell? ⟨gx, 1, none⟩ = some (.int .u32 A1) ∧ wx.cell? ⟨gx, 2, none⟩ = some (.int .u64 A2) ∧ wx.cell? ⟨gx, 3, none⟩ = some (.int .u64 A3)))) (by kernel_rfl) (hp.s4 0 1 2 3 rfl rfl rfl rfl) (fun hHeld => ?_)
      generalize World.drew _ = w3 at *
      refine wpAnyH_take (i := 0) (oi := ⟨some 25, _, _, _, _, _⟩) (v := ?_) rfl (by kernel_rfl) (by kernel_rfl) (by kernel_rfl) (fun _ _ _ h => h) (Or.inl ⟨by rfl, ?_⟩) (by assumption) ?_
      rotate_left 1
      · intro wq hSw; (try dsimp only at hSw); (first | (go_simp; done) | (go_simp; with_reducible rfl))
      try simp only [Act.put, List.setIfInBounds_toArray, List.set_cons_zero, List.set_cons_succ]
      refine wpAnyH_take (i := 1) (oi := ⟨some 26, _, _, _, _, _⟩) (v := ?_) rfl (by kernel_rfl) (by kernel_rfl) (by kernel_rfl) (fun _ _ _ h => h) (Or.inl ⟨by rfl, ?_⟩) (by assumption) ?_
      rotate_left 1
      · intro wq hSw; (try dsimp only at hSw); (first | (go_simp; done) | (go_simp; with_reducible rfl))
      try simp only [Act.put, List.setIfInBounds_toArray, List.set_cons_zero, List.set_cons_succ]
      refine wpAnyH_take (i := 3) (oi := ⟨some 28, _, _, _, _, _⟩) (v := ?_) rfl (by kernel_rfl) (by kernel_rfl) (by kernel_rfl) (fun _ _ _ h => h) (Or.inl ⟨by rfl, ?_⟩) (by assumption) ?_
      rotate_left 1
      · intro wq hSw; (try dsimp only at hSw); (first | (go_simp; done) | (go_simp; with_reducible rfl))
      try simp only [Act.put, List.setIfInBounds_toArray, List.set_cons_zero, List.set_cons_succ]
      refine wpAnyH_take (i := 4) (oi := ⟨some 29, _, _, _, _, _⟩) (v := ?_) rfl (by kernel_rfl) (by kernel_rfl) (by kernel_rfl) (fun _ _ _ h => h) (Or.inl ⟨by rfl, ?_⟩) (by assumption) ?_
      rotate_left 1
      · intro wq hSw; (try dsimp only at hSw); (first | (go_simp; done) | (go_simp; with_reducible rfl))
      try simp only [Act.put, List.setIfInBounds_toArray, List.set_cons_zero, List.set_cons_succ]
      refine wpAnyH_take (i := 6) (oi := ⟨some 31, _, _, _, _, _⟩) (v := ?_) rfl (by kernel_rfl) (by kernel_rfl) (by kernel_rfl) (fun _ _ _ h => h) (Or.inl ⟨by rfl, ?_⟩) (by assumption) ?_
      rotate_left 1
      · intro wq hSw; (try dsimp only at hSw); (first | (go_simp; done) | (go_simp; with_reducible rfl))
      try simp only [Act.put, List.setIfInBounds_toArray, List.set_cons_zero, List.set_cons_succ]
      refine wpAnyH_ready (rs := [2, 8, 9]) (by kernel_rfl) (by simp) ?_
      refine AllReadyH.cons (o := ⟨some 27, _, _, _, _, _⟩) rfl (fun K hK => ?_) (AllReadyH.cons (o := ⟨some 8, _, _, _, _, _⟩) rfl (fun K hK => ?_) (AllReadyH.cons (o := ⟨some 9, _, _, _, _, _⟩) rfl (fun K hK => ?_) AllReadyH.nil))
      · go_simp
        with_reducible refine (N4.out _).mono ?_
        rintro e w1 ⟨rfl, hb⟩
        replace hp := hp.later hb
        clear hb
        refine hK.out _ _ (hp.s4 0 1 2 3 rfl rfl rfl rfl) (fun hHeld => ?_)
        clear hK K
        try simp only [Act.put, List.setIfInBounds_toArray, List.set_cons_zero, List.set_cons_succ]
        refine wpAnyH_ready (rs := [5, 8, 9]) (by kernel_rfl) (by simp) ?_
        refine AllReadyH.cons (o := ⟨some 30, _, _, _, _, _⟩) rfl (fun K hK => ?_) (AllReadyH.cons (o := ⟨some 8, _, _, _, _, _⟩) rfl (fun K hK => ?_) (AllReadyH.cons (o := ⟨some 9, _, _, _, _, _⟩) rfl (fun K hK => ?_) AllReadyH.nil))
        · go_simp
          with_reducible refine (N5.out _).mono ?_
          rintro e w1 ⟨rfl, hb⟩
          replace hp := hp.later hb
          clear hb
          refine hK.out _ _ (hp.s4 0 1 2 3 rfl rfl rfl rfl) (fun hHeld => ?_)
          clear hK K
          try simp only [Act.put, List.setIfInBounds_toArray, List.set_cons_zero, List.set_cons_succ]
          refine wpAnyH_ready (rs := [7, 8, 9]) (by kernel_rfl) (by simp) ?_
          refine AllReadyH.cons (o := ⟨some 32, _, _, _, _, _⟩) rfl (fun K hK => ?_) (AllReadyH.cons (o := ⟨some 8, _, _, _, _, _⟩) rfl (fun K hK => ?_) (AllReadyH.cons (o := ⟨some 9, _, _, _, _, _⟩) rfl (fun K hK => ?_) AllReadyH.nil))
          · go_simp
            with_reducible refine (N6.out _).mono ?_
            rintro e w1 ⟨rfl, hb⟩
            replace hp := hp.later hb
            clear hb
            refine hK.out _ _ (hp.s4 0 1 2 3 rfl rfl rfl rfl) (fun hHeld => ?_)
            clear hK K
            try simp only [Act.put, List.setIfInBounds_toArray, List.set_cons_zero, List.set_cons_succ]
            refine wpAnyH_ready (rs := [8, 9]) (by kernel_rfl) (by simp) ?_
            refine AllReadyH.cons (o := ⟨some 8, _, _, _, _, _⟩) rfl (fun K hK => ?_) (AllReadyH.cons (o := ⟨some 9, _, _, _, _, _⟩) rfl (fun K hK => ?_) AllReadyH.nil)
            · go_simp
              replace hp := hp.new 25 #[.int .u8 0, .int .u32 0, .int .u64 0, .int .u64 0]
              refine hK.out _ _ (hp.s4 0 1 2 3 rfl rfl rfl rfl) (fun hHeld => ?_)
              clear hK K
              generalize World.alloc _ _ = w3 at *
              try simp only [Act.put, List.setIfInBounds_toArray, List.set_cons_zero, List.set_cons_succ]
              refine wpAnyH_ready (rs := [9]) (by kernel_rfl) (by simp) ?_
              refine AllReadyH.cons (o := ⟨some 9, _, _, _, _, _⟩) rfl (fun K hK => ?_) AllReadyH.nil
              · go_simp
                replace hp := hp.new 25 #[.int .u8 0, .int .u32 0, .int .u64 0, .int .u64 0]
                refine hK.out _ _ (hp.s4 0 1 2 3 rfl rfl rfl rfl) (fun hHeld => ?_)
                clear hK K
                generalize World.alloc _ _ = w3 at *
                try simp only [Act.put, List.setIfInBounds_toArray, List.set_cons_zero, List.set_cons_succ]
                refine wpAnyH_ready (rs := [10]) (by kernel_rfl) (by simp) ?_
                refine AllReadyH.cons (o := ⟨none, _, _, _, _, _⟩) rfl (fun K hK => ?_) AllReadyH.nil
                · obtain ⟨q0, q1, q2, q3⟩ := hp.c4 4 rfl
                  obtain ⟨⟨f0, f1, f2, f3⟩, hl⟩ := hp.f4 4 rfl
                  go_simp
                  clear q0 q1 q2 q3 f0 f1 f2 f3 hl
                  replace hp := hp.four 4 rfl (.int .u8 k) (.int .u32 B1) (.int .u64 B2) (.int .u64 B3)
                  refine hK.out _ _ (hp.s4 0 1 2 3 rfl rfl rfl rfl) (fun hHeld => ?_)
                  clear hK K
                  generalize World.setCell _ _ _ = w3 at *
                  try simp only [Act.put, List.setIfInBounds_toArray, List.set_cons_zero, List.set_cons_succ]
                  refine wpAnyH_ready (rs := [11]) (by kernel_rfl) (by simp) ?_
                  refine AllReadyH.cons (o := ⟨none, _, _, _, _, _⟩) rfl (fun K hK => ?_) AllReadyH.nil
                  · obtain ⟨q0, q1, q2, q3⟩ := hp.c4 5 rfl
                    obtain ⟨⟨f0, f1, f2, f3⟩, hl⟩ := hp.f4 5 rfl
                    go_simp
                    clear q0 q1 q2 q3 f0 f1 f2 f3 hl
                    replace hp := hp.four 5 rfl (.int .u8 k) (.int .u32 D1) (.int .u64 D2) (.int .u64 D3)
                    refine hK.out _ _ (hp.s4 0 1 2 3 rfl rfl rfl rfl) (fun hHeld => ?_)
                    clear hK K
                    generalize World.setCell _ _ _ = w3 at *
                    try simp only [Act.put, List.setIfInBounds_toArray, List.set_cons_zero, List.set_cons_succ]
                    refine wpAnyH_done (by kernel_rfl) ?_ _
                    go_wp2_with fail
                    go_meet
                    case rel => exact ⟨_, _, rfl, rfl, hp⟩
            · go_simp
              replace hp := hp.new 25 #[.int .u8 0, .int .u32 0, .int .u64 0, .int .u64 0]
              refine hK.out _ _ (hp.s4 0 1 2 3 rfl rfl rfl rfl) (fun hHeld => ?_)
              clear hK K
              generalize World.alloc _ _ = w3 at *
              try simp only [Act.put, List.setIfInBounds_toArray, List.set_cons_zero, List.set_cons_succ]
              refine wpAnyH_ready (rs := [8]) (by kernel_rfl) (by simp) ?_
              refine AllReadyH.cons (o := ⟨some 8, _, _, _, _, _⟩) rfl (fun K hK => ?_) AllReadyH.nil
              · go_simp
                replace hp := hp.new 25 #[.int .u8 0, .int .u32 0, .int .u64 0, .int .u64 0]
                refine hK.out _ _ (hp.s4 0 1 2 3 rfl rfl rfl rfl) (fun hHeld => ?_)
                clear hK K
                generalize World.alloc _ _ = w3 at *
                try simp only [Act.put, List.setIfInBounds_toArray, List.set_cons_zero, List.set_cons_succ]
                refine wpAnyH_ready (rs := [10]) (by kernel_rfl) (by simp) ?_
                refine AllReadyH.cons (o := ⟨none, _, _, _, _, _⟩) rfl (fun K hK => ?_) AllReadyH.nil
                · obtain ⟨q0, q1, q2, q3⟩ := hp.c4 5 rfl
                  obtain ⟨⟨f0, f1, f2, f3⟩, hl⟩ := hp.f4 5 rfl
                  go_simp
                  clear q0 q1 q2 q3 f0 f1 f2 f3 hl
                  replace hp := hp.four 5 rfl (.int .u8 k) (.int .u32 B1) (.int .u64 B2) (.int .u64 B3)
                  refine hK.out _ _ (hp.s4 0 1 2 3 rfl rfl rfl rfl) (fun hHeld => ?_)
                  clear hK K
                  generalize World.setCell _ _ _ = w3 at *
                  try simp only [Act.put, List.setIfInBounds_toArray, List.set_cons_zero, List.set_cons_succ]
                  refine wpAnyH_ready (rs := [11]) (by kernel_rfl) (by simp) ?_
                  refine AllReadyH.cons (o := ⟨none, _, _, _, _, _⟩) rfl (fun K hK => ?_) AllReadyH.nil
                  · obtain ⟨q0, q1, q2, q3⟩ := hp.c4 4 rfl
                    obtain ⟨⟨f0, f1, f2, f3⟩, hl⟩ := hp.f4 4 rfl
                    go_simp
                    clear q0 q1 q2 q3 f0 f1 f2 f3 hl
                    replace hp := hp.four 4 rfl (.int .u8 k) (.int .u32 D1) (.int .u64 D2) (.int .u64 D3)
                    refine hK.out _ _ (hp.s4 0 1 2 3 rfl rfl rfl rfl) (fun hHeld => ?_)
                    clear hK K
                    generalize World.setCell _ _ _ = w3 at *
                    try simp only [Act.put, List.setIfInBounds_toArray, List.set_cons_zero, List.set_cons_succ]
                    refine wpAnyH_done (by kernel_rfl) ?_ _
                    go_wp2_with fail
                    go_meet
                    case rel => exact ⟨_, _, rfl, rfl, Fr.swap (L := [(w.heap.size, 25, #[.int .u8 k, .int .u32 sz, .int .u64 mk, .int .u64 st]), (w.heap.size + 1, 41, #[.int .u8 wh, .int .u64 n, .int .u8 op, .int .u64 b]), (w.heap.size + 1 + 1, 41, #[.int .u8 wh', .int .u64 n', .int .u8 op', .int .u64 b']), (gx, 25, #[.int .u8 k, .int .u32 A1, .int .u64 A2, .int .u64 A3])]) hp⟩
          · go_simp
            replace hp := hp.new 25 #[.int .u8 0, .int .u32 0, .int .u64 0, .int .u64 0]
            refine hK.out _ _ (hp.s4 0 1 2 3 rfl rfl rfl rfl) (fun hHeld => ?_)
            clear hK K
            generalize World.alloc _ _ = w3 at *
            try simp only [Act.put, List.setIfInBounds_toArray, List.set_cons_zero, List.set_cons_succ]
            refine wpAnyH_ready (rs := [7, 9]) (by kernel_rfl) (by simp) ?_
            refine AllReadyH.cons (o := ⟨some 32, _, _, _, _, _⟩) rfl (fun K hK => ?_) (AllReadyH.cons (o := ⟨some 9, _, _, _, _, _⟩) rfl (fun K hK => ?_) AllReadyH.nil)
            · go_simp
              with_reducible refine (N6.out _).mono ?_
              rintro e w1 ⟨rfl, hb⟩
              replace hp := hp.later hb
              clear hb
              refine hK.out _ _ (hp.s4 0 1 2 3 rfl rfl rfl rfl) (fun hHeld => ?_)
              clear hK K
              try simp only [Act.put, List.setIfInBounds_toArray, List.set_cons_zero, List.set_cons_succ]
              refine wpAnyH_ready (rs := [9]) (by kernel_rfl) (by simp) ?_
              refine AllReadyH.cons (o := ⟨some 9, _, _, _, _, _⟩) rfl (fun K hK => ?_) AllReadyH.nil
              · go_simp
                replace hp := hp.new 25 #[.int .u8 0, .int .u32 0, .int .u64 0, .int .u64 0]
                refine hK.out _ _ (hp.s4 0 1 2 3 rfl rfl rfl rfl) (fun hHeld => ?_)
                clear hK K
                generalize World.alloc _ _ = w3 at *
                try simp only [Act.put, List.setIfInBounds_toArray, List.set_cons_zero, List.set_cons_succ]
                refine wpAnyH_ready (rs := [10]) (by kernel_rfl) (by simp) ?_
                refine AllReadyH.cons (o := ⟨none, _, _, _, _, _⟩) rfl (fun K hK => ?_) AllReadyH.nil
                · obtain ⟨q0, q1, q2, q3⟩ := hp.c4 4 rfl
                  obtain ⟨⟨f0, f1, f2, f3⟩, hl⟩ := hp.f4 4 rfl
                  go_simp
                  clear q0 q1 q2 q3 f0 f1 f2 f3 hl
                  replace hp := hp.four 4 rfl (.int .u8 k) (.int .u32 B1) (.int .u64 B2) (.int .u64 B3)
                  refine hK.out _ _ (hp.s4 0 1 2 3 rfl rfl rfl rfl) (fun hHeld => ?_)
                  clear hK K
                  generalize World.setCell _ _ _ = w3 at *
                  try simp only [Act.put, List.setIfInBounds_toArray, List.set_cons_zero, List.set_cons_succ]
                  refine wpAnyH_ready (rs := [11]) (by kernel_rfl) (by simp) ?_
                  refine AllReadyH.cons (o := ⟨none, _, _, _, _, _⟩) rfl (fun K hK => ?_) AllReadyH.nil
                  · obtain ⟨q0, q1, q2, q3⟩ := hp.c4 5 rfl
                    obtain ⟨⟨f0, f1, f2, f3⟩, hl⟩ := hp.f4 5 rfl
                    go_simp
                    clear q0 q1 q2 q3 f0 f1 f2 f3 hl
                    replace hp := hp.four 5 rfl (.int .u8 k) (.int .u32 D1) (.int .u64 D2) (.int .u64 D3)
                    refine hK.out _ _ (hp.s4 0 1 2 3 rfl rfl rfl rfl) (fun hHeld => ?_)
                    clear hK K
                    generalize World.setCell _ _ _ = w3 at *
                    try simp only [Act.put, List.setIfInBounds_toArray, List.set_cons_zero, List.set_cons_succ]
                    refine wpAnyH_done (by kernel_rfl) ?_ _
                    go_wp2_with fail
                    go_meet
                    case rel => exact ⟨_, _, rfl, rfl, hp⟩
            · go_simp
              replace hp := hp.new 25 #[.int .u8 0, .int .u32 0, .int .u64 0, .int .u64 0]
              refine hK.out _ _ (hp.s4 0 1 2 3 rfl rfl rfl rfl) (fun hHeld => ?_)
              clear hK K
              generalize World.alloc _ _ = w3 at *
              try simp only [Act.put, List.setIfInBounds_toArray, List.set_cons_zero, List.set_cons_succ]
              refine wpAnyH_ready (rs := [7]) (by kernel_rfl) (by simp) ?_
              refine AllReadyH.cons (o := ⟨some 32, _, _, _, _, _⟩) rfl (fun K hK => ?_) AllReadyH.nil
              · go_simp
                with_reducible refine (N6.out _).mono ?_
                rintro e w1 ⟨rfl, hb⟩
                replace hp := hp.later hb
                clear hb
                refine hK.out _ _ (hp.s4 0 1 2 3 rfl rfl rfl rfl) (fun hHeld => ?_)
                clear hK K
                try simp only [Act.put, List.setIfInBounds_toArray, List.set_cons_zero, List.set_cons_succ]
                refine wpAnyH_ready (rs := [10]) (by kernel_rfl) (by simp) ?_
                refine AllReadyH.cons (o := ⟨none, _, _, _, _, _⟩) rfl (fun K hK => ?_) AllReadyH.nil
                · obtain ⟨q0, q1, q2, q3⟩ := hp.c4 4 rfl
                  obtain ⟨⟨f0, f1, f2, f3⟩, hl⟩ := hp.f4 4 rfl
                  go_simp
                  clear q0 q1 q2 q3 f0 f1 f2 f3 hl
                  replace hp := hp.four 4 rfl (.int .u8 k) (.int .u32 B1) (.int .u64 B2) (.int .u64 B3)
                  refine hK.out _ _ (hp.s4 0 1 2 3 rfl rfl rfl rfl) (fun hHeld => ?_)
                  clear hK K
                  generalize World.setCell _ _ _ = w3 at *
                  try simp only [Act.put, List.setIfInBounds_toArray, List.set_cons_zero, List.set_cons_succ]
                  refine wpAnyH_ready (rs := [11]) (by kernel_rfl) (by simp) ?_
                  refine AllReadyH.cons (o := ⟨none, _, _, _, _, _⟩) rfl (fun K hK => ?_) AllReadyH.nil
                  · obtain ⟨q0, q1, q2, q3⟩ := hp.c4 5 rfl
                    obtain ⟨⟨f0, f1, f2, f3⟩, hl⟩ := hp.f4 5 rfl
                    go_simp
                    clear q0 q1 q2 q3 f0 f1 f2 f3 hl
                    replace hp := hp.four 5 rfl (.int .u8 k) (.int .u32 D1) (.int .u64 D2) (.int .u64 D3)
                    refine hK.out _ _ (hp.s4 0 1 2 3 rfl rfl rfl rfl) (fun hHeld => ?_)
                    clear hK K
                    generalize World.setCell _ _ _ = w3 at *
                    try simp only [Act.put, List.setIfInBounds_toArray, List.set_cons_zero, List.set_cons_succ]
                    refine wpAnyH_done (by kernel_rfl) ?_ _
                    go_wp2_with fail
                    go_meet
                    case rel => exact ⟨_, _, rfl, rfl, hp⟩
          · go_simp
            replace hp := hp.new 25 #[.int .u8 0, .int .u32 0, .int .u64 0, .int .u64 0]
            refine hK.out _ _ (hp.s4 0 1 2 3 rfl rfl rfl rfl) (fun hHeld => ?_)
            clear hK K
            generalize World.alloc _ _ = w3 at *
            try simp only [Act.put, List.setIfInBounds_toArray, List.set_cons_zero, List.set_cons_succ]
            refine wpAnyH_ready (rs := [7, 8]) (by kernel_rfl) (by simp) ?_
            refine AllReadyH.cons (o := ⟨some 32, _, _, _, _, _⟩) rfl (fun K hK => ?_) (AllReadyH.cons (o := ⟨some 8, _, _, _, _, _⟩) rfl (fun K hK => ?_) AllReadyH.nil)
            · go_simp
              with_reducible refine (N6.out _).mono ?_
              rintro e w1 ⟨rfl, hb⟩
              replace hp := hp.later hb
              clear hb
              refine hK.out _ _ (hp.s4 0 1 2 3 rfl rfl rfl rfl) (fun hHeld => ?_)
              clear hK K
              try simp only [Act.put, List.setIfInBounds_toArray, List.set_cons_zero, List.set_cons_succ]
              refine wpAnyH_ready (rs := [8]) (by kernel_rfl) (by simp) ?_
              refine AllReadyH.cons (o := ⟨some 8, _, _, _, _, _⟩) rfl (fun K hK => ?_) AllReadyH.nil
              · go_simp
                replace hp := hp.new 25 #[.int .u8 0, .int .u32 0, .int .u64 0, .int .u64 0]
                refine hK.out _ _ (hp.s4 0 1 2 3 rfl rfl rfl rfl) (fun hHeld => ?_)
                clear hK K
                generalize World.alloc _ _ = w3 at *
                try simp only [Act.put, List.setIfInBounds_toArray, List.set_cons_zero, List.set_cons_succ]
                refine wpAnyH_ready (rs := [10]) (by kernel_rfl) (by simp) ?_
                refine AllReadyH.cons (o := ⟨none, _, _, _, _, _⟩) rfl (fun K hK => ?_) AllReadyH.nil
                · obtain ⟨q0, q1, q2, q3⟩ := hp.c4 5 rfl
                  obtain ⟨⟨f0, f1, f2, f3⟩, hl⟩ := hp.f4 5 rfl
                  go_simp
                  clear q0 q1 q2 q3 f0 f1 f2 f3 hl
                  replace hp := hp.four 5 rfl (.int .u8 k) (.int .u32 B1) (.int .u64 B2) (.int .u64 B3)
                  refine hK.out _ _ (hp.s4 0 1 2 3 rfl rfl rfl rfl) (fun hHeld => ?_)
                  clear hK K
                  generalize World.setCell _ _ _ = w3 at *
                  try simp only [Act.put, List.setIfInBounds_toArray, List.set_cons_zero, List.set_cons_succ]
                  refine wpAnyH_ready (rs := [11]) (by kernel_rfl) (by simp) ?_
                  refine AllReadyH.cons (o := ⟨none, _, _, _, _, _⟩) rfl (fun K hK => ?_) AllReadyH.nil
                  · obtain ⟨q0, q1, q2, q3⟩ := hp.c4 4 rfl
                    obtain ⟨⟨f0, f1, f2, f3⟩, hl⟩ := hp.f4 4 rfl
                    go_simp
                    clear q0 q1 q2 q3 f0 f1 f2 f3 hl
                    replace hp := hp.four 4 rfl (.int .u8 k) (.int .u32 D1) (.int .u64 D2) (.int .u64 D3)
                    refine hK.out _ _ (hp.s4 0 1 2 3 rfl rfl rfl rfl) (fun hHeld => ?_)
                    clear hK K
                    generalize World.setCell _ _ _ = w3 at *
                    try simp only [Act.put, List.setIfInBounds_toArray, List.set_cons_zero, List.set_cons_succ]
                    refine wpAnyH_done (by kernel_rfl) ?_ _
                    go_wp2_with fail
                    go_meet
                    case rel => exact ⟨_, _, rfl, rfl, Fr.swap (L := [(w.heap.size, 25, #[.int .u8 k, .int .u32 sz, .int .u64 mk, .int .u64 st]), (w.heap.size + 1, 41, #[.int .u8 wh, .int .u64 n, .int .u8 op, .int .u64 b]), (w.heap.size + 1 + 1, 41, #[.int .u8 wh', .int .u64 n', .int .u8 op', .int .u64 b']), (gx, 25, #[.int .u8 k, .int .u32 A1, .int .u64 A2, .int .u64 A3])]) hp⟩
            · go_simp
              replace hp := hp.new 25 #[.int .u8 0, .int .u32 0, .int .u64 0, .int .u64 0]
              refine hK.out _ _ (hp.s4 0 1 2 3 rfl rfl rfl rfl) (fun hHeld => ?_)
              clear hK K
              generalize World.alloc _ _ = w3 at *
              try simp only [Act.put, List.setIfInBounds_toArray, List.set_cons_zero, List.set_cons_succ]
              refine wpAnyH_ready (rs := [7]) (by kernel_rfl) (by simp) ?_
              refine AllReadyH.cons (o := ⟨some 32, _, _, _, _, _⟩) rfl (fun K hK => ?_) AllReadyH.nil
              · go_simp
                with_reducible refine (N6.out _).mono ?_
                rintro e w1 ⟨rfl, hb⟩
                replace hp := hp.later hb
                clear hb
                refine hK.out _ _ (hp.s4 0 1 2 3 rfl rfl rfl rfl) (fun hHeld => ?_)
                clear hK K
                try simp only [Act.put, List.setIfInBounds_toArray, List.set_cons_zero, List.set_cons_succ]
                refine wpAnyH_ready (rs := [10]) (by kernel_rfl) (by simp) ?_
                refine AllReadyH.cons (o := ⟨none, _, _, _, _, _⟩) rfl (fun K hK => ?_) AllReadyH.nil
                · obtain ⟨q0, q1, q2, q3⟩ := hp.c4 5 rfl
                  obtain ⟨⟨f0, f1, f2, f3⟩, hl⟩ := hp.f4 5 rfl
                  go_simp
                  clear q0 q1 q2 q3 f0 f1 f2 f3 hl
                  replace hp := hp.four 5 rfl (.int .u8 k) (.int .u32 B1) (.int .u64 B2) (.int .u64 B3)
                  refine hK.out _ _ (hp.s4 0 1 2 3 rfl rfl rfl rfl) (fun hHeld => ?_)
                  clear hK K
                  generalize World.setCell _ _ _ = w3 at *
                  try simp only [Act.put, List.setIfInBounds_toArray, List.set_cons_zero, List.set_cons_succ]
                  refine wpAnyH_ready (rs := [11]) (by kernel_rfl) (by simp) ?_
                  refine AllReadyH.cons (o := ⟨none, _, _, _, _, _⟩) rfl (fun K hK => ?_) AllReadyH.nil
                  · obtain ⟨q0, q1, q2, q3⟩ := hp.c4 4 rfl
                    obtain ⟨⟨f0, f1, f2, f3⟩, hl⟩ := hp.f4 4 rfl
                    go_simp
                    clear q0 q1 q2 q3 f0 f1 f2 f3 hl
                    replace hp := hp.four 4 rfl (.int .u8 k) (.int .u32 D1) (.int .u64 D2) (.int .u64 D3)
                    refine hK.out _ _ (hp.s4 0 1 2 3 rfl rfl rfl rfl) (fun hHeld => ?_)
                    clear hK K
                    generalize World.setCell _ _ _ = w3 at *
                    try simp only [Act.put, List.setIfInBounds_toArray, List.set_cons_zero, List.set_cons_succ]
                    refine wpAnyH_done (by kernel_rfl) ?_ _
                    go_wp2_with fail
                    go_meet
                    case rel => exact ⟨_, _, rfl, rfl, Fr.swap (L := [(w.heap.size, 25, #[.int .u8 k, .int .u32 sz, .int .u64 mk, .int .u64 st]), (w.heap.size + 1, 41, #[.int .u8 wh, .int .u64 n, .int .u8 op, .int .u64 b]), (w.heap.size + 1 + 1, 41, #[.int .u8 wh', .int .u64 n', .int .u8 op', .int .u64 b']), (gx, 25, #[.int .u8 k, .int .u32 A1, .int .u64 A2, .int .u64 A3])]) hp⟩
        · go_simp
          replace hp := hp.new 25 #[.int .u8 0, .int .u32 0, .int .u64 0, .int .u64 0]
          refine hK.out _ _ (hp.s4 0 1 2 3 rfl rfl rfl rfl) (fun hHeld => ?_)
          clear hK K
          generalize World.alloc _ _ = w3 at *
          try simp only [Act.put, List.setIfInBounds_toArray, List.set_cons_zero, List.set_cons_succ]
          refine wpAnyH_ready (rs := [5, 9]) (by kernel_rfl) (by simp) ?_
          refine AllReadyH.cons (o := ⟨some 30, _, _, _, _, _⟩) rfl (fun K hK => ?_) (AllReadyH.cons (o := ⟨some 9, _, _, _, _, _⟩) rfl (fun K hK => ?_) AllReadyH.nil)
          · go_simp
            with_reducible refine (N5.out _).mono ?_
            rintro e w1 ⟨rfl, hb⟩
            replace hp := hp.later hb
            clear hb
            refine hK.out _ _ (hp.s4 0 1 2 3 rfl rfl rfl rfl) (fun hHeld => ?_)
            clear hK K
            try simp only [Act.put, List.setIfInBounds_toArray, List.set_cons_zero, List.set_cons_succ]
            refine wpAnyH_ready (rs := [7, 9]) (by kernel_rfl) (by simp) ?_
            refine AllReadyH.cons (o := ⟨some 32, _, _, _, _, _⟩) rfl (fun K hK => ?_) (AllReadyH.cons (o := ⟨some 9, _, _, _, _, _⟩) rfl (fun K hK => ?_) AllReadyH.nil)
            · go_simp
              with_reducible refine (N6.out _).mono ?_
              rintro e w1 ⟨rfl, hb⟩
              replace hp := hp.later hb
              clear hb
              refine hK.out _ _ (hp.s4 0 1 2 3 rfl rfl rfl rfl) (fun hHeld => ?_)
              clear hK K
              try simp only [Act.put, List.setIfInBounds_toArray, List.set_cons_zero, List.set_cons_succ]
              refine wpAnyH_ready (rs := [9]) (by kernel_rfl) (by simp) ?_
              refine AllReadyH.cons (o := ⟨some 9, _, _, _, _, _⟩) rfl (fun K hK => ?_) AllReadyH.nil
              · go_simp
                replace hp := hp.new 25 #[.int .u8 0, .int .u32 0, .int .u64 0, .int .u64 0]
                refine hK.out _ _ (hp.s4 0 1 2 3 rfl rfl rfl rfl) (fun hHeld => ?_)
                clear hK K
                generalize World.alloc _ _ = w3 at *
                try simp only [Act.put, List.setIfInBounds_toArray, List.set_cons_zero, List.set_cons_succ]
                refine wpAnyH_ready (rs := [10]) (by kernel_rfl) (by simp) ?_
                refine AllReadyH.cons (o := ⟨none, _, _, _, _, _⟩) rfl (fun K hK => ?_) AllReadyH.nil
                · obtain ⟨q0, q1, q2, q3⟩ := hp.c4 4 rfl
                  obtain ⟨⟨f0, f1, f2, f3⟩, hl⟩ := hp.f4 4 rfl
                  go_simp
                  clear q0 q1 q2 q3 f0 f1 f2 f3 hl
                  replace hp := hp.four 4 rfl (.int .u8 k) (.int .u32 B1) (.int .u64 B2) (.int .u64 B3)
                  refine hK.out _ _ (hp.s4 0 1 2 3 rfl rfl rfl rfl) (fun hHeld => ?_)
                  clear hK K
                  generalize World.setCell _ _ _ = w3 at *
                  try simp only [Act.put, List.setIfInBounds_toArray, List.set_cons_zero, List.set_cons_succ]
                  refine wpAnyH_ready (rs := [11]) (by kernel_rfl) (by simp) ?_
                  refine AllReadyH.cons (o := ⟨none, _, _, _, _, _⟩) rfl (fun K hK => ?_) AllReadyH.nil
                  · obtain ⟨q0, q1, q2, q3⟩ := hp.c4 5 rfl
                    obtain ⟨⟨f0, f1, f2, f3⟩, hl⟩ := hp.f4 5 rfl
                    go_simp
                    clear q0 q1 q2 q3 f0 f1 f2 f3 hl
                    replace hp := hp.four 5 rfl (.int .u8 k) (.int .u32 D1) (.int .u64 D2) (.int .u64 D3)
                    refine hK.out _ _ (hp.s4 0 1 2 3 rfl rfl rfl rfl) (fun hHeld => ?_)
                    clear hK K
                    generalize World.setCell _ _ _ = w3 at *
                    try simp only [Act.put, List.setIfInBounds_toArray, List.set_cons_zero, List.set_cons_succ]
                    refine wpAnyH_done (by kernel_rfl) ?_ _
                    go_wp2_with fail
                    go_meet
                    case rel => exact ⟨_, _, rfl, rfl, hp⟩
            · go_simp
              replace hp := hp.new 25 #[.int .u8 0, .int .u32 0, .int .u64 0, .int .u64 0]
              refine hK.out _ _ (hp.s4 0 1 2 3 rfl rfl rfl rfl) (fun hHeld => ?_)
              clear hK K
              generalize World.alloc _ _ = w3 at *
              try simp only [Act.put, List.setIfInBounds_toArray, List.set_cons_zero, List.set_cons_succ]
              refine wpAnyH_ready (rs := [7]) (by kernel_rfl) (by simp) ?_
              refine AllReadyH.cons (o := ⟨some 32, _, _, _, _, _⟩) rfl (fun K hK => ?_) AllReadyH.nil
              · go_simp
                with_reducible refine (N6.out _).mono ?_
                rintro e w1 ⟨rfl, hb⟩
                replace hp := hp.later hb
                clear hb
                refine hK.out _ _ (hp.s4 0 1 2 3 rfl rfl rfl rfl) (fun hHeld => ?_)
                clear hK K
                try simp only [Act.put, List.setIfInBounds_toArray, List.set_cons_zero, List.set_cons_succ]
                refine wpAnyH_ready (rs := [10]) (by kernel_rfl) (by simp) ?_
                refine AllReadyH.cons (o := ⟨none, _, _, _, _, _⟩) rfl (fun K hK => ?_) AllReadyH.nil
                · obtain ⟨q0, q1, q2, q3⟩ := hp.c4 4 rfl
                  obtain ⟨⟨f0, f1, f2, f3⟩, hl⟩ := hp.f4 4 rfl
                  go_simp
                  clear q0 q1 q2 q3 f0 f1 f2 f3 hl
                  replace hp := hp.four 4 rfl (.int .u8 k) (.int .u32 B1) (.int .u64 B2) (.int .u64 B3)
                  refine hK.out _ _ (hp.s4 0 1 2 3 rfl rfl rfl rfl) (fun hHeld => ?_)
                  clear hK K
                  generalize World.setCell _ _ _ = w3 at *
                  try simp only [Act.put, List.setIfInBounds_toArray, List.set_cons_zero, List.set_cons_succ]
                  refine wpAnyH_ready (rs := [11]) (by kernel_rfl) (by simp) ?_
                  refine AllReadyH.cons (o := ⟨none, _, _, _, _, _⟩) rfl (fun K hK => ?_) AllReadyH.nil
                  · obtain ⟨q0, q1, q2, q3⟩ := hp.c4 5 rfl
                    obtain ⟨⟨f0, f1, f2, f3⟩, hl⟩ := hp.f4 5 rfl
                    go_simp
                    clear q0 q1 q2 q3 f0 f1 f2 f3 hl
                    replace hp := hp.four 5 rfl (.int .u8 k) (.int .u32 D1) (.int .u64 D2) (.int .u64 D3)
                    refine hK.out _ _ (hp.s4 0 1 2 3 rfl rfl rfl rfl) (fun hHeld => ?_)
                    clear hK K
                    generalize World.setCell _ _ _ = w3 at *
                    try simp only [Act.put, List.setIfInBounds_toArray, List.set_cons_zero, List.set_cons_succ]
                    refine wpAnyH_done (by kernel_rfl) ?_ _
                    go_wp2_with fail
                    go_meet
                    case rel => exact ⟨_, _, rfl, rfl, hp⟩
          · go_simp
            replace hp := hp.new 25 #[.int .u8 0, .int .u32 0, .int .u64 0, .int .u64 0]
            refine hK.out _ _ (hp.s4 0 1 2 3 rfl rfl rfl rfl) (fun hHeld => ?_)
            clear hK K
            generalize World.alloc _ _ = w3 at *
            try simp only [Act.put, List.setIfInBounds_toArray, List.set_cons_zero, List.set_cons_succ]
            refine wpAnyH_ready (rs := [5]) (by kernel_rfl) (by simp) ?_
            refine AllReadyH.cons (o := ⟨some 30, _, _, _, _, _⟩) rfl (fun K hK => ?_) AllReadyH.nil
            · go_simp
              with_reducible refine (N5.out _).mono ?_
              rintro e w1 ⟨rfl, hb⟩
              replace hp := hp.later hb
              clear hb
              refine hK.out _ _ (hp.s4 0 1 2 3 rfl rfl rfl rfl) (fun hHeld => ?_)
              clear hK K
              try simp only [Act.put, List.setIfInBounds_toArray, List.set_cons_zero, List.set_cons_succ]
              refine wpAnyH_ready (rs := [7]) (by kernel_rfl) (by simp) ?_
              refine AllReadyH.cons (o := ⟨some 32, _, _, _, _, _⟩) rfl (fun K hK => ?_) AllReadyH.nil
              · go_simp
                with_reducible refine (N6.out _).mono ?_
                rintro e w1 ⟨rfl, hb⟩
                replace hp := hp.later hb
                clear hb
                refine hK.out _ _ (hp.s4 0 1 2 3 rfl rfl rfl rfl) (fun hHeld => ?_)
                clear hK K
                try simp only [Act.put, List.setIfInBounds_toArray, List.set_cons_zero, List.set_cons_succ]
                refine wpAnyH_ready (rs := [10]) (by kernel_rfl) (by simp) ?_
                refine AllReadyH.cons (o := ⟨none, _, _, _, _, _⟩) rfl (fun K hK => ?_) AllReadyH.nil
                · obtain ⟨q0, q1, q2, q3⟩ := hp.c4 4 rfl
                  obtain ⟨⟨f0, f1, f2, f3⟩, hl⟩ := hp.f4 4 rfl
                  go_simp
                  clear q0 q1 q2 q3 f0 f1 f2 f3 hl
                  replace hp := hp.four 4 rfl (.int .u8 k) (.int .u32 B1) (.int .u64 B2) (.int .u64 B3)
                  refine hK.out _ _ (hp.s4 0 1 2 3 rfl rfl rfl rfl) (fun hHeld => ?_)
                  clear hK K
                  generalize World.setCell _ _ _ = w3 at *
                  try simp only [Act.put, List.setIfInBounds_toArray, List.set_cons_zero, List.set_cons_succ]
                  refine wpAnyH_ready (rs := [11]) (by kernel_rfl) (by simp) ?_
                  refine AllReadyH.cons (o := ⟨none, _, _, _, _, _⟩) rfl (fun K hK => ?_) AllReadyH.nil
                  · obtain ⟨q0, q1, q2, q3⟩ := hp.c4 5 rfl
                    obtain ⟨⟨f0, f1, f2, f3⟩, hl⟩ := hp.f4 5 rfl
                    go_simp
                    clear q0 q1 q2 q3 f0 f1 f2 f3 hl
                    replace hp := hp.four 5 rfl (.int .u8 k) (.int .u32 D1) (.int .u64 D2) (.int .u64 D3)
                    refine hK.out _ _ (hp.s4 0 1 2 3 rfl rfl rfl rfl) (fun hHeld => ?_)
                    clear hK K
                    generalize World.setCell _ _ _ = w3 at *
                    try simp only [Act.put, List.setIfInBounds_toArray, List.set_cons_zero, List.set_cons_succ]
                    refine wpAnyH_done (by kernel_rfl) ?_ _
                    go_wp2_with fail
                    go_meet
                    case rel => exact ⟨_, _, rfl, rfl, hp⟩
        · go_simp
          replace hp := hp.new 25 #[.int .u8 0, .int .u32 0, .int .u64 0, .int .u64 0]
          refine hK.out _ _ (hp.s4 0 1 2 3 rfl rfl rfl rfl) (fun hHeld => ?_)
          clear hK K
          generalize World.alloc _ _ = w3 at *
          try simp only [Act.put, List.setIfInBounds_toArray, List.set_cons_zero, List.set_cons_succ]
          refine wpAnyH_ready (rs := [5, 8]) (by kernel_rfl) (by simp) ?_
          refine AllReadyH.cons (o := ⟨some 30, _, _, _, _, _⟩) rfl (fun K hK => ?_) (AllReadyH.cons (o := ⟨some 8, _, _, _, _, _⟩) rfl (fun K hK => ?_) AllReadyH.nil)
          · go_simp
            with_reducible refine (N5.out _).mono ?_
            rintro e w1 ⟨rfl, hb⟩
            replace hp := hp.later hb
            clear hb
            refine hK.out _ _ (hp.s4 0 1 2 3 rfl rfl rfl rfl) (fun hHeld => ?_)
            clear hK K
            try simp only [Act.put, List.setIfInBounds_toArray, List.set_cons_zero, List.set_cons_succ]
            refine wpAnyH_ready (rs := [7, 8]) (by kernel_rfl) (by simp) ?_
            refine AllReadyH.cons (o := ⟨some 32, _, _, _, _, _⟩) rfl (fun K hK => ?_) (AllReadyH.cons (o := ⟨some 8, _, _, _, _, _⟩) rfl (fun K hK => ?_) AllReadyH.nil)
            · go_simp
              with_reducible refine (N6.out _).mono ?_
              rintro e w1 ⟨rfl, hb⟩
              replace hp := hp.later hb
              clear hb
              refine hK.out _ _ (hp.s4 0 1 2 3 rfl rfl rfl rfl) (fun hHeld => ?_)
              clear hK K
              try simp only [Act.put, List.setIfInBounds_toArray, List.set_cons_zero, List.set_cons_succ]
              refine wpAnyH_ready (rs := [8]) (by kernel_rfl) (by simp) ?_
              refine AllReadyH.cons (o := ⟨some 8, _, _, _, _, _⟩) rfl (fun K hK => ?_) AllReadyH.nil
              · go_simp
                replace hp := hp.new 25 #[.int .u8 0, .int .u32 0, .int .u64 0, .int .u64 0]
                refine hK.out _ _ (hp.s4 0 1 2 3 rfl rfl rfl rfl) (fun hHeld => ?_)
                clear hK K
                generalize World.alloc _ _ = w3 at *
                try simp only [Act.put, List.setIfInBounds_toArray, List.set_cons_zero, List.set_cons_succ]
                refine wpAnyH_ready (rs := [10]) (by kernel_rfl) (by simp) ?_
                refine AllReadyH.cons (o := ⟨none, _, _, _, _, _⟩) rfl (fun K hK => ?_) AllReadyH.nil
                · obtain ⟨q0, q1, q2, q3⟩ := hp.c4 5 rfl
                  obtain ⟨⟨f0, f1, f2, f3⟩, hl⟩ := hp.f4 5 rfl
                  go_simp
                  clear q0 q1 q2 q3 f0 f1 f2 f3 hl
                  replace hp := hp.four 5 rfl (.int .u8 k) (.int .u32 B1) (.int .u64 B2) (.int .u64 B3)
                  refine hK.out _ _ (hp.s4 0 1 2 3 rfl rfl rfl rfl) (fun hHeld => ?_)
                  clear hK K
                  generalize World.setCell _ _ _ = w3 at *
                  try simp only [Act.put, List.setIfInBounds_toArray, List.set_cons_zero, List.set_cons_succ]
                  refine wpAnyH_ready (rs := [11]) (by kernel_rfl) (by simp) ?_
                  refine AllReadyH.cons (o := ⟨none, _, _, _, _, _⟩) rfl (fun K hK => ?_) AllReadyH.nil
                  · obtain ⟨q0, q1, q2, q3⟩ := hp.c4 4 rfl
                    obtain ⟨⟨f0, f1, f2, f3⟩, hl⟩ := hp.f4 4 rfl
                    go_simp
                    clear q0 q1 q2 q3 f0 f1 f2 f3 hl
                    replace hp := hp.four 4 rfl (.int .u8 k) (.int .u32 D1) (.int .u64 D2) (.int .u64 D3)
                    refine hK.out _ _ (hp.s4 0 1 2 3 rfl rfl rfl rfl) (fun hHeld => ?_)
                    clear hK K
                    generalize World.setCell _ _ _ = w3 at *
                    try simp only [Act.put, List.setIfInBounds_toArray, List.set_cons_zero, List.set_cons_succ]
                    refine wpAnyH_done (by kernel_rfl) ?_ _
                    go_wp2_with fail
                    go_meet
                    case rel => exact ⟨_, _, rfl, rfl, Fr.swap (L := [(w.heap.size, 25, #[.int .u8 k, .int .u32 sz, .int .u64 mk, .int .u64 st]), (w.heap.size + 1, 41, #[.int .u8 wh, .int .u64 n, .int .u8 op, .int .u64 b]), (w.heap.size + 1 + 1, 41, #[.int .u8 wh', .int .u64 n', .int .u8 op', .int .u64 b']), (gx, 25, #[.int .u8 k, .int .u32 A1, .int .u64 A2, .int .u64 A3])]) hp⟩
            · go_simp
              replace hp := hp.new 25 #[.int .u8 0, .int .u32 0, .int .u64 0, .int .u64 0]
              refine hK.out _ _ (hp.s4 0 1 2 3 rfl rfl rfl rfl) (fun hHeld => ?_)
              clear hK K
              generalize World.alloc _ _ = w3 at *
              try simp only [Act.put, List.setIfInBounds_toArray, List.set_cons_zero, List.set_cons_succ]
              refine wpAnyH_ready (rs := [7]) (by kernel_rfl) (by simp) ?_
              refine AllReadyH.cons (o := ⟨some 32, _, _, _, _, _⟩) rfl (fun K hK => ?_) AllReadyH.nil
              · go_simp
                with_reducible refine (N6.out _).mono ?_
                rintro e w1 ⟨rfl, hb⟩
                replace hp := hp.later hb
                clear hb
                refine hK.out _ _ (hp.s4 0 1 2 3 rfl rfl rfl rfl) (fun hHeld => ?_)
                clear hK K
                try simp only [Act.put, List.setIfInBounds_toArray, List.set_cons_zero, List.set_cons_succ]
                refine wpAnyH_ready (rs := [10]) (by kernel_rfl) (by simp) ?_
                refine AllReadyH.cons (o := ⟨none, _, _, _, _, _⟩) rfl (fun K hK => ?_) AllReadyH.nil
                · obtain ⟨q0, q1, q2, q3⟩ := hp.c4 5 rfl
                  obtain ⟨⟨f0, f1, f2, f3⟩, hl⟩ := hp.f4 5 rfl
                  go_simp
                  clear q0 q1 q2 q3 f0 f1 f2 f3 hl
                  replace hp := hp.four 5 rfl (.int .u8 k) (.int .u32 B1) (.int .u64 B2) (.int .u64 B3)
                  refine hK.out _ _ (hp.s4 0 1 2 3 rfl rfl rfl rfl) (fun hHeld => ?_)
                  clear hK K
                  generalize World.setCell _ _ _ = w3 at *
                  try simp only [Act.put, List.setIfInBounds_toArray, List.set_cons_zero, List.set_cons_succ]
                  refine wpAnyH_ready (rs := [11]) (by kernel_rfl) (by simp) ?_
                  refine AllReadyH.cons (o := ⟨none, _, _, _, _, _⟩) rfl (fun K hK => ?_) AllReadyH.nil
                  · obtain ⟨q0, q1, q2, q3⟩ := hp.c4 4 rfl
                    obtain ⟨⟨f0, f1, f2, f3⟩, hl⟩ := hp.f4 4 rfl
                    go_simp
                    clear q0 q1 q2 q3 f0 f1 f2 f3 hl
                    replace hp := hp.four 4 rfl (.int .u8 k) (.int .u32 D1) (.int .u64 D2) (.int .u64 D3)
                    refine hK.out _ _ (hp.s4 0 1 2 3 rfl rfl rfl rfl) (fun hHeld => ?_)
                    clear hK K
                    generalize World.setCell _ _ _ = w3 at *
                    try simp only [Act.put, List.setIfInBounds_toArray, List.set_cons_zero, List.set_cons_succ]
                    refine wpAnyH_done (by kernel_rfl) ?_ _
                    go_wp2_with fail
                    go_meet
                    case rel => exact ⟨_, _, rfl, rfl, Fr.swap (L := [(w.heap.size, 25, #[.int .u8 k, .int .u32 sz, .int .u64 mk, .int .u64 st]), (w.heap.size + 1, 41, #[.int .u8 wh, .int .u64 n, .int .u8 op, .int .u64 b]), (w.heap.size + 1 + 1, 41, #[.int .u8 wh', .int .u64 n', .int .u8 op', .int .u64 b']), (gx, 25, #[.int .u8 k, .int .u32 A1, .int .u64 A2, .int .u64 A3])]) hp⟩
          · go_simp
            replace hp := hp.new 25 #[.int .u8 0, .int .u32 0, .int .u64 0, .int .u64 0]
            refine hK.out _ _ (hp.s4 0 1 2 3 rfl rfl rfl rfl) (fun hHeld => ?_)
            clear hK K
            generalize World.alloc _ _ = w3 at *
            try simp only [Act.put, List.setIfInBounds_toArray, List.set_cons_zero, List.set_cons_succ]
            refine wpAnyH_ready (rs := [5]) (by kernel_rfl) (by simp) ?_
            refine AllReadyH.cons (o := ⟨some 30, _, _, _, _, _⟩) rfl (fun K hK => ?_) AllReadyH.nil
            · go_simp
              with_reducible refine (N5.out _).mono ?_
              rintro e w1 ⟨rfl, hb⟩
              replace hp := hp.later hb
              clear hb
              refine hK.out _ _ (hp.s4 0 1 2 3 rfl rfl rfl rfl) (fun hHeld => ?_)
              clear hK K
              try simp only [Act.put, List.setIfInBounds_toArray, List.set_cons_zero, List.set_cons_succ]
              refine wpAnyH_ready (rs := [7]) (by kernel_rfl) (by simp) ?_
              refine AllReadyH.cons (o := ⟨some 32, _, _, _, _, _⟩) rfl (fun K hK => ?_) AllReadyH.nil
              · go_simp
                with_reducible refine (N6.out _).mono ?_
                rintro e w1 ⟨rfl, hb⟩
                replace hp := hp.later hb
                clear hb
                refine hK.out _ _ (hp.s4 0 1 2 3 rfl rfl rfl rfl) (fun hHeld => ?_)
                clear hK K
                try simp only [Act.put, List.setIfInBounds_toArray, List.set_cons_zero, List.set_cons_succ]
                refine wpAnyH_ready (rs := [10]) (by kernel_rfl) (by simp) ?_
                refine AllReadyH.cons (o := ⟨none, _, _, _, _, _⟩) rfl (fun K hK => ?_) AllReadyH.nil
                · obtain ⟨q0, q1, q2, q3⟩ := hp.c4 5 rfl
                  obtain ⟨⟨f0, f1, f2, f3⟩, hl⟩ := hp.f4 5 rfl
                  go_simp
                  clear q0 q1 q2 q3 f0 f1 f2 f3 hl
                  replace hp := hp.four 5 rfl (.int .u8 k) (.int .u32 B1) (.int .u64 B2) (.int .u64 B3)
                  refine hK.out _ _ (hp.s4 0 1 2 3 rfl rfl rfl rfl) (fun hHeld => ?_)
                  clear hK K
                  generalize World.setCell _ _ _ = w3 at *
                  try simp only [Act.put, List.setIfInBounds_toArray, List.set_cons_zero, List.set_cons_succ]
                  refine wpAnyH_ready (rs := [11]) (by kernel_rfl) (by simp) ?_
                  refine AllReadyH.cons (o := ⟨none, _, _, _, _, _⟩) rfl (fun K hK => ?_) AllReadyH.nil
                  · obtain ⟨q0, q1, q2, q3⟩ := hp.c4 4 rfl
                    obtain ⟨⟨f0, f1, f2, f3⟩, hl⟩ := hp.f4 4 rfl
                    go_simp
                    clear q0 q1 q2 q3 f0 f1 f2 f3 hl
                    replace hp := hp.four 4 rfl (.int .u8 k) (.int .u32 D1) (.int .u64 D2) (.int .u64 D3)
                    refine hK.out _ _ (hp.s4 0 1 2 3 rfl rfl rfl rfl) (fun hHeld => ?_)
                    clear hK K
                    generalize World.setCell _ _ _ = w3 at *
                    try simp only [Act.put, List.setIfInBounds_toArray, List.set_cons_zero, List.set_cons_succ]
                    refine wpAnyH_done (by kernel_rfl) ?_ _
                    go_wp2_with fail
                    go_meet
                    case rel => exact ⟨_, _, rfl, rfl, Fr.swap (L := [(w.heap.size, 25, #[.int .u8 k, .int .u32 sz, .int .u64 mk, .int .u64 st]), (w.heap.size + 1, 41, #[.int .u8 wh, .int .u64 n, .int .u8 op, .int .u64 b]), (w.heap.size + 1 + 1, 41, #[.int .u8 wh', .int .u64 n', .int .u8 op', .int .u64 b']), (gx, 25, #[.int .u8 k, .int .u32 A1, .int .u64 A2, .int .u64 A3])]) hp⟩
      · go_simp
        replace hp := hp.new 25 #[.int .u8 0, .int .u32 0, .int .u64 0, .int .u64 0]
        refine hK.out _ _ (hp.s4 0 1 2 3 rfl rfl rfl rfl) (fun hHeld => ?_)
        clear hK K
        generalize World.alloc _ _ = w3 at *
        try simp only [Act.put, List.setIfInBounds_toArray, List.set_cons_zero, List.set_cons_succ]
        refine wpAnyH_ready (rs := [2, 9]) (by kernel_rfl) (by simp) ?_
        refine AllReadyH.cons (o := ⟨some 27, _, _, _, _, _⟩) rfl (fun K hK => ?_) (AllReadyH.cons (o := ⟨some 9, _, _, _, _, _⟩) rfl (fun K hK => ?_) AllReadyH.nil)
        · go_simp
          with_reducible refine (N4.out _).mono ?_
          rintro e w1 ⟨rfl, hb⟩
          replace hp := hp.later hb
          clear hb
          refine hK.out _ _ (hp.s4 0 1 2 3 rfl rfl rfl rfl) (fun hHeld => ?_)
          clear hK K
          try simp only [Act.put, List.setIfInBounds_toArray, List.set_cons_zero, List.set_cons_succ]
          refine wpAnyH_ready (rs := [5, 9]) (by kernel_rfl) (by simp) ?_
          refine AllReadyH.cons (o := ⟨some 30, _, _, _, _, _⟩) rfl (fun K hK => ?_) (AllReadyH.cons (o := ⟨some 9, _, _, _, _, _⟩) rfl (fun K hK => ?_) AllReadyH.nil)
          · go_simp
            with_reducible refine (N5.out _).mono ?_
            rintro e w1 ⟨rfl, hb⟩
            replace hp := hp.later hb
            clear hb
            refine hK.out _ _ (hp.s4 0 1 2 3 rfl rfl rfl rfl) (fun hHeld => ?_)
            clear hK K
            try simp only [Act.put, List.setIfInBounds_toArray, List.set_cons_zero, List.set_cons_succ]
            refine wpAnyH_ready (rs := [7, 9]) (by kernel_rfl) (by simp) ?_
            refine AllReadyH.cons (o := ⟨some 32, _, _, _, _, _⟩) rfl (fun K hK => ?_) (AllReadyH.cons (o := ⟨some 9, _, _, _, _, _⟩) rfl (fun K hK => ?_) AllReadyH.nil)
            · go_simp
              with_reducible refine (N6.out _).mono ?_
              rintro e w1 ⟨rfl, hb⟩
              replace hp := hp.later hb
              clear hb
              refine hK.out _ _ (hp.s4 0 1 2 3 rfl rfl rfl rfl) (fun hHeld => ?_)
              clear hK K
              try simp only [Act.put, List.setIfInBounds_toArray, List.set_cons_zero, List.set_cons_succ]
              refine wpAnyH_ready (rs := [9]) (by kernel_rfl) (by simp) ?_
              refine AllReadyH.cons (o := ⟨some 9, _, _, _, _, _⟩) rfl (fun K hK => ?_) AllReadyH.nil
              · go_simp
                replace hp := hp.new 25 #[.int .u8 0, .int .u32 0, .int .u64 0, .int .u64 0]
                refine hK.out _ _ (hp.s4 0 1 2 3 rfl rfl rfl rfl) (fun hHeld => ?_)
                clear hK K
                generalize World.alloc _ _ = w3 at *
                try simp only [Act.put, List.setIfInBounds_toArray, List.set_cons_zero, List.set_cons_succ]
                refine wpAnyH_ready (rs := [10]) (by kernel_rfl) (by simp) ?_
                refine AllReadyH.cons (o := ⟨none, _, _, _, _, _⟩) rfl (fun K hK => ?_) AllReadyH.nil
                · obtain ⟨q0, q1, q2, q3⟩ := hp.c4 4 rfl
                  obtain ⟨⟨f0, f1, f2, f3⟩, hl⟩ := hp.f4 4 rfl
                  go_simp
                  clear q0 q1 q2 q3 f0 f1 f2 f3 hl
                  replace hp := hp.four 4 rfl (.int .u8 k) (.int .u32 B1) (.int .u64 B2) (.int .u64 B3)
                  refine hK.out _ _ (hp.s4 0 1 2 3 rfl rfl rfl rfl) (fun hHeld => ?_)
                  clear hK K
                  generalize World.setCell _ _ _ = w3 at *
                  try simp only [Act.put, List.setIfInBounds_toArray, List.set_cons_zero, List.set_cons_succ]
                  refine wpAnyH_ready (rs := [11]) (by kernel_rfl) (by simp) ?_
                  refine AllReadyH.cons (o := ⟨none, _, _, _, _, _⟩) rfl (fun K hK => ?_) AllReadyH.nil
                  · obtain ⟨q0, q1, q2, q3⟩ := hp.c4 5 rfl
                    obtain ⟨⟨f0, f1, f2, f3⟩, hl⟩ := hp.f4 5 rfl
                    go_simp
                    clear q0 q1 q2 q3 f0 f1 f2 f3 hl
                    replace hp := hp.four 5 rfl (.int .u8 k) (.int .u32 D1) (.int .u64 D2) (.int .u64 D3)
                    refine hK.out _ _ (hp.s4 0 1 2 3 rfl rfl rfl rfl) (fun hHeld => ?_)
                    clear hK K
                    generalize World.setCell _ _ _ = w3 at *
                    try simp only [Act.put, List.setIfInBounds_toArray, List.set_cons_zero, List.set_cons_succ]
                    refine wpAnyH_done (by kernel_rfl) ?_ _
                    go_wp2_with fail
                    go_meet
                    case rel => exact ⟨_, _, rfl, rfl, hp⟩
            · go_simp
              replace hp := hp.new 25 #[.int .u8 0, .int .u32 0, .int .u64 0, .int .u64 0]
              refine hK.out _ _ (hp.s4 0 1 2 3 rfl rfl rfl rfl) (fun hHeld => ?_)
              clear hK K
              generalize World.alloc _ _ = w3 at *
              try simp only [Act.put, List.setIfInBounds_toArray, List.set_cons_zero, List.set_cons_succ]
              refine wpAnyH_ready (rs := [7]) (by kernel_rfl) (by simp) ?_
              refine AllReadyH.cons (o := ⟨some 32, _, _, _, _, _⟩) rfl (fun K hK => ?_) AllReadyH.nil
              · go_simp
                with_reducible refine (N6.out _).mono ?_
                rintro e w1 ⟨rfl, hb⟩
                replace hp := hp.later hb
                clear hb
                refine hK.out _ _ (hp.s4 0 1 2 3 rfl rfl rfl rfl) (fun hHeld => ?_)
                clear hK K
                try simp only [Act.put, List.setIfInBounds_toArray, List.set_cons_zero, List.set_cons_succ]
                refine wpAnyH_ready (rs := [10]) (by kernel_rfl) (by simp) ?_
                refine AllReadyH.cons (o := ⟨none, _, _, _, _, _⟩) rfl (fun K hK => ?_) AllReadyH.nil
                · obtain ⟨q0, q1, q2, q3⟩ := hp.c4 4 rfl
                  obtain ⟨⟨f0, f1, f2, f3⟩, hl⟩ := hp.f4 4 rfl
                  go_simp
                  clear q0 q1 q2 q3 f0 f1 f2 f3 hl
                  replace hp := hp.four 4 rfl (.int .u8 k) (.int .u32 B1) (.int .u64 B2) (.int .u64 B3)
                  refine hK.out _ _ (hp.s4 0 1 2 3 rfl rfl rfl rfl) (fun hHeld => ?_)
                  clear hK K
                  generalize World.setCell _ _ _ = w3 at *
                  try simp only [Act.put, List.setIfInBounds_toArray, List.set_cons_zero, List.set_cons_succ]
                  refine wpAnyH_ready (rs := [11]) (by kernel_rfl) (by simp) ?_
                  refine AllReadyH.cons (o := ⟨none, _, _, _, _, _⟩) rfl (fun K hK => ?_) AllReadyH.nil
                  · obtain ⟨q0, q1, q2, q3⟩ := hp.c4 5 rfl
                    obtain ⟨⟨f0, f1, f2, f3⟩, hl⟩ := hp.f4 5 rfl
                    go_simp
                    clear q0 q1 q2 q3 f0 f1 f2 f3 hl
                    replace hp := hp.four 5 rfl (.int .u8 k) (.int .u32 D1) (.int .u64 D2) (.int .u64 D3)
                    refine hK.out _ _ (hp.s4 0 1 2 3 rfl rfl rfl rfl) (fun hHeld => ?_)
                    clear hK K
                    generalize World.setCell _ _ _ = w3 at *
                    try simp only [Act.put, List.setIfInBounds_toArray, List.set_cons_zero, List.set_cons_succ]
                    refine wpAnyH_done (by kernel_rfl) ?_ _
                    go_wp2_with fail
                    go_meet
                    case rel => exact ⟨_, _, rfl, rfl, hp⟩
          · go_simp
            replace hp := hp.new 25 #[.int .u8 0, .int .u32 0, .int .u64 0, .int .u64 0]
            refine hK.out _ _ (hp.s4 0 1 2 3 rfl rfl rfl rfl) (fun hHeld => ?_)
            clear hK K
            generalize World.alloc _ _ = w3 at *
            try simp only [Act.put, List.setIfInBounds_toArray, List.set_cons_zero, List.set_cons_succ]
            refine wpAnyH_ready (rs := [5]) (by kernel_rfl) (by simp) ?_
            refine AllReadyH.cons (o := ⟨some 30, _, _, _, _, _⟩) rfl (fun K hK => ?_) AllReadyH.nil
            · go_simp
              with_reducible refine (N5.out _).mono ?_
              rintro e w1 ⟨rfl, hb⟩
              replace hp := hp.later hb
              clear hb
              refine hK.out _ _ (hp.s4 0 1 2 3 rfl rfl rfl rfl) (fun hHeld => ?_)
              clear hK K
              try simp only [Act.put, List.setIfInBounds_toArray, List.set_cons_zero, List.set_cons_succ]
              refine wpAnyH_ready (rs := [7]) (by kernel_rfl) (by simp) ?_
              refine AllReadyH.cons (o := ⟨some 32, _, _, _, _, _⟩) rfl (fun K hK => ?_) AllReadyH.nil
              · go_simp
                with_reducible refine (N6.out _).mono ?_
                rintro e w1 ⟨rfl, hb⟩
                replace hp := hp.later hb
                clear hb
                refine hK.out _ _ (hp.s4 0 1 2 3 rfl rfl rfl rfl) (fun hHeld => ?_)
                clear hK K
                try simp only [Act.put, List.setIfInBounds_toArray, List.set_cons_zero, List.set_cons_succ]
                refine wpAnyH_ready (rs := [10]) (by kernel_rfl) (by simp) ?_
                refine AllReadyH.cons (o := ⟨none, _, _, _, _, _⟩) rfl (fun K hK => ?_) AllReadyH.nil
                · obtain ⟨q0, q1, q2, q3⟩ := hp.c4 4 rfl
                  obtain ⟨⟨f0, f1, f2, f3⟩, hl⟩ := hp.f4 4 rfl
                  go_simp
                  clear q0 q1 q2 q3 f0 f1 f2 f3 hl
                  replace hp := hp.four 4 rfl (.int .u8 k) (.int .u32 B1) (.int .u64 B2) (.int .u64 B3)
                  refine hK.out _ _ (hp.s4 0 1 2 3 rfl rfl rfl rfl) (fun hHeld => ?_)
                  clear hK K
                  generalize World.setCell _ _ _ = w3 at *
                  try simp only [Act.put, List.setIfInBounds_toArray, List.set_cons_zero, List.set_cons_succ]
                  refine wpAnyH_ready (rs := [11]) (by kernel_rfl) (by simp) ?_
                  refine AllReadyH.cons (o := ⟨none, _, _, _, _, _⟩) rfl (fun K hK => ?_) AllReadyH.nil
                  · obtain ⟨q0, q1, q2, q3⟩ := hp.c4 5 rfl
                    obtain ⟨⟨f0, f1, f2, f3⟩, hl⟩ := hp.f4 5 rfl
                    go_simp
                    clear q0 q1 q2 q3 f0 f1 f2 f3 hl
                    replace hp := hp.four 5 rfl (.int .u8 k) (.int .u32 D1) (.int .u64 D2) (.int .u64 D3)
                    refine hK.out _ _ (hp.s4 0 1 2 3 rfl rfl rfl rfl) (fun hHeld => ?_)
                    clear hK K
                    generalize World.setCell _ _ _ = w3 at *
                    try simp only [Act.put, List.setIfInBounds_toArray, List.set_cons_zero, List.set_cons_succ]
                    refine wpAnyH_done (by kernel_rfl) ?_ _
                    go_wp2_with fail
                    go_meet
                    case rel => exact ⟨_, _, rfl, rfl, hp⟩
        · go_simp
          replace hp := hp.new 25 #[.int .u8 0, .int .u32 0, .int .u64 0, .int .u64 0]
          refine hK.out _ _ (hp.s4 0 1 2 3 rfl rfl rfl rfl) (fun hHeld => ?_)
          clear hK K
          generalize World.alloc _ _ = w3 at *
          try simp only [Act.put, List.setIfInBounds_toArray, List.set_cons_zero, List.set_cons_succ]
          refine wpAnyH_ready (rs := [2]) (by kernel_rfl) (by simp) ?_
          refine AllReadyH.cons (o := ⟨some 27, _, _, _, _, _⟩) rfl (fun K hK => ?_) AllReadyH.nil
          · go_simp
            with_reducible refine (N4.out _).mono ?_
            rintro e w1 ⟨rfl, hb⟩
            replace hp := hp.later hb
            clear hb
            refine hK.out _ _ (hp.s4 0 1 2 3 rfl rfl rfl rfl) (fun hHeld => ?_)
            clear hK K
            try simp only [Act.put, List.setIfInBounds_toArray, List.set_cons_zero, List.set_cons_succ]
            refine wpAnyH_ready (rs := [5]) (by kernel_rfl) (by simp) ?_
            refine AllReadyH.cons (o := ⟨some 30, _, _, _, _, _⟩) rfl (fun K hK => ?_) AllReadyH.nil
            · go_simp
              with_reducible refine (N5.out _).mono ?_
              rintro e w1 ⟨rfl, hb⟩
              replace hp := hp.later hb
              clear hb
              refine hK.out _ _ (hp.s4 0 1 2 3 rfl rfl rfl rfl) (fun hHeld => ?_)
              clear hK K
              try simp only [Act.put, List.setIfInBounds_toArray, List.set_cons_zero, List.set_cons_succ]
              refine wpAnyH_ready (rs := [7]) (by kernel_rfl) (by simp) ?_
              refine AllReadyH.cons (o := ⟨some 32, _, _, _, _, _⟩) rfl (fun K hK => ?_) AllReadyH.nil
              · go_simp
                with_reducible refine (N6.out _).mono ?_
                rintro e w1 ⟨rfl, hb⟩
                replace hp := hp.later hb
                clear hb
                refine hK.out _ _ (hp.s4 0 1 2 3 rfl rfl rfl rfl) (fun hHeld => ?_)
                clear hK K
                try simp only [Act.put, List.setIfInBounds_toArray, List.set_cons_zero, List.set_cons_succ]
                refine wpAnyH_ready (rs := [10]) (by kernel_rfl) (by simp) ?_
                refine AllReadyH.cons (o := ⟨none, _, _, _, _, _⟩) rfl (fun K hK => ?_) AllReadyH.nil
                · obtain ⟨q0, q1, q2, q3⟩ := hp.c4 4 rfl
                  obtain ⟨⟨f0, f1, f2, f3⟩, hl⟩ := hp.f4 4 rfl
                  go_simp
                  clear q0 q1 q2 q3 f0 f1 f2 f3 hl
                  replace hp := hp.four 4 rfl (.int .u8 k) (.int .u32 B1) (.int .u64 B2) (.int .u64 B3)
                  refine hK.out _ _ (hp.s4 0 1 2 3 rfl rfl rfl rfl) (fun hHeld => ?_)
                  clear hK K
                  generalize World.setCell _ _ _ = w3 at *
                  try simp only [Act.put, List.setIfInBounds_toArray, List.set_cons_zero, List.set_cons_succ]
                  refine wpAnyH_ready (rs := [11]) (by kernel_rfl) (by simp) ?_
                  refine AllReadyH.cons (o := ⟨none, _, _, _, _, _⟩) rfl (fun K hK => ?_) AllReadyH.nil
                  · obtain ⟨q0, q1, q2, q3⟩ := hp.c4 5 rfl
                    obtain ⟨⟨f0, f1, f2, f3⟩, hl⟩ := hp.f4 5 rfl
                    go_simp
                    clear q0 q1 q2 q3 f0 f1 f2 f3 hl
                    replace hp := hp.four 5 rfl (.int .u8 k) (.int .u32 D1) (.int .u64 D2) (.int .u64 D3)
                    refine hK.out _ _ (hp.s4 0 1 2 3 rfl rfl rfl rfl) (fun hHeld => ?_)
                    clear hK K
                    generalize World.setCell _ _ _ = w3 at *
                    try simp only [Act.put, List.setIfInBounds_toArray, List.set_cons_zero, List.set_cons_succ]
                    refine wpAnyH_done (by kernel_rfl) ?_ _
                    go_wp2_with fail
                    go_meet
                    case rel => exact ⟨_, _, rfl, rfl, hp⟩
      · go_simp
        replace hp := hp.new 25 #[.int .u8 0, .int .u32 0, .int .u64 0, .int .u64 0]
        refine hK.out _ _ (hp.s4 0 1 2 3 rfl rfl rfl rfl) (fun hHeld => ?_)
        clear hK K
        generalize World.alloc _ _ = w3 at *
        try simp only [Act.put, List.setIfInBounds_toArray, List.set_cons_zero, List.set_cons_succ]
        refine wpAnyH_ready (rs := [2, 8]) (by kernel_rfl) (by simp) ?_
        refine AllReadyH.cons (o := ⟨some 27, _, _, _, _, _⟩) rfl (fun K hK => ?_) (AllReadyH.cons (o := ⟨some 8, _, _, _, _, _⟩) rfl (fun K hK => ?_) AllReadyH.nil)
        · go_simp
          with_reducible refine (N4.out _).mono ?_
          rintro e w1 ⟨rfl, hb⟩
          replace hp := hp.later hb
          clear hb
          refine hK.out _ _ (hp.s4 0 1 2 3 rfl rfl rfl rfl) (fun hHeld => ?_)
          clear hK K
          try simp only [Act.put, List.setIfInBounds_toArray, List.set_cons_zero, List.set_cons_succ]
          refine wpAnyH_ready (rs := [5, 8]) (by kernel_rfl) (by simp) ?_
          refine AllReadyH.cons (o := ⟨some 30, _, _, _, _, _⟩) rfl (fun K hK => ?_) (AllReadyH.cons (o := ⟨some 8, _, _, _, _, _⟩) rfl (fun K hK => ?_) AllReadyH.nil)
          · go_simp
            with_reducible refine (N5.out _).mono ?_
            rintro e w1 ⟨rfl, hb⟩
            replace hp := hp.later hb
            clear hb
            refine hK.out _ _ (hp.s4 0 1 2 3 rfl rfl rfl rfl) (fun hHeld => ?_)
            clear hK K
            try simp only [Act.put, List.setIfInBounds_toArray, List.set_cons_zero, List.set_cons_succ]
            refine wpAnyH_ready (rs := [7, 8]) (by kernel_rfl) (by simp) ?_
            refine AllReadyH.cons (o := ⟨some 32, _, _, _, _, _⟩) rfl (fun K hK => ?_) (AllReadyH.cons (o := ⟨some 8, _, _, _, _, _⟩) rfl (fun K hK => ?_) AllReadyH.nil)
            · go_simp
              with_reducible refine (N6.out _).mono ?_
              rintro e w1 ⟨rfl, hb⟩
              replace hp := hp.later hb
              clear hb
              refine hK.out _ _ (hp.s4 0 1 2 3 rfl rfl rfl rfl) (fun hHeld => ?_)
              clear hK K
              try simp only [Act.put, List.setIfInBounds_toArray, List.set_cons_zero, List.set_cons_succ]
              refine wpAnyH_ready (rs := [8]) (by kernel_rfl) (by simp) ?_
              refine AllReadyH.cons (o := ⟨some 8, _, _, _, _, _⟩) rfl (fun K hK => ?_) AllReadyH.nil
              · go_simp
                replace hp := hp.new 25 #[.int .u8 0, .int .u32 0, .int .u64 0, .int .u64 0]
                refine hK.out _ _ (hp.s4 0 1 2 3 rfl rfl rfl rfl) (fun hHeld => ?_)
                clear hK K
                generalize World.alloc _ _ = w3 at *
                try simp only [Act.put, List.setIfInBounds_toArray, List.set_cons_zero, List.set_cons_succ]
                refine wpAnyH_ready (rs := [10]) (by kernel_rfl) (by simp) ?_
                refine AllReadyH.cons (o := ⟨none, _, _, _, _, _⟩) rfl (fun K hK => ?_) AllReadyH.nil
                · obtain ⟨q0, q1, q2, q3⟩ := hp.c4 5 rfl
                  obtain ⟨⟨f0, f1, f2, f3⟩, hl⟩ := hp.f4 5 rfl
                  go_simp
                  clear q0 q1 q2 q3 f0 f1 f2 f3 hl
                  replace hp := hp.four 5 rfl (.int .u8 k) (.int .u32 B1) (.int .u64 B2) (.int .u64 B3)
                  refine hK.out _ _ (hp.s4 0 1 2 3 rfl rfl rfl rfl) (fun hHeld => ?_)
                  clear hK K
                  generalize World.setCell _ _ _ = w3 at *
                  try simp only [Act.put, List.setIfInBounds_toArray, List.set_cons_zero, List.set_cons_succ]
                  refine wpAnyH_ready (rs := [11]) (by kernel_rfl) (by simp) ?_
                  refine AllReadyH.cons (o := ⟨none, _, _, _, _, _⟩) rfl (fun K hK => ?_) AllReadyH.nil
                  · obtain ⟨q0, q1, q2, q3⟩ := hp.c4 4 rfl
                    obtain ⟨⟨f0, f1, f2, f3⟩, hl⟩ := hp.f4 4 rfl
                    go_simp
                    clear q0 q1 q2 q3 f0 f1 f2 f3 hl
                    replace hp := hp.four 4 rfl (.int .u8 k) (.int .u32 D1) (.int .u64 D2) (.int .u64 D3)
                    refine hK.out _ _ (hp.s4 0 1 2 3 rfl rfl rfl rfl) (fun hHeld => ?_)
                    clear hK K
                    generalize World.setCell _ _ _ = w3 at *
                    try simp only [Act.put, List.setIfInBounds_toArray, List.set_cons_zero, List.set_cons_succ]
                    refine wpAnyH_done (by kernel_rfl) ?_ _
                    go_wp2_with fail
                    go_meet
                    case rel => exact ⟨_, _, rfl, rfl, Fr.swap (L := [(w.heap.size, 25, #[.int .u8 k, .int .u32 sz, .int .u64 mk, .int .u64 st]), (w.heap.size + 1, 41, #[.int .u8 wh, .int .u64 n, .int .u8 op, .int .u64 b]), (w.heap.size + 1 + 1, 41, #[.int .u8 wh', .int .u64 n', .int .u8 op', .int .u64 b']), (gx, 25, #[.int .u8 k, .int .u32 A1, .int .u64 A2, .int .u64 A3])]) hp⟩
            · go_simp
              replace hp := hp.new 25 #[.int .u8 0, .int .u32 0, .int .u64 0, .int .u64 0]
              refine hK.out _ _ (hp.s4 0 1 2 3 rfl rfl rfl rfl) (fun hHeld => ?_)
              clear hK K
              generalize World.alloc _ _ = w3 at *
              try simp only [Act.put, List.setIfInBounds_toArray, List.set_cons_zero, List.set_cons_succ]
              refine wpAnyH_ready (rs := [7]) (by kernel_rfl) (by simp) ?_
              refine AllReadyH.cons (o := ⟨some 32, _, _, _, _, _⟩) rfl (fun K hK => ?_) AllReadyH.nil
              · go_simp
                with_reducible refine (N6.out _).mono ?_
                rintro e w1 ⟨rfl, hb⟩
                replace hp := hp.later hb
                clear hb
                refine hK.out _ _ (hp.s4 0 1 2 3 rfl rfl rfl rfl) (fun hHeld => ?_)
                clear hK K
                try simp only [Act.put, List.setIfInBounds_toArray, List.set_cons_zero, List.set_cons_succ]
                refine wpAnyH_ready (rs := [10]) (by kernel_rfl) (by simp) ?_
                refine AllReadyH.cons (o := ⟨none, _, _, _, _, _⟩) rfl (fun K hK => ?_) AllReadyH.nil
                · obtain ⟨q0, q1, q2, q3⟩ := hp.c4 5 rfl
                  obtain ⟨⟨f0, f1, f2, f3⟩, hl⟩ := hp.f4 5 rfl
                  go_simp
                  clear q0 q1 q2 q3 f0 f1 f2 f3 hl
                  replace hp := hp.four 5 rfl (.int .u8 k) (.int .u32 B1) (.int .u64 B2) (.int .u64 B3)
                  refine hK.out _ _ (hp.s4 0 1 2 3 rfl rfl rfl rfl) (fun hHeld => ?_)
                  clear hK K
                  generalize World.setCell _ _ _ = w3 at *
                  try simp only [Act.put, List.setIfInBounds_toArray, List.set_cons_zero, List.set_cons_succ]
                  refine wpAnyH_ready (rs := [11]) (by kernel_rfl) (by simp) ?_
                  refine AllReadyH.cons (o := ⟨none, _, _, _, _, _⟩) rfl (fun K hK => ?_) AllReadyH.nil
                  · obtain ⟨q0, q1, q2, q3⟩ := hp.c4 4 rfl
                    obtain ⟨⟨f0, f1, f2, f3⟩, hl⟩ := hp.f4 4 rfl
                    go_simp
                    clear q0 q1 q2 q3 f0 f1 f2 f3 hl
                    replace hp := hp.four 4 rfl (.int .u8 k) (.int .u32 D1) (.int .u64 D2) (.int .u64 D3)
                    refine hK.out _ _ (hp.s4 0 1 2 3 rfl rfl rfl rfl) (fun hHeld => ?_)
                    clear hK K
                    generalize World.setCell _ _ _ = w3 at *
                    try simp only [Act.put, List.setIfInBounds_toArray, List.set_cons_zero, List.set_cons_succ]
                    refine wpAnyH_done (by kernel_rfl) ?_ _
                    go_wp2_with fail
                    go_meet
                    case rel => exact ⟨_, _, rfl, rfl, Fr.swap (L := [(w.heap.size, 25, #[.int .u8 k, .int .u32 sz, .int .u64 mk, .int .u64 st]), (w.heap.size + 1, 41, #[.int .u8 wh, .int .u64 n, .int .u8 op, .int .u64 b]), (w.heap.size + 1 + 1, 41, #[.int .u8 wh', .int .u64 n', .int .u8 op', .int .u64 b']), (gx, 25, #[.int .u8 k, .int .u32 A1, .int .u64 A2, .int .u64 A3])]) hp⟩
          · go_simp
            replace hp := hp.new 25 #[.int .u8 0, .int .u32 0, .int .u64 0, .int .u64 0]
            refine hK.out _ _ (hp.s4 0 1 2 3 rfl rfl rfl rfl) (fun hHeld => ?_)
            clear hK K
            generalize World.alloc _ _ = w3 at *
            try simp only [Act.put, List.setIfInBounds_toArray, List.set_cons_zero, List.set_cons_succ]
            refine wpAnyH_ready (rs := [5]) (by kernel_rfl) (by simp) ?_
            refine AllReadyH.cons (o := ⟨some 30, _, _, _, _, _⟩) rfl (fun K hK => ?_) AllReadyH.nil
            · go_simp
              with_reducible refine (N5.out _).mono ?_
              rintro e w1 ⟨rfl, hb⟩
              replace hp := hp.later hb
              clear hb
              refine hK.out _ _ (hp.s4 0 1 2 3 rfl rfl rfl rfl) (fun hHeld => ?_)
              clear hK K
              try simp only [Act.put, List.setIfInBounds_toArray, List.set_cons_zero, List.set_cons_succ]
              refine wpAnyH_ready (rs := [7]) (by kernel_rfl) (by simp) ?_
              refine AllReadyH.cons (o := ⟨some 32, _, _, _, _, _⟩) rfl (fun K hK => ?_) AllReadyH.nil
              · go_simp
                with_reducible refine (N6.out _).mono ?_
                rintro e w1 ⟨rfl, hb⟩
                replace hp := hp.later hb
                clear hb
                refine hK.out _ _ (hp.s4 0 1 2 3 rfl rfl rfl rfl) (fun hHeld => ?_)
                clear hK K
                try simp only [Act.put, List.setIfInBounds_toArray, List.set_cons_zero, List.set_cons_succ]
                refine wpAnyH_ready (rs := [10]) (by kernel_rfl) (by simp) ?_
                refine AllReadyH.cons (o := ⟨none, _, _, _, _, _⟩) rfl (fun K hK => ?_) AllReadyH.nil
                · obtain ⟨q0, q1, q2, q3⟩ := hp.c4 5 rfl
                  obtain ⟨⟨f0, f1, f2, f3⟩, hl⟩ := hp.f4 5 rfl
                  go_simp
                  clear q0 q1 q2 q3 f0 f1 f2 f3 hl
                  replace hp := hp.four 5 rfl (.int .u8 k) (.int .u32 B1) (.int .u64 B2) (.int .u64 B3)
                  refine hK.out _ _ (hp.s4 0 1 2 3 rfl rfl rfl rfl) (fun hHeld => ?_)
                  clear hK K
                  generalize World.setCell _ _ _ = w3 at *
                  try simp only [Act.put, List.setIfInBounds_toArray, List.set_cons_zero, List.set_cons_succ]
                  refine wpAnyH_ready (rs := [11]) (by kernel_rfl) (by simp) ?_
                  refine AllReadyH.cons (o := ⟨none, _, _, _, _, _⟩) rfl (fun K hK => ?_) AllReadyH.nil
                  · obtain ⟨q0, q1, q2, q3⟩ := hp.c4 4 rfl
                    obtain ⟨⟨f0, f1, f2, f3⟩, hl⟩ := hp.f4 4 rfl
                    go_simp
                    clear q0 q1 q2 q3 f0 f1 f2 f3 hl
                    replace hp := hp.four 4 rfl (.int .u8 k) (.int .u32 D1) (.int .u64 D2) (.int .u64 D3)
                    refine hK.out _ _ (hp.s4 0 1 2 3 rfl rfl rfl rfl) (fun hHeld => ?_)
                    clear hK K
                    generalize World.setCell _ _ _ = w3 at *
                    try simp only [Act.put, List.setIfInBounds_toArray, List.set_cons_zero, List.set_cons_succ]
                    refine wpAnyH_done (by kernel_rfl) ?_ _
                    go_wp2_with fail
                    go_meet
                    case rel => exact ⟨_, _, rfl, rfl, Fr.swap (L := [(w.heap.size, 25, #[.int .u8 k, .int .u32 sz, .int .u64 mk, .int .u64 st]), (w.heap.size + 1, 41, #[.int .u8 wh, .int .u64 n, .int .u8 op, .int .u64 b]), (w.heap.size + 1 + 1, 41, #[.int .u8 wh', .int .u64 n', .int .u8 op', .int .u64 b']), (gx, 25, #[.int .u8 k, .int .u32 A1, .int .u64 A2, .int .u64 A3])]) hp⟩
        · go_simp
          replace hp := hp.new 25 #[.int .u8 0, .int .u32 0, .int .u64 0, .int .u64 0]
          refine hK.out _ _ (hp.s4 0 1 2 3 rfl rfl rfl rfl) (fun hHeld => ?_)
          clear hK K
          generalize World.alloc _ _ = w3 at *
          try simp only [Act.put, List.setIfInBounds_toArray, List.set_cons_zero, List.set_cons_succ]
          refine wpAnyH_ready (rs := [2]) (by kernel_rfl) (by simp) ?_
          refine AllReadyH.cons (o := ⟨some 27, _, _, _, _, _⟩) rfl (fun K hK => ?_) AllReadyH.nil
          · go_simp
            with_reducible refine (N4.out _).mono ?_
            rintro e w1 ⟨rfl, hb⟩
            replace hp := hp.later hb
            clear hb
            refine hK.out _ _ (hp.s4 0 1 2 3 rfl rfl rfl rfl) (fun hHeld => ?_)
            clear hK K
            try simp only [Act.put, List.setIfInBounds_toArray, List.set_cons_zero, List.set_cons_succ]
            refine wpAnyH_ready (rs := [5]) (by kernel_rfl) (by simp) ?_
            refine AllReadyH.cons (o := ⟨some 30, _, _, _, _, _⟩) rfl (fun K hK => ?_) AllReadyH.nil
            · go_simp
              with_reducible refine (N5.out _).mono ?_
              rintro e w1 ⟨rfl, hb⟩
              replace hp := hp.later hb
              clear hb
              refine hK.out _ _ (hp.s4 0 1 2 3 rfl rfl rfl rfl) (fun hHeld => ?_)
              clear hK K
              try simp only [Act.put, List.setIfInBounds_toArray, List.set_cons_zero, List.set_cons_succ]
              refine wpAnyH_ready (rs := [7]) (by kernel_rfl) (by simp) ?_
              refine AllReadyH.cons (o := ⟨some 32, _, _, _, _, _⟩) rfl (fun K hK => ?_) AllReadyH.nil
              · go_simp
                with_reducible refine (N6.out _).mono ?_
                rintro e w1 ⟨rfl, hb⟩
                replace hp := hp.later hb
                clear hb
                refine hK.out _ _ (hp.s4 0 1 2 3 rfl rfl rfl rfl) (fun hHeld => ?_)
                clear hK K
                try simp only [Act.put, List.setIfInBounds_toArray, List.set_cons_zero, List.set_cons_succ]
                refine wpAnyH_ready (rs := [10]) (by kernel_rfl) (by simp) ?_
                refine AllReadyH.cons (o := ⟨none, _, _, _, _, _⟩) rfl (fun K hK => ?_) AllReadyH.nil
                · obtain ⟨q0, q1, q2, q3⟩ := hp.c4 5 rfl
                  obtain ⟨⟨f0, f1, f2, f3⟩, hl⟩ := hp.f4 5 rfl
                  go_simp
                  clear q0 q1 q2 q3 f0 f1 f2 f3 hl
                  replace hp := hp.four 5 rfl (.int .u8 k) (.int .u32 B1) (.int .u64 B2) (.int .u64 B3)
                  refine hK.out _ _ (hp.s4 0 1 2 3 rfl rfl rfl rfl) (fun hHeld => ?_)
                  clear hK K
                  generalize World.setCell _ _ _ = w3 at *
                  try simp only [Act.put, List.setIfInBounds_toArray, List.set_cons_zero, List.set_cons_succ]
                  refine wpAnyH_ready (rs := [11]) (by kernel_rfl) (by simp) ?_
                  refine AllReadyH.cons (o := ⟨none, _, _, _, _, _⟩) rfl (fun K hK => ?_) AllReadyH.nil
                  · obtain ⟨q0, q1, q2, q3⟩ := hp.c4 4 rfl
                    obtain ⟨⟨f0, f1, f2, f3⟩, hl⟩ := hp.f4 4 rfl
                    go_simp
                    clear q0 q1 q2 q3 f0 f1 f2 f3 hl
                    replace hp := hp.four 4 rfl (.int .u8 k) (.int .u32 D1) (.int .u64 D2) (.int .u64 D3)
                    refine hK.out _ _ (hp.s4 0 1 2 3 rfl rfl rfl rfl) (fun hHeld => ?_)
                    clear hK K
                    generalize World.setCell _ _ _ = w3 at *
                    try simp only [Act.put, List.setIfInBounds_toArray, List.set_cons_zero, List.set_cons_succ]
                    refine wpAnyH_done (by kernel_rfl) ?_ _
                    go_wp2_with fail
                    go_meet
                    case rel => exact ⟨_, _, rfl, rfl, Fr.swap (L := [(w.heap.size, 25, #[.int .u8 k, .int .u32 sz, .int .u64 mk, .int .u64 st]), (w.heap.size + 1, 41, #[.int .u8 wh, .int .u64 n, .int .u8 op, .int .u64 b]), (w.heap.size + 1 + 1, 41, #[.int .u8 wh', .int .u64 n', .int .u8 op', .int .u64 b']), (gx, 25, #[.int .u8 k, .int .u32 A1, .int .u64 A2, .int .u64 A3])]) hp⟩
    case rest =>
      obtain ⟨g8, g9, rfl, rfl, hp⟩ := hcut
      clear N4 N5 N6
      go_upto_region 5 with fail
      go_cut [52] from 10 (fun v wx => v = .bool false ∧ Fr w [(w.heap.size, 25, #[.int .u8 k, .int .u32 sz, .int .u64 mk, .int .u64 st]), (w.heap.size + 1, 41, #[.int .u8 wh, .int .u64 n, .int .u8 op, .int .u64 b]), (w.heap.size + 1 + 1, 41, #[.int .u8 wh', .int .u64 n', .int .u8 op', .int .u64 b']), (gx, 25, #[.int .u8 k, .int .u32 A1, .int .u64 A2, .int .u64 A3]), (g8, 25, #[.int .u8 k, .int .u32 B1, .int .u64 B2, .int .u64 B3]), (g9, 25, #[.int .u8 k, .int .u32 D1, .int .u64 D2, .int .u64 D3])] wx)
      case first =>
        replace hp := hp.drew
        rcases D5.out with ⟨hne, rfl, rfl, rfl⟩ | ⟨hne, hw1, hw2, rfl, rfl, rfl⟩ | ⟨hne, hw1, hw2⟩ | ⟨hne, hw1⟩
        · refine wp_region_held_drew (S := (fun wx => (wx.cell? ⟨w.heap.size + 1, 0, none⟩ = some (.int .u8 wh) ∧ wx.cell? ⟨w.heap.size + 1, 1, none⟩ = some (.int .u64 n) ∧ wx.cell? ⟨w.heap.size + 1, 2, none⟩ = some (.int .u8 op) ∧ wx.cell? ⟨w.heap.size + 1, 3, none⟩ = some (.int .u64 b)) ∧ (wx.cell? ⟨w.heap.size + 1 + 1, 0, none⟩ = some (.int .u8 wh') ∧ wx.cell? ⟨w.heap.size + 1 + 1, 1, none⟩ = some (.int .u64 n') ∧ wx.cell? ⟨w.heap.size + 1 + 1, 2, none⟩ = some (.int .u8 op') ∧ wx.cell? ⟨w.heap.size + 1 + 1, 3, none⟩ = some (.int .u64 b')) ∧ (wx.cell? ⟨g8, 0, none⟩ = some (.int .u8 k) ∧ wx.cell? ⟨g8, 1, none⟩ = some (.int .u32 B1) ∧ wx.cell? ⟨g8, 2, none⟩ = some (.int .u64 B2) ∧ wx.cell? ⟨g8, 3, none⟩ = some (.int .u64 B3)) ∧ (wx.cell? ⟨g9, 0, none⟩ = some (.int .u8 k) ∧ wx.cell? ⟨g9, 1, none⟩ = some (.int .u32 B1) ∧ wx.cell? ⟨g9, 2, none⟩ = some (.int .u64 B2) ∧ wx.cell? ⟨g9, 3, none⟩ = some (.int .u64 B3)))) (by kernel_rfl) (hp.s4 1 2 4 5 rfl rfl rfl rfl) (fun hHeld => ?_)
          generalize World.drew _ = w3 at *
          refine wpAnyH_take (i := 0) (oi := ⟨some 33, _, _, _, _, _⟩) (v := ?_) rfl (by kernel_rfl) (by kernel_rfl) (by kernel_rfl) (fun _ _ _ h => h) (Or.inl ⟨by rfl, ?_⟩) (by assumption) ?_
          rotate_left 1
          · intro wq hSw; (try dsimp only at hSw); (first | (go_simp; done) | (go_simp; with_reducible rfl))
          try simp only [Act.put, List.setIfInBounds_toArray, List.set_cons_zero, List.set_cons_succ]
          refine wpAnyH_take (i := 2) (oi := ⟨some 35, _, _, _, _, _⟩) (v := ?_) rfl (by kernel_rfl) (by kernel_rfl) (by kernel_rfl) (fun _ _ _ h => h) (Or.inl ⟨by rfl, ?_⟩) (by assumption) ?_
          rotate_left 1
          · intro wq hSw; (try dsimp only at hSw); (first | (go_simp; done) | (go_simp; with_reducible rfl))
          try simp only [Act.put, List.setIfInBounds_toArray, List.set_cons_zero, List.set_cons_succ]
          refine wpAnyH_ready (rs := [1]) (by kernel_rfl) (by simp) ?_
          refine AllReadyH.cons (o := ⟨some 34, _, _, _, _, _⟩) rfl (fun K hK => ?_) AllReadyH.nil
          · go_simp
            with_reducible refine (Q1.out _).mono ?_
            rintro e w1 ⟨rfl, hb⟩
            replace hp := hp.later hb
            clear hb
            refine hK.out _ _ (hp.s4 1 2 4 5 rfl rfl rfl rfl) (fun hHeld => ?_)
            clear hK K
            try simp only [Act.put, List.setIfInBounds_toArray, List.set_cons_zero, List.set_cons_succ]
            refine wpAnyH_ready (rs := [3]) (by kernel_rfl) (by simp) ?_
            refine AllReadyH.cons (o := ⟨some 36, _, _, _, _, _⟩) rfl (fun K hK => ?_) AllReadyH.nil
            · go_simp
              with_reducible refine (Q2.out _).mono ?_
              rintro e w1 ⟨rfl, hb⟩
              replace hp := hp.later hb
              clear hb
              refine hK.out _ _ (hp.s4 1 2 4 5 rfl rfl rfl rfl) (fun hHeld => ?_)
              clear hK K
              try simp only [Act.put, List.setIfInBounds_toArray, List.set_cons_zero, List.set_cons_succ]
              refine wpAnyH_take (i := 4) (oi := ⟨some 37, _, _, _, _, _⟩) (v := ?_) rfl (by kernel_rfl) (by kernel_rfl) (by kernel_rfl) (fun _ _ _ h => h) (Or.inl ⟨by rfl, ?_⟩) (by assumption) ?_
              rotate_left 1
              · intro wq hSw; (try dsimp only at hSw); (first | (go_simp; done) | (go_simp; with_reducible rfl))
              try simp only [Act.put, List.setIfInBounds_toArray, List.set_cons_zero, List.set_cons_succ]
              refine wpAnyH_take (i := 5) (oi := ⟨some 38, _, _, _, _, _⟩) (v := ?_) rfl (by kernel_rfl) (by kernel_rfl) (by kernel_rfl) (fun _ _ _ h => h) (Or.inl ⟨by rfl, ?_⟩) (by assumption) ?_
              rotate_left 1
              · intro wq hSw; (try dsimp only at hSw); (first | (go_simp; done) | (go_simp; with_reducible rfl))
              try simp only [Act.put, List.setIfInBounds_toArray, List.set_cons_zero, List.set_cons_succ]
              refine wpAnyH_take (i := 6) (oi := ⟨some 39, _, _, _, _, _⟩) (v := undef) rfl (by kernel_rfl) (by kernel_rfl) (by kernel_rfl) (fun _ _ _ h => h) (Or.inr ⟨by rfl, rfl⟩) (by assumption) ?_
              try simp only [Act.put, List.setIfInBounds_toArray, List.set_cons_zero, List.set_cons_succ]
              refine wpAnyH_take (i := 7) (oi := ⟨some 40, _, _, _, _, _⟩) (v := undef) rfl (by kernel_rfl) (by kernel_rfl) (by kernel_rfl) (fun _ _ _ h => h) (Or.inr ⟨by rfl, rfl⟩) (by assumption) ?_
              try simp only [Act.put, List.setIfInBounds_toArray, List.set_cons_zero, List.set_cons_succ]
              refine wpAnyH_take (i := 8) (oi := ⟨some 41, _, _, _, _, _⟩) (v := undef) rfl (by kernel_rfl) (by kernel_rfl) (by kernel_rfl) (fun _ _ _ h => h) (Or.inr ⟨by rfl, rfl⟩) (by assumption) ?_
              try simp only [Act.put, List.setIfInBounds_toArray, List.set_cons_zero, List.set_cons_succ]
              refine wpAnyH_take (i := 9) (oi := ⟨some 42, _, _, _, _, _⟩) (v := undef) rfl (by kernel_rfl) (by kernel_rfl) (by kernel_rfl) (fun _ _ _ h => h) (Or.inr ⟨by rfl, rfl⟩) (by assumption) ?_
              try simp only [Act.put, List.setIfInBounds_toArray, List.set_cons_zero, List.set_cons_succ]
              refine wpAnyH_take (i := 10) (oi := ⟨some 43, _, _, _, _, _⟩) (v := undef) rfl (by kernel_rfl) (by kernel_rfl) (by kernel_rfl) (fun _ _ _ h => h) (Or.inr ⟨by rfl, rfl⟩) (by assumption) ?_
              try simp only [Act.put, List.setIfInBounds_toArray, List.set_cons_zero, List.set_cons_succ]
              refine wpAnyH_take (i := 11) (oi := ⟨some 44, _, _, _, _, _⟩) (v := undef) rfl (by kernel_rfl) (by kernel_rfl) (by kernel_rfl) (fun _ _ _ h => h) (Or.inr ⟨by rfl, rfl⟩) (by assumption) ?_
              try simp only [Act.put, List.setIfInBounds_toArray, List.set_cons_zero, List.set_cons_succ]
              refine wpAnyH_take (i := 12) (oi := ⟨some 45, _, _, _, _, _⟩) (v := undef) rfl (by kernel_rfl) (by kernel_rfl) (by kernel_rfl) (fun _ _ _ h => h) (Or.inr ⟨by rfl, rfl⟩) (by assumption) ?_
              try simp only [Act.put, List.setIfInBounds_toArray, List.set_cons_zero, List.set_cons_succ]
              refine wpAnyH_take (i := 13) (oi := ⟨some 46, _, _, _, _, _⟩) (v := undef) rfl (by kernel_rfl) (by kernel_rfl) (by kernel_rfl) (fun _ _ _ h => h) (Or.inr ⟨by rfl, rfl⟩) (by assumption) ?_
              try simp only [Act.put, List.setIfInBounds_toArray, List.set_cons_zero, List.set_cons_succ]
              refine wpAnyH_take (i := 14) (oi := ⟨some 47, _, _, _, _, _⟩) (v := ?_) rfl (by kernel_rfl) (by kernel_rfl) (by kernel_rfl) (fun _ _ _ h => h) (Or.inl ⟨by rfl, ?_⟩) (by assumption) ?_
              rotate_left 1
              · intro wq hSw; (try dsimp only at hSw); (first | (go_simp; done) | (go_simp; with_reducible rfl))
              try simp only [Act.put, List.setIfInBounds_toArray, List.set_cons_zero, List.set_cons_succ]
              refine wpAnyH_take (i := 15) (oi := ⟨some 48, _, _, _, _, _⟩) (v := ?_) rfl (by kernel_rfl) (by kernel_rfl) (by kernel_rfl) (fun _ _ _ h => h) (Or.inl ⟨by rfl, ?_⟩) (by assumption) ?_
              rotate_left 1
              · intro wq hSw; (try dsimp only at hSw); (first | (go_simp; done) | (go_simp; with_reducible rfl))
              try simp only [Act.put, List.setIfInBounds_toArray, List.set_cons_zero, List.set_cons_succ]
              refine wpAnyH_take (i := 16) (oi := ⟨some 49, _, _, _, _, _⟩) (v := ?_) rfl (by kernel_rfl) (by kernel_rfl) (by kernel_rfl) (fun _ _ _ h => h) (Or.inl ⟨by rfl, ?_⟩) (by assumption) ?_
              rotate_left 1
              · intro wq hSw; (try dsimp only at hSw); (first | (go_simp; done) | (go_simp; with_reducible rfl))
              try simp only [Act.put, List.setIfInBounds_toArray, List.set_cons_zero, List.set_cons_succ]
              refine wpAnyH_take (i := 17) (oi := ⟨some 50, _, _, _, _, _⟩) (v := ?_) rfl (by kernel_rfl) (by kernel_rfl) (by kernel_rfl) (fun _ _ _ h => h) (Or.inl ⟨by rfl, ?_⟩) (by assumption) ?_
              rotate_left 1
              · intro wq hSw; (try dsimp only at hSw); (first | (go_simp; done) | (go_simp; with_reducible rfl))
              try simp only [Act.put, List.setIfInBounds_toArray, List.set_cons_zero, List.set_cons_succ]
              refine wpAnyH_take (i := 18) (oi := ⟨some 51, _, _, _, _, _⟩) (v := ?_) rfl (by kernel_rfl) (by kernel_rfl) (by kernel_rfl) (fun _ _ _ h => h) (Or.inl ⟨by rfl, ?_⟩) (by assumption) ?_
              rotate_left 1
              · intro wq hSw; (try dsimp only at hSw); (first | (go_simp; done) | (go_simp; with_reducible rfl))
              try simp only [Act.put, List.setIfInBounds_toArray, List.set_cons_zero, List.set_cons_succ]
              refine wpAnyH_take (i := 19) (oi := ⟨some 52, _, _, _, _, _⟩) (v := ?_) rfl (by kernel_rfl) (by kernel_rfl) (by kernel_rfl) (fun _ _ _ h => h) (Or.inl ⟨by rfl, ?_⟩) (by assumption) ?_
              rotate_left 1
              · intro wq hSw; (try dsimp only at hSw); (first | (go_simp; done) | (go_simp; with_reducible rfl))
              try simp only [Act.put, List.setIfInBounds_toArray, List.set_cons_zero, List.set_cons_succ]
              refine wpAnyH_done (by kernel_rfl) ?_ _
              go_wp2_with fail
              go_meet
              case rel => exact ⟨rfl, hp⟩
        · refine wp_region_held_drew (S := (fun wx => (wx.cell? ⟨w.heap.size + 1, 0, none⟩ = some (.int .u8 wh) ∧ wx.cell? ⟨w.heap.size + 1, 1, none⟩ = some (.int .u64 n) ∧ wx.cell? ⟨w.heap.size + 1, 2, none⟩ = some (.int .u8 op) ∧ wx.cell? ⟨w.heap.size + 1, 3, none⟩ = some (.int .u64 b)) ∧ (wx.cell? ⟨w.heap.size + 1 + 1, 0, none⟩ = some (.int .u8 wh') ∧ wx.cell? ⟨w.heap.size + 1 + 1, 1, none⟩ = some (.int .u64 n') ∧ wx.cell? ⟨w.heap.size + 1 + 1, 2, none⟩ = some (.int .u8 op') ∧ wx.cell? ⟨w.heap.size + 1 + 1, 3, none⟩ = some (.int .u64 b')) ∧ (wx.cell? ⟨g8, 0, none⟩ = some (.int .u8 k) ∧ wx.cell? ⟨g8, 1, none⟩ = some (.int .u32 B1) ∧ wx.cell? ⟨g8, 2, none⟩ = some (.int .u64 B2) ∧ wx.cell? ⟨g8, 3, none⟩ = some (.int .u64 B3)) ∧ (wx.cell? ⟨g9, 0, none⟩ = some (.int .u8 k) ∧ wx.cell? ⟨g9, 1, none⟩ = some (.int .u32 B1) ∧ wx.cell? ⟨g9, 2, none⟩ = some (.int .u64 B2) ∧ wx.cell? ⟨g9, 3, none⟩ = some (.int .u64 B3)))) (by kernel_rfl) (hp.s4 1 2 4 5 rfl rfl rfl rfl) (fun hHeld => ?_)
          generalize World.drew _ = w3 at *
          refine wpAnyH_take (i := 0) (oi := ⟨some 33, _, _, _, _, _⟩) (v := ?_) rfl (by kernel_rfl) (by kernel_rfl) (by kernel_rfl) (fun _ _ _ h => h) (Or.inl ⟨by rfl, ?_⟩) (by assumption) ?_
          rotate_left 1
          · intro wq hSw; (try dsimp only at hSw); (first | (go_simp; done) | (go_simp; with_reducible rfl))
          try simp only [Act.put, List.setIfInBounds_toArray, List.set_cons_zero, List.set_cons_succ]
          refine wpAnyH_take (i := 2) (oi := ⟨some 35, _, _, _, _, _⟩) (v := ?_) rfl (by kernel_rfl) (by kernel_rfl) (by kernel_rfl) (fun _ _ _ h => h) (Or.inl ⟨by rfl, ?_⟩) (by assumption) ?_
          rotate_left 1
          · intro wq hSw; (try dsimp only at hSw); (first | (go_simp; done) | (go_simp; with_reducible rfl))
          try simp only [Act.put, List.setIfInBounds_toArray, List.set_cons_zero, List.set_cons_succ]
          refine wpAnyH_ready (rs := [1]) (by kernel_rfl) (by simp) ?_
          refine AllReadyH.cons (o := ⟨some 34, _, _, _, _, _⟩) rfl (fun K hK => ?_) AllReadyH.nil
          · go_simp
            with_reducible refine (Q1.out _).mono ?_
            rintro e w1 ⟨rfl, hb⟩
            replace hp := hp.later hb
            clear hb
            refine hK.out _ _ (hp.s4 1 2 4 5 rfl rfl rfl rfl) (fun hHeld => ?_)
            clear hK K
            try simp only [Act.put, List.setIfInBounds_toArray, List.set_cons_zero, List.set_cons_succ]
            refine wpAnyH_ready (rs := [3]) (by kernel_rfl) (by simp) ?_
            refine AllReadyH.cons (o := ⟨some 36, _, _, _, _, _⟩) rfl (fun K hK => ?_) AllReadyH.nil
            · go_simp
              with_reducible refine (Q2.out _).mono ?_
              rintro e w1 ⟨rfl, hb⟩
              replace hp := hp.later hb
              clear hb
              refine hK.out _ _ (hp.s4 1 2 4 5 rfl rfl rfl rfl) (fun hHeld => ?_)
              clear hK K
              try simp only [Act.put, List.setIfInBounds_toArray, List.set_cons_zero, List.set_cons_succ]
              refine wpAnyH_take (i := 4) (oi := ⟨some 37, _, _, _, _, _⟩) (v := ?_) rfl (by kernel_rfl) (by kernel_rfl) (by kernel_rfl) (fun _ _ _ h => h) (Or.inl ⟨by rfl, ?_⟩) (by assumption) ?_
              rotate_left 1
              · intro wq hSw; (try dsimp only at hSw); (first | (go_simp; done) | (go_simp; with_reducible rfl))
              try simp only [Act.put, List.setIfInBounds_toArray, List.set_cons_zero, List.set_cons_succ]
              refine wpAnyH_take (i := 5) (oi := ⟨some 38, _, _, _, _, _⟩) (v := ?_) rfl (by kernel_rfl) (by kernel_rfl) (by kernel_rfl) (fun _ _ _ h => h) (Or.inl ⟨by rfl, ?_⟩) (by assumption) ?_
              rotate_left 1
              · intro wq hSw; (try dsimp only at hSw); (first | (go_simp; done) | (go_simp; with_reducible rfl))
              try simp only [Act.put, List.setIfInBounds_toArray, List.set_cons_zero, List.set_cons_succ]
              refine wpAnyH_take (i := 6) (oi := ⟨some 39, _, _, _, _, _⟩) (v := ?_) rfl (by kernel_rfl) (by kernel_rfl) (by kernel_rfl) (fun _ _ _ h => h) (Or.inl ⟨by rfl, ?_⟩) (by assumption) ?_
              rotate_left 1
              · intro wq hSw; (try dsimp only at hSw); (first | (go_simp; done) | (go_simp; with_reducible rfl))
              try simp only [Act.put, List.setIfInBounds_toArray, List.set_cons_zero, List.set_cons_succ]
              refine wpAnyH_take (i := 7) (oi := ⟨some 40, _, _, _, _, _⟩) (v := ?_) rfl (by kernel_rfl) (by kernel_rfl) (by kernel_rfl) (fun _ _ _ h => h) (Or.inl ⟨by rfl, ?_⟩) (by assumption) ?_
              rotate_left 1
              · intro wq hSw; (try dsimp only at hSw); (first | (go_simp; done) | (go_simp; with_reducible rfl))
              try simp only [Act.put, List.setIfInBounds_toArray, List.set_cons_zero, List.set_cons_succ]
              refine wpAnyH_take (i := 8) (oi := ⟨some 41, _, _, _, _, _⟩) (v := ?_) rfl (by kernel_rfl) (by kernel_rfl) (by kernel_rfl) (fun _ _ _ h => h) (Or.inl ⟨by rfl, ?_⟩) (by assumption) ?_
              rotate_left 1
              · intro wq hSw; (try dsimp only at hSw); (first | (go_simp; done) | (go_simp; with_reducible rfl))
              try simp only [Act.put, List.setIfInBounds_toArray, List.set_cons_zero, List.set_cons_succ]
              refine wpAnyH_take (i := 9) (oi := ⟨some 42, _, _, _, _, _⟩) (v := ?_) rfl (by kernel_rfl) (by kernel_rfl) (by kernel_rfl) (fun _ _ _ h => h) (Or.inl ⟨by rfl, ?_⟩) (by assumption) ?_
              rotate_left 1
              · intro wq hSw; (try dsimp only at hSw); (first | (go_simp; done) | (go_simp; with_reducible rfl))
              try simp only [Act.put, List.setIfInBounds_toArray, List.set_cons_zero, List.set_cons_succ]
              refine wpAnyH_take (i := 10) (oi := ⟨some 43, _, _, _, _, _⟩) (v := ?_) rfl (by kernel_rfl) (by kernel_rfl) (by kernel_rfl) (fun _ _ _ h => h) (Or.inl ⟨by rfl, ?_⟩) (by assumption) ?_
              rotate_left 1
              · intro wq hSw; (try dsimp only at hSw); (first | (go_simp; done) | (go_simp; with_reducible rfl))
              try simp only [Act.put, List.setIfInBounds_toArray, List.set_cons_zero, List.set_cons_succ]
              refine wpAnyH_take (i := 11) (oi := ⟨some 44, _, _, _, _, _⟩) (v := ?_) rfl (by kernel_rfl) (by kernel_rfl) (by kernel_rfl) (fun _ _ _ h => h) (Or.inl ⟨by rfl, ?_⟩) (by assumption) ?_
              rotate_left 1
              · intro wq hSw; (try dsimp only at hSw); (first | (go_simp; done) | (go_simp; with_reducible rfl))
              try simp only [Act.put, List.setIfInBounds_toArray, List.set_cons_zero, List.set_cons_succ]
              refine wpAnyH_take (i := 12) (oi := ⟨some 45, _, _, _, _, _⟩) (v := ?_) rfl (by kernel_rfl) (by kernel_rfl) (by kernel_rfl) (fun _ _ _ h => h) (Or.inl ⟨by rfl, ?_⟩) (by assumption) ?_
              rotate_left 1
              · intro wq hSw; (try dsimp only at hSw); (first | (go_simp; done) | (go_simp; with_reducible rfl))
              try simp only [Act.put, List.setIfInBounds_toArray, List.set_cons_zero, List.set_cons_succ]
              refine wpAnyH_take (i := 13) (oi := ⟨some 46, _, _, _, _, _⟩) (v := ?_) rfl (by kernel_rfl) (by kernel_rfl) (by kernel_rfl) (fun _ _ _ h => h) (Or.inl ⟨by rfl, ?_⟩) (by assumption) ?_
              rotate_left 1
              · intro wq hSw; (try dsimp only at hSw); (first | (go_simp; done) | (go_simp; with_reducible rfl))
              try simp only [Act.put, List.setIfInBounds_toArray, List.set_cons_zero, List.set_cons_succ]
              refine wpAnyH_take (i := 14) (oi := ⟨some 47, _, _, _, _, _⟩) (v := ?_) rfl (by kernel_rfl) (by kernel_rfl) (by kernel_rfl) (fun _ _ _ h => h) (Or.inl ⟨by rfl, ?_⟩) (by assumption) ?_
              rotate_left 1
              · intro wq hSw; (try dsimp only at hSw); (first | (go_simp; done) | (go_simp; with_reducible rfl))
              try simp only [Act.put, List.setIfInBounds_toArray, List.set_cons_zero, List.set_cons_succ]
              refine wpAnyH_take (i := 15) (oi := ⟨some 48, _, _, _, _, _⟩) (v := ?_) rfl (by kernel_rfl) (by kernel_rfl) (by kernel_rfl) (fun _ _ _ h => h) (Or.inl ⟨by rfl, ?_⟩) (by assumption) ?_
              rotate_left 1
              · intro wq hSw; (try dsimp only at hSw); (first | (go_simp; done) | (go_simp; with_reducible rfl))
              try simp only [Act.put, List.setIfInBounds_toArray, List.set_cons_zero, List.set_cons_succ]
              refine wpAnyH_take (i := 16) (oi := ⟨some 49, _, _, _, _, _⟩) (v := ?_) rfl (by kernel_rfl) (by kernel_rfl) (by kernel_rfl) (fun _ _ _ h => h) (Or.inl ⟨by rfl, ?_⟩) (by assumption) ?_
              rotate_left 1
              · intro wq hSw; (try dsimp only at hSw); (first | (go_simp; done) | (go_simp; with_reducible rfl))
              try simp only [Act.put, List.setIfInBounds_toArray, List.set_cons_zero, List.set_cons_succ]
              refine wpAnyH_take (i := 17) (oi := ⟨some 50, _, _, _, _, _⟩) (v := ?_) rfl (by kernel_rfl) (by kernel_rfl) (by kernel_rfl) (fun _ _ _ h => h) (Or.inl ⟨by rfl, ?_⟩) (by assumption) ?_
              rotate_left 1
              · intro wq hSw; (try dsimp only at hSw); (first | (go_simp; done) | (go_simp; with_reducible rfl))
              try simp only [Act.put, List.setIfInBounds_toArray, List.set_cons_zero, List.set_cons_succ]
              refine wpAnyH_take (i := 18) (oi := ⟨some 51, _, _, _, _, _⟩) (v := ?_) rfl (by kernel_rfl) (by kernel_rfl) (by kernel_rfl) (fun _ _ _ h => h) (Or.inl ⟨by rfl, ?_⟩) (by assumption) ?_
              rotate_left 1
              · intro wq hSw; (try dsimp only at hSw); (first | (go_simp; done) | (go_simp; with_reducible rfl))
              try simp only [Act.put, List.setIfInBounds_toArray, List.set_cons_zero, List.set_cons_succ]
              refine wpAnyH_take (i := 19) (oi := ⟨some 52, _, _, _, _, _⟩) (v := ?_) rfl (by kernel_rfl) (by kernel_rfl) (by kernel_rfl) (fun _ _ _ h => h) (Or.inl ⟨by rfl, ?_⟩) (by assumption) ?_
              rotate_left 1
              · intro wq hSw; (try dsimp only at hSw); (first | (go_simp; done) | (go_simp; with_reducible rfl))
              try simp only [Act.put, List.setIfInBounds_toArray, List.set_cons_zero, List.set_cons_succ]
              refine wpAnyH_done (by kernel_rfl) ?_ _
              go_wp2_with fail
              go_meet
              case rel => exact ⟨rfl, hp⟩
        · refine wp_region_held_drew (S := (fun wx => (wx.cell? ⟨w.heap.size + 1, 0, none⟩ = some (.int .u8 wh) ∧ wx.cell? ⟨w.heap.size + 1, 1, none⟩ = some (.int .u64 n) ∧ wx.cell? ⟨w.heap.size + 1, 2, none⟩ = some (.int .u8 op) ∧ wx.cell? ⟨w.heap.size + 1, 3, none⟩ = some (.int .u64 b)) ∧ (wx.cell? ⟨w.heap.size + 1 + 1, 0, none⟩ = some (.int .u8 wh') ∧ wx.cell? ⟨w.heap.size + 1 + 1, 1, none⟩ = some (.int .u64 n') ∧ wx.cell? ⟨w.heap.size + 1 + 1, 2, none⟩ = some (.int .u8 op') ∧ wx.cell? ⟨w.heap.size + 1 + 1, 3, none⟩ = some (.int .u64 b')) ∧ (wx.cell? ⟨g8, 0, none⟩ = some (.int .u8 k) ∧ wx.cell? ⟨g8, 1, none⟩ = some (.int .u32 B1) ∧ wx.cell? ⟨g8, 2, none⟩ = some (.int .u64 B2) ∧ wx.cell? ⟨g8, 3, none⟩ = some (.int .u64 B3)) ∧ (wx.cell? ⟨g9, 0, none⟩ = some (.int .u8 k) ∧ wx.cell? ⟨g9, 1, none⟩ = some (.int .u32 D1) ∧ wx.cell? ⟨g9, 2, none⟩ = some (.int .u64 D2) ∧ wx.cell? ⟨g9, 3, none⟩ = some (.int .u64 D3)))) (by kernel_rfl) (hp.s4 1 2 4 5 rfl rfl rfl rfl) (fun hHeld => ?_)
          generalize World.drew _ = w3 at *
          refine wpAnyH_take (i := 0) (oi := ⟨some 33, _, _, _, _, _⟩) (v := ?_) rfl (by kernel_rfl) (by kernel_rfl) (by kernel_rfl) (fun _ _ _ h => h) (Or.inl ⟨by rfl, ?_⟩) (by assumption) ?_
          rotate_left 1
          · intro wq hSw; (try dsimp only at hSw); (first | (go_simp; done) | (go_simp; with_reducible rfl))
          try simp only [Act.put, List.setIfInBounds_toArray, List.set_cons_zero, List.set_cons_succ]
          refine wpAnyH_take (i := 2) (oi := ⟨some 35, _, _, _, _, _⟩) (v := ?_) rfl (by kernel_rfl) (by kernel_rfl) (by kernel_rfl) (fun _ _ _ h => h) (Or.inl ⟨by rfl, ?_⟩) (by assumption) ?_
          rotate_left 1
          · intro wq hSw; (try dsimp only at hSw); (first | (go_simp; done) | (go_simp; with_reducible rfl))
          try simp only [Act.put, List.setIfInBounds_toArray, List.set_cons_zero, List.set_cons_succ]
          refine wpAnyH_ready (rs := [1]) (by kernel_rfl) (by simp) ?_
          refine AllReadyH.cons (o := ⟨some 34, _, _, _, _, _⟩) rfl (fun K hK => ?_) AllReadyH.nil
          · go_simp
            with_reducible refine (Q1.out _).mono ?_
            rintro e w1 ⟨rfl, hb⟩
            replace hp := hp.later hb
            clear hb
            refine hK.out _ _ (hp.s4 1 2 4 5 rfl rfl rfl rfl) (fun hHeld => ?_)
            clear hK K
            try simp only [Act.put, List.setIfInBounds_toArray, List.set_cons_zero, List.set_cons_succ]
            refine wpAnyH_ready (rs := [3]) (by kernel_rfl) (by simp) ?_
            refine AllReadyH.cons (o := ⟨some 36, _, _, _, _, _⟩) rfl (fun K hK => ?_) AllReadyH.nil
            · go_simp
              with_reducible refine (Q2.out _).mono ?_
              rintro e w1 ⟨rfl, hb⟩
              replace hp := hp.later hb
              clear hb
              refine hK.out _ _ (hp.s4 1 2 4 5 rfl rfl rfl rfl) (fun hHeld => ?_)
              clear hK K
              try simp only [Act.put, List.setIfInBounds_toArray, List.set_cons_zero, List.set_cons_succ]
              refine wpAnyH_take (i := 4) (oi := ⟨some 37, _, _, _, _, _⟩) (v := ?_) rfl (by kernel_rfl) (by kernel_rfl) (by kernel_rfl) (fun _ _ _ h => h) (Or.inl ⟨by rfl, ?_⟩) (by assumption) ?_
              rotate_left 1
              · intro wq hSw; (try dsimp only at hSw); (first | (go_simp; done) | (go_simp; with_reducible rfl))
              try simp only [Act.put, List.setIfInBounds_toArray, List.set_cons_zero, List.set_cons_succ]
              refine wpAnyH_take (i := 5) (oi := ⟨some 38, _, _, _, _, _⟩) (v := ?_) rfl (by kernel_rfl) (by kernel_rfl) (by kernel_rfl) (fun _ _ _ h => h) (Or.inl ⟨by rfl, ?_⟩) (by assumption) ?_
              rotate_left 1
              · intro wq hSw; (try dsimp only at hSw); (first | (go_simp; done) | (go_simp; with_reducible rfl))
              try simp only [Act.put, List.setIfInBounds_toArray, List.set_cons_zero, List.set_cons_succ]
              refine wpAnyH_take (i := 6) (oi := ⟨some 39, _, _, _, _, _⟩) (v := ?_) rfl (by kernel_rfl) (by kernel_rfl) (by kernel_rfl) (fun _ _ _ h => h) (Or.inl ⟨by rfl, ?_⟩) (by assumption) ?_
              rotate_left 1
              · intro wq hSw; (try dsimp only at hSw); (first | (go_simp; done) | (go_simp; with_reducible rfl))
              try simp only [Act.put, List.setIfInBounds_toArray, List.set_cons_zero, List.set_cons_succ]
              refine wpAnyH_take (i := 7) (oi := ⟨some 40, _, _, _, _, _⟩) (v := ?_) rfl (by kernel_rfl) (by kernel_rfl) (by kernel_rfl) (fun _ _ _ h => h) (Or.inl ⟨by rfl, ?_⟩) (by assumption) ?_
              rotate_left 1
              · intro wq hSw; (try dsimp only at hSw); (first | (go_simp; done) | (go_simp; with_reducible rfl))
              try simp only [Act.put, List.setIfInBounds_toArray, List.set_cons_zero, List.set_cons_succ]
              refine wpAnyH_take (i := 8) (oi := ⟨some 41, _, _, _, _, _⟩) (v := ?_) rfl (by kernel_rfl) (by kernel_rfl) (by kernel_rfl) (fun _ _ _ h => h) (Or.inl ⟨by rfl, ?_⟩) (by assumption) ?_
              rotate_left 1
              · intro wq hSw; (try dsimp only at hSw); (first | (go_simp; done) | (go_simp; with_reducible rfl))
              try simp only [Act.put, List.setIfInBounds_toArray, List.set_cons_zero, List.set_cons_succ]
              refine wpAnyH_take (i := 9) (oi := ⟨some 42, _, _, _, _, _⟩) (v := ?_) rfl (by kernel_rfl) (by kernel_rfl) (by kernel_rfl) (fun _ _ _ h => h) (Or.inl ⟨by rfl, ?_⟩) (by assumption) ?_
              rotate_left 1
              · intro wq hSw; (try dsimp only at hSw); (first | (go_simp; done) | (go_simp; with_reducible rfl))
              try simp only [Act.put, List.setIfInBounds_toArray, List.set_cons_zero, List.set_cons_succ]
              refine wpAnyH_take (i := 10) (oi := ⟨some 43, _, _, _, _, _⟩) (v := ?_) rfl (by kernel_rfl) (by kernel_rfl) (by kernel_rfl) (fun _ _ _ h => h) (Or.inl ⟨by rfl, ?_⟩) (by assumption) ?_
              rotate_left 1
              · intro wq hSw; (try dsimp only at hSw); (first | (go_simp; done) | (go_simp; with_reducible rfl))
              try simp only [Act.put, List.setIfInBounds_toArray, List.set_cons_zero, List.set_cons_succ]
              refine wpAnyH_take (i := 11) (oi := ⟨some 44, _, _, _, _, _⟩) (v := ?_) rfl (by kernel_rfl) (by kernel_rfl) (by kernel_rfl) (fun _ _ _ h => h) (Or.inl ⟨by rfl, ?_⟩) (by assumption) ?_
              rotate_left 1
              · intro wq hSw; (try dsimp only at hSw); (first | (go_simp; done) | (go_simp; with_reducible rfl))
              try simp only [Act.put, List.setIfInBounds_toArray, List.set_cons_zero, List.set_cons_succ]
              refine wpAnyH_take (i := 12) (oi := ⟨some 45, _, _, _, _, _⟩) (v := ?_) rfl (by kernel_rfl) (by kernel_rfl) (by kernel_rfl) (fun _ _ _ h => h) (Or.inl ⟨by rfl, ?_⟩) (by assumption) ?_
              rotate_left 1
              · intro wq hSw; (try dsimp only at hSw); (first | (go_simp; done) | (go_simp; with_reducible rfl))
              try simp only [Act.put, List.setIfInBounds_toArray, List.set_cons_zero, List.set_cons_succ]
              refine wpAnyH_take (i := 13) (oi := ⟨some 46, _, _, _, _, _⟩) (v := ?_) rfl (by kernel_rfl) (by kernel_rfl) (by kernel_rfl) (fun _ _ _ h => h) (Or.inl ⟨by rfl, ?_⟩) (by assumption) ?_
              rotate_left 1
              · intro wq hSw; (try dsimp only at hSw); (first | (go_simp; done) | (go_simp; with_reducible rfl))
              try simp only [Act.put, List.setIfInBounds_toArray, List.set_cons_zero, List.set_cons_succ]
              refine wpAnyH_take (i := 14) (oi := ⟨some 47, _, _, _, _, _⟩) (v := ?_) rfl (by kernel_rfl) (by kernel_rfl) (by kernel_rfl) (fun _ _ _ h => h) (Or.inl ⟨by rfl, ?_⟩) (by assumption) ?_
              rotate_left 1
              · intro wq hSw; (try dsimp only at hSw); (first | (go_simp; done) | (go_simp; with_reducible rfl))
              try simp only [Act.put, List.setIfInBounds_toArray, List.set_cons_zero, List.set_cons_succ]
              refine wpAnyH_take (i := 15) (oi := ⟨some 48, _, _, _, _, _⟩) (v := ?_) rfl (by kernel_rfl) (by kernel_rfl) (by kernel_rfl) (fun _ _ _ h => h) (Or.inl ⟨by rfl, ?_⟩) (by assumption) ?_
              rotate_left 1
              · intro wq hSw; (try dsimp only at hSw); (first | (go_simp; done) | (go_simp; with_reducible rfl))
              try simp only [Act.put, List.setIfInBounds_toArray, List.set_cons_zero, List.set_cons_succ]
              refine wpAnyH_take (i := 16) (oi := ⟨some 49, _, _, _, _, _⟩) (v := undef) rfl (by kernel_rfl) (by kernel_rfl) (by kernel_rfl) (fun _ _ _ h => h) (Or.inr ⟨by rfl, rfl⟩) (by assumption) ?_
              try simp only [Act.put, List.setIfInBounds_toArray, List.set_cons_zero, List.set_cons_succ]
              refine wpAnyH_take (i := 17) (oi := ⟨some 50, _, _, _, _, _⟩) (v := undef) rfl (by kernel_rfl) (by kernel_rfl) (by kernel_rfl) (fun _ _ _ h => h) (Or.inr ⟨by rfl, rfl⟩) (by assumption) ?_
              try simp only [Act.put, List.setIfInBounds_toArray, List.set_cons_zero, List.set_cons_succ]
              refine wpAnyH_take (i := 18) (oi := ⟨some 51, _, _, _, _, _⟩) (v := undef) rfl (by kernel_rfl) (by kernel_rfl) (by kernel_rfl) (fun _ _ _ h => h) (Or.inr ⟨by rfl, rfl⟩) (by assumption) ?_
              try simp only [Act.put, List.setIfInBounds_toArray, List.set_cons_zero, List.set_cons_succ]
              refine wpAnyH_take (i := 19) (oi := ⟨some 52, _, _, _, _, _⟩) (v := ?_) rfl (by kernel_rfl) (by kernel_rfl) (by kernel_rfl) (fun _ _ _ h => h) (Or.inl ⟨by rfl, ?_⟩) (by assumption) ?_
              rotate_left 1
              · intro wq hSw; (try dsimp only at hSw); (first | (go_simp; done) | (go_simp; with_reducible rfl))
              try simp only [Act.put, List.setIfInBounds_toArray, List.set_cons_zero, List.set_cons_succ]
              refine wpAnyH_done (by kernel_rfl) ?_ _
              go_wp2_with fail
              go_meet
              case rel => exact ⟨rfl, hp⟩
        · refine wp_region_held_drew (S := (fun wx => (wx.cell? ⟨w.heap.size + 1, 0, none⟩ = some (.int .u8 wh) ∧ wx.cell? ⟨w.heap.size + 1, 1, none⟩ = some (.int .u64 n) ∧ wx.cell? ⟨w.heap.size + 1, 2, none⟩ = some (.int .u8 op) ∧ wx.cell? ⟨w.heap.size + 1, 3, none⟩ = some (.int .u64 b)) ∧ (wx.cell? ⟨w.heap.size + 1 + 1, 0, none⟩ = some (.int .u8 wh') ∧ wx.cell? ⟨w.heap.size + 1 + 1, 1, none⟩ = some (.int .u64 n') ∧ wx.cell? ⟨w.heap.size + 1 + 1, 2, none⟩ = some (.int .u8 op') ∧ wx.cell? ⟨w.heap.size + 1 + 1, 3, none⟩ = some (.int .u64 b')) ∧ (wx.cell? ⟨g8, 0, none⟩ = some (.int .u8 k) ∧ wx.cell? ⟨g8, 1, none⟩ = some (.int .u32 B1) ∧ wx.cell? ⟨g8, 2, none⟩ = some (.int .u64 B2) ∧ wx.cell? ⟨g8, 3, none⟩ = some (.int .u64 B3)) ∧ (wx.cell? ⟨g9, 0, none⟩ = some (.int .u8 k) ∧ wx.cell? ⟨g9, 1, none⟩ = some (.int .u32 D1) ∧ wx.cell? ⟨g9, 2, none⟩ = some (.int .u64 D2) ∧ wx.cell? ⟨g9, 3, none⟩ = some (.int .u64 D3)))) (by kernel_rfl) (hp.s4 1 2 4 5 rfl rfl rfl rfl) (fun hHeld => ?_)
          generalize World.drew _ = w3 at *
          refine wpAnyH_take (i := 0) (oi := ⟨some 33, _, _, _, _, _⟩) (v := ?_) rfl (by kernel_rfl) (by kernel_rfl) (by kernel_rfl) (fun _ _ _ h => h) (Or.inl ⟨by rfl, ?_⟩) (by assumption) ?_
          rotate_left 1
          · intro wq hSw; (try dsimp only at hSw); (first | (go_simp; done) | (go_simp; with_reducible rfl))
          try simp only [Act.put, List.setIfInBounds_toArray, List.set_cons_zero, List.set_cons_succ]
          refine wpAnyH_take (i := 2) (oi := ⟨some 35, _, _, _, _, _⟩) (v := ?_) rfl (by kernel_rfl) (by kernel_rfl) (by kernel_rfl) (fun _ _ _ h => h) (Or.inl ⟨by rfl, ?_⟩) (by assumption) ?_
          rotate_left 1
          · intro wq hSw; (try dsimp only at hSw); (first | (go_simp; done) | (go_simp; with_reducible rfl))
          try simp only [Act.put, List.setIfInBounds_toArray, List.set_cons_zero, List.set_cons_succ]
          refine wpAnyH_ready (rs := [1]) (by kernel_rfl) (by simp) ?_
          refine AllReadyH.cons (o := ⟨some 34, _, _, _, _, _⟩) rfl (fun K hK => ?_) AllReadyH.nil
          · go_simp
            with_reducible refine (Q1.out _).mono ?_
            rintro e w1 ⟨rfl, hb⟩
            replace hp := hp.later hb
            clear hb
            refine hK.out _ _ (hp.s4 1 2 4 5 rfl rfl rfl rfl) (fun hHeld => ?_)
            clear hK K
            try simp only [Act.put, List.setIfInBounds_toArray, List.set_cons_zero, List.set_cons_succ]
            refine wpAnyH_ready (rs := [3]) (by kernel_rfl) (by simp) ?_
            refine AllReadyH.cons (o := ⟨some 36, _, _, _, _, _⟩) rfl (fun K hK => ?_) AllReadyH.nil
            · go_simp
              with_reducible refine (Q2.out _).mono ?_
              rintro e w1 ⟨rfl, hb⟩
              replace hp := hp.later hb
              clear hb
              refine hK.out _ _ (hp.s4 1 2 4 5 rfl rfl rfl rfl) (fun hHeld => ?_)
              clear hK K
              try simp only [Act.put, List.setIfInBounds_toArray, List.set_cons_zero, List.set_cons_succ]
              refine wpAnyH_take (i := 4) (oi := ⟨some 37, _, _, _, _, _⟩) (v := ?_) rfl (by kernel_rfl) (by kernel_rfl) (by kernel_rfl) (fun _ _ _ h => h) (Or.inl ⟨by rfl, ?_⟩) (by assumption) ?_
              rotate_left 1
              · intro wq hSw; (try dsimp only at hSw); (first | (go_simp; done) | (go_simp; with_reducible rfl))
              try simp only [Act.put, List.setIfInBounds_toArray, List.set_cons_zero, List.set_cons_succ]
              refine wpAnyH_take (i := 5) (oi := ⟨some 38, _, _, _, _, _⟩) (v := ?_) rfl (by kernel_rfl) (by kernel_rfl) (by kernel_rfl) (fun _ _ _ h => h) (Or.inl ⟨by rfl, ?_⟩) (by assumption) ?_
              rotate_left 1
              · intro wq hSw; (try dsimp only at hSw); (first | (go_simp; done) | (go_simp; with_reducible rfl))
              try simp only [Act.put, List.setIfInBounds_toArray, List.set_cons_zero, List.set_cons_succ]
              refine wpAnyH_take (i := 6) (oi := ⟨some 39, _, _, _, _, _⟩) (v := ?_) rfl (by kernel_rfl) (by kernel_rfl) (by kernel_rfl) (fun _ _ _ h => h) (Or.inl ⟨by rfl, ?_⟩) (by assumption) ?_
              rotate_left 1
              · intro wq hSw; (try dsimp only at hSw); (first | (go_simp; done) | (go_simp; with_reducible rfl))
              try simp only [Act.put, List.setIfInBounds_toArray, List.set_cons_zero, List.set_cons_succ]
              refine wpAnyH_take (i := 7) (oi := ⟨some 40, _, _, _, _, _⟩) (v := ?_) rfl (by kernel_rfl) (by kernel_rfl) (by kernel_rfl) (fun _ _ _ h => h) (Or.inl ⟨by rfl, ?_⟩) (by assumption) ?_
              rotate_left 1
              · intro wq hSw; (try dsimp only at hSw); (first | (go_simp; done) | (go_simp; with_reducible rfl))
              try simp only [Act.put, List.setIfInBounds_toArray, List.set_cons_zero, List.set_cons_succ]
              refine wpAnyH_take (i := 8) (oi := ⟨some 41, _, _, _, _, _⟩) (v := ?_) rfl (by kernel_rfl) (by kernel_rfl) (by kernel_rfl) (fun _ _ _ h => h) (Or.inl ⟨by rfl, ?_⟩) (by assumption) ?_
              rotate_left 1
              · intro wq hSw; (try dsimp only at hSw); (first | (go_simp; done) | (go_simp; with_reducible rfl))
              try simp only [Act.put, List.setIfInBounds_toArray, List.set_cons_zero, List.set_cons_succ]
              refine wpAnyH_take (i := 9) (oi := ⟨some 42, _, _, _, _, _⟩) (v := ?_) rfl (by kernel_rfl) (by kernel_rfl) (by kernel_rfl) (fun _ _ _ h => h) (Or.inl ⟨by rfl, ?_⟩) (by assumption) ?_
              rotate_left 1
              · intro wq hSw; (try dsimp only at hSw); (first | (go_simp; done) | (go_simp; with_reducible rfl))
              try simp only [Act.put, List.setIfInBounds_toArray, List.set_cons_zero, List.set_cons_succ]
              refine wpAnyH_take (i := 10) (oi := ⟨some 43, _, _, _, _, _⟩) (v := undef) rfl (by kernel_rfl) (by kernel_rfl) (by kernel_rfl) (fun _ _ _ h => h) (Or.inr ⟨by rfl, rfl⟩) (by assumption) ?_
              try simp only [Act.put, List.setIfInBounds_toArray, List.set_cons_zero, List.set_cons_succ]
              refine wpAnyH_take (i := 11) (oi := ⟨some 44, _, _, _, _, _⟩) (v := undef) rfl (by kernel_rfl) (by kernel_rfl) (by kernel_rfl) (fun _ _ _ h => h) (Or.inr ⟨by rfl, rfl⟩) (by assumption) ?_
              try simp only [Act.put, List.setIfInBounds_toArray, List.set_cons_zero, List.set_cons_succ]
              refine wpAnyH_take (i := 12) (oi := ⟨some 45, _, _, _, _, _⟩) (v := undef) rfl (by kernel_rfl) (by kernel_rfl) (by kernel_rfl) (fun _ _ _ h => h) (Or.inr ⟨by rfl, rfl⟩) (by assumption) ?_
              try simp only [Act.put, List.setIfInBounds_toArray, List.set_cons_zero, List.set_cons_succ]
              refine wpAnyH_take (i := 13) (oi := ⟨some 46, _, _, _, _, _⟩) (v := ?_) rfl (by kernel_rfl) (by kernel_rfl) (by kernel_rfl) (fun _ _ _ h => h) (Or.inl ⟨by rfl, ?_⟩) (by assumption) ?_
              rotate_left 1
              · intro wq hSw; (try dsimp only at hSw); (first | (go_simp; done) | (go_simp; with_reducible rfl))
              try simp only [Act.put, List.setIfInBounds_toArray, List.set_cons_zero, List.set_cons_succ]
              refine wpAnyH_take (i := 14) (oi := ⟨some 47, _, _, _, _, _⟩) (v := ?_) rfl (by kernel_rfl) (by kernel_rfl) (by kernel_rfl) (fun _ _ _ h => h) (Or.inl ⟨by rfl, ?_⟩) (by assumption) ?_
              rotate_left 1
              · intro wq hSw; (try dsimp only at hSw); (first | (go_simp; done) | (go_simp; with_reducible rfl))
              try simp only [Act.put, List.setIfInBounds_toArray, List.set_cons_zero, List.set_cons_succ]
              refine wpAnyH_take (i := 15) (oi := ⟨some 48, _, _, _, _, _⟩) (v := ?_) rfl (by kernel_rfl) (by kernel_rfl) (by kernel_rfl) (fun _ _ _ h => h) (Or.inl ⟨by rfl, ?_⟩) (by assumption) ?_
              rotate_left 1
              · intro wq hSw; (try dsimp only at hSw); (first | (go_simp; done) | (go_simp; with_reducible rfl))
              try simp only [Act.put, List.setIfInBounds_toArray, List.set_cons_zero, List.set_cons_succ]
              refine wpAnyH_take (i := 16) (oi := ⟨some 49, _, _, _, _, _⟩) (v := undef) rfl (by kernel_rfl) (by kernel_rfl) (by kernel_rfl) (fun _ _ _ h => h) (Or.inr ⟨by rfl, rfl⟩) (by assumption) ?_
              try simp only [Act.put, List.setIfInBounds_toArray, List.set_cons_zero, List.set_cons_succ]
              refine wpAnyH_take (i := 17) (oi := ⟨some 50, _, _, _, _, _⟩) (v := undef) rfl (by kernel_rfl) (by kernel_rfl) (by kernel_rfl) (fun _ _ _ h => h) (Or.inr ⟨by rfl, rfl⟩) (by assumption) ?_
              try simp only [Act.put, List.setIfInBounds_toArray, List.set_cons_zero, List.set_cons_succ]
              refine wpAnyH_take (i := 18) (oi := ⟨some 51, _, _, _, _, _⟩) (v := undef) rfl (by kernel_rfl) (by kernel_rfl) (by kernel_rfl) (fun _ _ _ h => h) (Or.inr ⟨by rfl, rfl⟩) (by assumption) ?_
              try simp only [Act.put, List.setIfInBounds_toArray, List.set_cons_zero, List.set_cons_succ]
              refine wpAnyH_take (i := 19) (oi := ⟨some 52, _, _, _, _, _⟩) (v := ?_) rfl (by kernel_rfl) (by kernel_rfl) (by kernel_rfl) (fun _ _ _ h => h) (Or.inl ⟨by rfl, ?_⟩) (by assumption) ?_
              rotate_left 1
              · intro wq hSw; (try dsimp only at hSw); (first | (go_simp; done) | (go_simp; with_reducible rfl))
              try simp only [Act.put, List.setIfInBounds_toArray, List.set_cons_zero, List.set_cons_succ]
              refine wpAnyH_done (by kernel_rfl) ?_ _
              go_wp2_with fail
              go_meet
              case rel => exact ⟨rfl, hp⟩
      case rest =>
        obtain ⟨rfl, hp⟩ := hcut
        clear Q2
        go_upto_region 7 with fail
        go_cut [62] from 10 (fun v wx => v = .bool false ∧ Fr w [(w.heap.size, 25, #[.int .u8 k, .int .u32 sz, .int .u64 mk, .int .u64 st]), (w.heap.size + 1, 41, #[.int .u8 wh, .int .u64 n, .int .u8 op, .int .u64 b]), (w.heap.size + 1 + 1, 41, #[.int .u8 wh', .int .u64 n', .int .u8 op', .int .u64 b']), (gx, 25, #[.int .u8 k, .int .u32 A1, .int .u64 A2, .int .u64 A3]), (g8, 25, #[.int .u8 k, .int .u32 B1, .int .u64 B2, .int .u64 B3]), (g9, 25, #[.int .u8 k, .int .u32 D1, .int .u64 D2, .int .u64 D3])] wx)
        case first =>
          replace hp := hp.drew
          rcases D7.out with ⟨h2, rfl, rfl, rfl⟩ | h2
          · refine wp_region_held_drew (S := (fun wx => (wx.cell? ⟨w.heap.size, 0, none⟩ = some (.int .u8 k) ∧ wx.cell? ⟨w.heap.size, 1, none⟩ = some (.int .u32 sz) ∧ wx.cell? ⟨w.heap.size, 2, none⟩ = some (.int .u64 mk) ∧ wx.cell? ⟨w.heap.size, 3, none⟩ = some (.int .u64 st)) ∧ (wx.cell? ⟨w.heap.size + 1, 0, none⟩ = some (.int .u8 wh) ∧ wx.cell? ⟨w.heap.size + 1, 1, none⟩ = some (.int .u64 n) ∧ wx.cell? ⟨w.heap.size + 1, 2, none⟩ = some (.int .u8 op) ∧ wx.cell? ⟨w.heap.size + 1, 3, none⟩ = some (.int .u64 b)) ∧ (wx.cell? ⟨w.heap.size + 1 + 1, 0, none⟩ = some (.int .u8 wh') ∧ wx.cell? ⟨w.heap.size + 1 + 1, 1, none⟩ = some (.int .u64 n') ∧ wx.cell? ⟨w.heap.size + 1 + 1, 2, none⟩ = some (.int .u8 op') ∧ wx.cell? ⟨w.heap.size + 1 + 1, 3, none⟩ = some (.int .u64 b')) ∧ (wx.cell? ⟨gx, 0, none⟩ = some (.int .u8 k) ∧ wx.cell? ⟨gx, 1, none⟩ = some (.int .u32 A1) ∧ wx.cell? ⟨gx, 2, none⟩ = some (.int .u64 A2) ∧ wx.cell? ⟨gx, 3, none⟩ = some (.int .u64 A3)))) (by kernel_rfl) (hp.s4 0 1 2 3 rfl rfl rfl rfl) (fun hHeld => ?_)
            generalize World.drew _ = w3 at *
            refine wpAnyH_take (i := 0) (oi := ⟨some 53, _, _, _, _, _⟩) (v := ?_) rfl (by kernel_rfl) (by kernel_rfl) (by kernel_rfl) (fun _ _ _ h => h) (Or.inl ⟨by rfl, ?_⟩) (by assumption) ?_
            rotate_left 1
            · intro wq hSw; (try dsimp only at hSw); (first | (go_simp; done) | (go_simp; with_reducible rfl))
            try simp only [Act.put, List.setIfInBounds_toArray, List.set_cons_zero, List.set_cons_succ]
            refine wpAnyH_ready (rs := [1]) (by kernel_rfl) (by simp) ?_
            refine AllReadyH.cons (o := ⟨some 54, _, _, _, _, _⟩) rfl (fun K hK => ?_) AllReadyH.nil
            · go_simp
              with_reducible refine (Q1.out _).mono ?_
              rintro e w1 ⟨rfl, hb⟩
              replace hp := hp.later hb
              clear hb
              refine hK.out _ _ (hp.s4 0 1 2 3 rfl rfl rfl rfl) (fun hHeld => ?_)
              clear hK K
              try simp only [Act.put, List.setIfInBounds_toArray, List.set_cons_zero, List.set_cons_succ]
              refine wpAnyH_take (i := 2) (oi := ⟨some 55, _, _, _, _, _⟩) (v := ?_) rfl (by kernel_rfl) (by kernel_rfl) (by kernel_rfl) (fun _ _ _ h => h) (Or.inl ⟨by rfl, ?_⟩) (by assumption) ?_
              rotate_left 1
              · intro wq hSw; (try dsimp only at hSw); (first | (go_simp; done) | (go_simp; with_reducible rfl))
              try simp only [Act.put, List.setIfInBounds_toArray, List.set_cons_zero, List.set_cons_succ]
              refine wpAnyH_take (i := 3) (oi := ⟨some 56, _, _, _, _, _⟩) (v := ?_) rfl (by kernel_rfl) (by kernel_rfl) (by kernel_rfl) (fun _ _ _ h => h) (Or.inl ⟨by rfl, ?_⟩) (by assumption) ?_
              rotate_left 1
              · intro wq hSw; (try dsimp only at hSw); (first | (go_simp; done) | (go_simp; with_reducible rfl))
              try simp only [Act.put, List.setIfInBounds_toArray, List.set_cons_zero, List.set_cons_succ]
              refine wpAnyH_take (i := 4) (oi := ⟨some 57, _, _, _, _, _⟩) (v := ?_) rfl (by kernel_rfl) (by kernel_rfl) (by kernel_rfl) (fun _ _ _ h => h) (Or.inl ⟨by rfl, ?_⟩) (by assumption) ?_
              rotate_left 1
              · intro wq hSw; (try dsimp only at hSw); (first | (go_simp; done) | (go_simp; with_reducible rfl))
              try simp only [Act.put, List.setIfInBounds_toArray, List.set_cons_zero, List.set_cons_succ]
              refine wpAnyH_take (i := 5) (oi := ⟨some 58, _, _, _, _, _⟩) (v := ?_) rfl (by kernel_rfl) (by kernel_rfl) (by kernel_rfl) (fun _ _ _ h => h) (Or.inl ⟨by rfl, ?_⟩) (by assumption) ?_
              rotate_left 1
              · intro wq hSw; (try dsimp only at hSw); (first | (go_simp; done) | (go_simp; with_reducible rfl))
              try simp only [Act.put, List.setIfInBounds_toArray, List.set_cons_zero, List.set_cons_succ]
              refine wpAnyH_take (i := 7) (oi := ⟨some 60, _, _, _, _, _⟩) (v := ?_) rfl (by kernel_rfl) (by kernel_rfl) (by kernel_rfl) (fun _ _ _ h => h) (Or.inl ⟨by rfl, ?_⟩) (by assumption) ?_
              rotate_left 1
              · intro wq hSw; (try dsimp only at hSw); (first | (go_simp; done) | (go_simp; with_reducible rfl))
              try simp only [Act.put, List.setIfInBounds_toArray, List.set_cons_zero, List.set_cons_succ]
              refine wpAnyH_ready (rs := [6]) (by kernel_rfl) (by simp) ?_
              refine AllReadyH.cons (o := ⟨some 59, _, _, _, _, _⟩) rfl (fun K hK => ?_) AllReadyH.nil
              · go_simp
                with_reducible refine (N7.out _).mono ?_
                rintro e w1 ⟨rfl, hb⟩
                replace hp := hp.later hb
                clear hb
                refine hK.out _ _ (hp.s4 0 1 2 3 rfl rfl rfl rfl) (fun hHeld => ?_)
                clear hK K
                try simp only [Act.put, List.setIfInBounds_toArray, List.set_cons_zero, List.set_cons_succ]
                refine wpAnyH_take (i := 8) (oi := ⟨some 61, _, _, _, _, _⟩) (v := ?_) rfl (by kernel_rfl) (by kernel_rfl) (by kernel_rfl) (fun _ _ _ h => h) (Or.inl ⟨by rfl, ?_⟩) (by assumption) ?_
                rotate_left 1
                · intro wq hSw; (try dsimp only at hSw); (first | (go_simp; done) | (go_simp; with_reducible rfl))
                try simp only [Act.put, List.setIfInBounds_toArray, List.set_cons_zero, List.set_cons_succ]
                refine wpAnyH_take (i := 9) (oi := ⟨some 62, _, _, _, _, _⟩) (v := ?_) rfl (by kernel_rfl) (by kernel_rfl) (by kernel_rfl) (fun _ _ _ h => h) (Or.inl ⟨by rfl, ?_⟩) (by assumption) ?_
                rotate_left 1
                · intro wq hSw; (try dsimp only at hSw); (first | (go_simp; done) | (go_simp; with_reducible rfl))
                try simp only [Act.put, List.setIfInBounds_toArray, List.set_cons_zero, List.set_cons_succ]
                refine wpAnyH_done (by kernel_rfl) ?_ _
                go_wp2_with fail
                go_meet
                case rel => exact ⟨rfl, hp⟩
          · refine wp_region_held_drew (S := (fun wx => (wx.cell? ⟨w.heap.size, 0, none⟩ = some (.int .u8 k) ∧ wx.cell? ⟨w.heap.size, 1, none⟩ = some (.int .u32 sz) ∧ wx.cell? ⟨w.heap.size, 2, none⟩ = some (.int .u64 mk) ∧ wx.cell? ⟨w.heap.size, 3, none⟩ = some (.int .u64 st)) ∧ (wx.cell? ⟨w.heap.size + 1, 0, none⟩ = some (.int .u8 wh) ∧ wx.cell? ⟨w.heap.size + 1, 1, none⟩ = some (.int .u64 n) ∧ wx.cell? ⟨w.heap.size + 1, 2, none⟩ = some (.int .u8 op) ∧ wx.cell? ⟨w.heap.size + 1, 3, none⟩ = some (.int .u64 b)) ∧ (wx.cell? ⟨w.heap.size + 1 + 1, 0, none⟩ = some (.int .u8 wh') ∧ wx.cell? ⟨w.heap.size + 1 + 1, 1, none⟩ = some (.int .u64 n') ∧ wx.cell? ⟨w.heap.size + 1 + 1, 2, none⟩ = some (.int .u8 op') ∧ wx.cell? ⟨w.heap.size + 1 + 1, 3, none⟩ = some (.int .u64 b')) ∧ (wx.cell? ⟨gx, 0, none⟩ = some (.int .u8 k) ∧ wx.cell? ⟨gx, 1, none⟩ = some (.int .u32 A1) ∧ wx.cell? ⟨gx, 2, none⟩ = some (.int .u64 A2) ∧ wx.cell? ⟨gx, 3, none⟩ = some (.int .u64 A3)))) (by kernel_rfl) (hp.s4 0 1 2 3 rfl rfl rfl rfl) (fun hHeld => ?_)
            generalize World.drew _ = w3 at *
            refine wpAnyH_take (i := 0) (oi := ⟨some 53, _, _, _, _, _⟩) (v := ?_) rfl (by kernel_rfl) (by kernel_rfl) (by kernel_rfl) (fun _ _ _ h => h) (Or.inl ⟨by rfl, ?_⟩) (by assumption) ?_
            rotate_left 1
            · intro wq hSw; (try dsimp only at hSw); (first | (go_simp; done) | (go_simp; with_reducible rfl))
            try simp only [Act.put, List.setIfInBounds_toArray, List.set_cons_zero, List.set_cons_succ]
            refine wpAnyH_ready (rs := [1]) (by kernel_rfl) (by simp) ?_
            refine AllReadyH.cons (o := ⟨some 54, _, _, _, _, _⟩) rfl (fun K hK => ?_) AllReadyH.nil
            · go_simp
              with_reducible refine (Q1.out _).mono ?_
              rintro e w1 ⟨rfl, hb⟩
              replace hp := hp.later hb
              clear hb
              refine hK.out _ _ (hp.s4 0 1 2 3 rfl rfl rfl rfl) (fun hHeld => ?_)
              clear hK K
              try simp only [Act.put, List.setIfInBounds_toArray, List.set_cons_zero, List.set_cons_succ]
              refine wpAnyH_take (i := 2) (oi := ⟨some 55, _, _, _, _, _⟩) (v := ?_) rfl (by kernel_rfl) (by kernel_rfl) (by kernel_rfl) (fun _ _ _ h => h) (Or.inl ⟨by rfl, ?_⟩) (by assumption) ?_
              rotate_left 1
              · intro wq hSw; (try dsimp only at hSw); (first | (go_simp; done) | (go_simp; with_reducible rfl))
              try simp only [Act.put, List.setIfInBounds_toArray, List.set_cons_zero, List.set_cons_succ]
              refine wpAnyH_take (i := 3) (oi := ⟨some 56, _, _, _, _, _⟩) (v := ?_) rfl (by kernel_rfl) (by kernel_rfl) (by kernel_rfl) (fun _ _ _ h => h) (Or.inl ⟨by rfl, ?_⟩) (by assumption) ?_
              rotate_left 1
              · intro wq hSw; (try dsimp only at hSw); (first | (go_simp; done) | (go_simp; with_reducible rfl))
              try simp only [Act.put, List.setIfInBounds_toArray, List.set_cons_zero, List.set_cons_succ]
              refine wpAnyH_take (i := 4) (oi := ⟨some 57, _, _, _, _, _⟩) (v := undef) rfl (by kernel_rfl) (by kernel_rfl) (by kernel_rfl) (fun _ _ _ h => h) (Or.inr ⟨by rfl, rfl⟩) (by assumption) ?_
              try simp only [Act.put, List.setIfInBounds_toArray, List.set_cons_zero, List.set_cons_succ]
              refine wpAnyH_take (i := 5) (oi := ⟨some 58, _, _, _, _, _⟩) (v := undef) rfl (by kernel_rfl) (by kernel_rfl) (by kernel_rfl) (fun _ _ _ h => h) (Or.inr ⟨by rfl, rfl⟩) (by assumption) ?_
              try simp only [Act.put, List.setIfInBounds_toArray, List.set_cons_zero, List.set_cons_succ]
              refine wpAnyH_take (i := 6) (oi := ⟨some 59, _, _, _, _, _⟩) (v := undef) rfl (by kernel_rfl) (by kernel_rfl) (by kernel_rfl) (fun _ _ _ h => h) (Or.inr ⟨by rfl, rfl⟩) (by assumption) ?_
              try simp only [Act.put, List.setIfInBounds_toArray, List.set_cons_zero, List.set_cons_succ]
              refine wpAnyH_take (i := 7) (oi := ⟨some 60, _, _, _, _, _⟩) (v := undef) rfl (by kernel_rfl) (by kernel_rfl) (by kernel_rfl) (fun _ _ _ h => h) (Or.inr ⟨by rfl, rfl⟩) (by assumption) ?_
              try simp only [Act.put, List.setIfInBounds_toArray, List.set_cons_zero, List.set_cons_succ]
              refine wpAnyH_take (i := 8) (oi := ⟨some 61, _, _, _, _, _⟩) (v := undef) rfl (by kernel_rfl) (by kernel_rfl) (by kernel_rfl) (fun _ _ _ h => h) (Or.inr ⟨by rfl, rfl⟩) (by assumption) ?_
              try simp only [Act.put, List.setIfInBounds_toArray, List.set_cons_zero, List.set_cons_succ]
              refine wpAnyH_take (i := 9) (oi := ⟨some 62, _, _, _, _, _⟩) (v := ?_) rfl (by kernel_rfl) (by kernel_rfl) (by kernel_rfl) (fun _ _ _ h => h) (Or.inl ⟨by rfl, ?_⟩) (by assumption) ?_
              rotate_left 1
              · intro wq hSw; (try dsimp only at hSw); (first | (go_simp; done) | (go_simp; with_reducible rfl))
              try simp only [Act.put, List.setIfInBounds_toArray, List.set_cons_zero, List.set_cons_succ]
              refine wpAnyH_done (by kernel_rfl) ?_ _
              go_wp2_with fail
              go_meet
              case rel => exact ⟨rfl, hp⟩
        case rest =>
          obtain ⟨rfl, hp⟩ := hcut
          clear N7
          have HP := Lib.hid hp; clear hp
          obtain ⟨a0, a1, a2, a3⟩ := HP.out.c4 0 rfl
          obtain ⟨b0, b1, b2, b3⟩ := HP.out.c4 1 rfl
          obtain ⟨c0, c1, c2, c3⟩ := HP.out.c4 3 rfl
          rcases D9.out with ⟨rfl, rfl, rfl⟩ | ⟨rfl, rfl, rfl⟩ | ⟨rfl, rfl, rfl⟩
          all_goals
            go_wp2_with fail
            clear a0 a1 a2 a3 b0 b1 b2 b3 c0 c1 c2 c3
            refine (Q1.out _).mono ?_; rintro e w5 ⟨rfl, hb⟩
            replace HP := Lib.hid (HP.out.later hb); clear hb
            obtain ⟨a0, a1, a2, a3⟩ := HP.out.c4 0 rfl
            obtain ⟨b0, b1, b2, b3⟩ := HP.out.c4 1 rfl
            obtain ⟨c0, c1, c2, c3⟩ := HP.out.c4 3 rfl
            go_wp2_with fail
            clear a0 a1 a2 a3 b0 b1 b2 b3 c0 c1 c2 c3
            refine (Q1.out _).mono ?_; rintro e w6 ⟨rfl, hb⟩
            replace HP := Lib.hid (HP.out.later hb); clear hb
            obtain ⟨a0, a1, a2, a3⟩ := HP.out.c4 0 rfl
            obtain ⟨b0, b1, b2, b3⟩ := HP.out.c4 1 rfl
            obtain ⟨c0, c1, c2, c3⟩ := HP.out.c4 3 rfl
            go_wp2_with fail
            clear a0 a1 a2 a3 b0 b1 b2 b3 c0 c1 c2 c3
            refine (Q1.out _).mono ?_; rintro e w7 ⟨rfl, hb⟩
            replace HP := Lib.hid (HP.out.later hb); clear hb
            obtain ⟨a0, a1, a2, a3⟩ := HP.out.c4 0 rfl
            obtain ⟨b0, b1, b2, b3⟩ := HP.out.c4 1 rfl
            obtain ⟨c0, c1, c2, c3⟩ := HP.out.c4 3 rfl
            go_wp2_with fail
            clear a0 a1 a2 a3 b0 b1 b2 b3 c0 c1 c2 c3
            refine (AW.out _).mono ?_; rintro e w8 ⟨rfl, hb⟩
            replace HP := Lib.hid (HP.out.later hb); clear hb
            go_wp2_with fail
            go_ret
            exact ⟨rfl, HP.out.below⟩
theorem metaorder_any (k sz mk st wh n op b wh' n' op' b' : Nat) (hm : mk < 18446744073709551616) (hb : b < 18446744073709551616) (hb' : b' < 18446744073709551616) (w : World) :
    Calls Try.prog 8 #[.agg #[.int .u8 k, .int .u32 sz, .int .u64 mk, .int .u64 st], .agg #[.int .u8 wh, .int .u64 n, .int .u8 op, .int .u64 b], .agg #[.int .u8 wh', .int .u64 n', .int .u8 op', .int .u64 b']] w fun e w' => e = .returned (.bool true) ∧ Below w.heap.size w w' := by
  have hx := aMk_lt (k := k) (sz := sz) (wh := wh) (n := n) (op := op) hm hb
  have hy := aMk_lt (k := k) (sz := sz) (wh := wh') (n := n') (op := op') hm hb'
  refine order_core k sz mk st wh n op b wh' n' op' b' (ckM k sz mk) (partN wh) (partN wh') _ _ _ _ _ _ _ _ _ _ _ _ _ _ _ w
    (Lib.hid fun w => apply_any k sz mk st wh n op b hm hb w) (Lib.hid fun w => ?_) (Lib.hid fun w => check_any k sz mk st hm w)
    (Lib.hid fun w => apply_any k _ _ _ wh' n' op' b' hx hb' w) (Lib.hid fun w => apply_any k sz mk st wh' n' op' b' hm hb' w) (Lib.hid fun w => apply_any k _ _ _ wh n op b hy hb w)
    (Lib.hid fun w => apply_any k _ _ _ wh n op b hx hb w) (Lib.hid fun w => part_any wh n op b w) (Lib.hid fun w => part_any wh' n' op' b' w) (Lib.hid fun w => awake_any w) ?_ ?_ ?_
  · have H := check_any k (aSz k sz mk wh n op b) (aMk k sz mk wh n op b) (aSt k sz mk st wh n op b) hx w
    have e : ckM k (aSz k sz mk wh n op b) (aMk k sz mk wh n op b) = ckM k sz mk := by rw [ckM, ckM, may_behind]
    rw [e] at H
    exact H
  · refine Lib.hid ?_
    by_cases h1 : partN wh = partN wh'
    · have h1' : (((partN wh : Nat) : Int) != ((partN wh' : Nat) : Int)) = false := by simp [h1]
      by_cases h2 : wh = 1
      · by_cases h3 : wh' = 1
        · obtain ⟨e1, e2, e3⟩ := order_any k sz mk st wh n op b wh' n' op' b' (.inr ⟨h2, h3⟩)
          exact .inr (.inl ⟨h1', by simp [h2], by simp [h3], e1, e2, e3⟩)
        · exact .inr (.inr (.inl ⟨h1', by simp [h2], by simp; omega⟩))
      · exact .inr (.inr (.inr ⟨h1', by simp; omega⟩))
    · obtain ⟨e1, e2, e3⟩ := order_any k sz mk st wh n op b wh' n' op' b' (.inl h1)
      exact .inl ⟨by simp; omega, e1, e2, e3⟩
  · refine Lib.hid ?_
    by_cases h : partN wh = 2
    · exact .inr (by simp [h])
    · obtain ⟨e1, e2, e3⟩ := twice k sz mk st wh n op b h
      exact .inl ⟨by simp; omega, e1.symm, e2.symm, e3.symm⟩
  · refine Lib.hid ?_
    obtain ⟨o1, o2, o3⟩ := only_part k sz mk st wh n op b
    have hp : partN wh = 1 ∨ partN wh = 2 ∨ partN wh = 3 := by unfold partN; split <;> (try split) <;> simp
    rcases hp with h | h | h
    · exact .inl ⟨h, o2 (by omega), o3 (by omega)⟩
    · exact .inr (.inl ⟨h, o1 (by omega), o3 (by omega)⟩)
    · exact .inr (.inr ⟨h, o1 (by omega), o2 (by omega)⟩)
end Go.Proofs.Ytoeaclfbmppnmaa
