/- The law MessageRange, by the program. Conditions: none but the statement's own. -/
import Derived.Test.YthledgkjfjdjoaaGreatMsX
namespace Go.Proofs.YthledgkjfjdjoaaGreat.Ms
open Go.ChangeShapes Go.WideShapes Go.RowKit Go.Codec Go.Mt Go.Blk
set_option maxRecDepth 100000
set_option linter.unusedSimpArgs false
set_option linter.unusedVariables false
section
variable {w wx : World} {F : List (Nat × TypeId × Array Value)}
theorem _root_.Go.Proofs.YthledgkjfjdjoaaGreat.Mt.Fr.s3 (h : Mt.Fr w F wx) (i : Nat) {g : Nat} {t : TypeId} {a b c : Value} (hi : F[i]? = some (g, t, #[a, b, c])) :
    wx.cell? ⟨g, 0, none⟩ = some a ∧ wx.cell? ⟨g, 1, none⟩ = some b ∧ wx.cell? ⟨g, 2, none⟩ = some c := h.c3 i hi
theorem _root_.Go.Proofs.YthledgkjfjdjoaaGreat.Mt.Fr.s8 (h : Mt.Fr w F wx) {x0 x1 x3 : Nat} {t0 t1 t3 : TypeId} {a0 a1 a2 a3 b0 b1 b2 d0 d1 d2 d3 : Value} (h0 : F[0]? = some (x0, t0, #[a0, a1, a2, a3])) (h1 : F[1]? = some (x1, t1, #[b0, b1, b2])) (h3 : F[3]? = some (x3, t3, #[d0, d1, d2, d3])) :
    (wx.cell? ⟨x0, 0, none⟩ = some a0 ∧ wx.cell? ⟨x0, 1, none⟩ = some a1 ∧ wx.cell? ⟨x0, 2, none⟩ = some a2 ∧ wx.cell? ⟨x0, 3, none⟩ = some a3) ∧ (wx.cell? ⟨x1, 0, none⟩ = some b0 ∧ wx.cell? ⟨x1, 1, none⟩ = some b1 ∧ wx.cell? ⟨x1, 2, none⟩ = some b2) ∧ (wx.cell? ⟨x3, 0, none⟩ = some d0 ∧ wx.cell? ⟨x3, 1, none⟩ = some d1 ∧ wx.cell? ⟨x3, 2, none⟩ = some d2 ∧ wx.cell? ⟨x3, 3, none⟩ = some d3) :=
  ⟨h.c4 0 h0, h.c3 1 h1, h.c4 3 h3⟩
theorem _root_.Go.Proofs.YthledgkjfjdjoaaGreat.Mt.Fr.s18 (h : Mt.Fr w F wx) {x0 x1 x4 x5 : Nat} {t0 t1 t4 t5 : TypeId} {a0 a1 a2 a3 b0 b1 b2 d0 d1 d2 d3 e0 e1 e2 e3 : Value} (h0 : F[0]? = some (x0, t0, #[a0, a1, a2, a3])) (h1 : F[1]? = some (x1, t1, #[b0, b1, b2])) (h4 : F[4]? = some (x4, t4, #[d0, d1, d2, d3])) (h5 : F[5]? = some (x5, t5, #[e0, e1, e2, e3])) :
    (wx.cell? ⟨x0, 0, none⟩ = some a0 ∧ wx.cell? ⟨x0, 1, none⟩ = some a1 ∧ wx.cell? ⟨x0, 2, none⟩ = some a2 ∧ wx.cell? ⟨x0, 3, none⟩ = some a3) ∧ (wx.cell? ⟨x1, 0, none⟩ = some b0 ∧ wx.cell? ⟨x1, 1, none⟩ = some b1 ∧ wx.cell? ⟨x1, 2, none⟩ = some b2) ∧ (wx.cell? ⟨x4, 0, none⟩ = some d0 ∧ wx.cell? ⟨x4, 1, none⟩ = some d1 ∧ wx.cell? ⟨x4, 2, none⟩ = some d2 ∧ wx.cell? ⟨x4, 3, none⟩ = some d3) ∧ (wx.cell? ⟨x5, 0, none⟩ = some e0 ∧ wx.cell? ⟨x5, 1, none⟩ = some e1 ∧ wx.cell? ⟨x5, 2, none⟩ = some e2 ∧ wx.cell? ⟨x5, 3, none⟩ = some e3) :=
  ⟨h.c4 0 h0, h.c3 1 h1, h.c4 4 h4, h.c4 5 h5⟩
end
theorem fr3 (w : World) (x y z : Array Value) : Mt.Fr w [(w.heap.size, 23, x), (w.heap.size + 1, 44, y), (w.heap.size + 1 + 1, 53, z)] (((w.alloc (.cells x 23)).alloc (.cells y 44)).alloc (.cells z 53)) := by
  have h1 := ((Mt.Fr.nil w).new 23 x).new 44 y
  rw [sz1] at h1
  have h2 : Mt.Fr w [(w.heap.size, 23, x), (w.heap.size + 1, 44, y)] ((w.alloc (.cells x 23)).alloc (.cells y 44)) := h1
  have e2 : ((w.alloc (.cells x 23)).alloc (.cells y 44)).heap.size = w.heap.size + 1 + 1 := by rw [sz1, sz1]
  have h3 := h2.new 53 z
  rw [e2] at h3
  exact h3
set_option maxHeartbeats 4000000 in
theorem range_no (o : Int) (k t v q y a b c : ByteArray) (th : Bool) (A : ∀ w, Calls Tryz.prog 11 #[] w fun e w' => e = .returned (.bool true) ∧ Below w.heap.size w w')
    (x : Bool) (h : x = false ∨ x = true ∧ (1000 < q.size ∨ q.size ≤ 1000 ∧ (1000 < y.size ∨ y.size ≤ 1000 ∧ (108 < a.size ∨ a.size ≤ 108 ∧ (108 < b.size ∨ b.size ≤ 108 ∧ 108 < c.size)))))
    (F : ∀ w, Calls Tryz.prog 10 #[.agg #[.int .i64 o, .string k, .string t, .string v]] w fun e w' => e = .returned (.bool x) ∧ Below w.heap.size w w') (w : World) :
    Calls Tryz.prog 9 #[.agg #[.int .i64 o, .string k, .string t, .string v], .agg #[.string q, .string y, .bool th], .agg #[.string a, .string b, .string c]] w fun e w' => e = .returned (.bool true) ∧ Below w.heap.size w w' := by
  have HX := Lib.hid (fr3 w #[.int .i64 o, .string k, .string t, .string v] #[.string q, .string y, .bool th] #[.string a, .string b, .string c])
  rcases h with rfl | ⟨rfl, h | ⟨h1, h | ⟨h2, h | ⟨h3, h | ⟨h4, h⟩⟩⟩⟩⟩
  all_goals
    go_enter Tryz.func9, Tryz.ntmps9
    go_wp2_with fail
    refine (F _).mono ?_; rintro e w1 ⟨rfl, hb⟩
    replace HX := Lib.hid (HX.out.later hb); clear hb
    obtain ⟨c0, c1, c2⟩ := HX.out.c3 1 rfl
    obtain ⟨d0, d1, d2⟩ := HX.out.c3 2 rfl
    have dlt := (HX.out.at 2 rfl).lt
    go_wp2_with fail
    refine (A _).mono ?_; rintro e w2 ⟨rfl, hb⟩
    replace HX := Lib.hid (HX.out.later hb); clear hb
    go_wp2_with fail
    go_ret
    exact ⟨rfl, HX.out.below⟩
set_option maxHeartbeats 32000000 in
theorem range_skip (o po lo ho : Int) (k t v q y a b c f d pk pt pv lk lt' lv hk ht hv A1 A2 : ByteArray) (th B1 B2 c1 h1 : Bool) (w : World) (hq : q.size ≤ 1000) (hy : y.size ≤ 1000) (ha : a.size ≤ 108) (hb : b.size ≤ 108) (hc : c.size ≤ 108)
    (Mn : ∀ ts ty w, (Builtin.min_ ts ty #[.string a, .string b]).run Tryz.prog w = .ok (.string f) w) (Mx : ∀ ts ty w, (Builtin.max_ ts ty #[.string a, .string b]).run Tryz.prog w = .ok (.string d) w)
    (AW : Hid (∀ w, Calls Tryz.prog 11 #[] w fun e w' => e = .returned (.bool true) ∧ Below w.heap.size w w'))
    (FE : Hid (∀ w, Calls Tryz.prog 10 #[.agg #[.int .i64 o, .string k, .string t, .string v]] w fun e w' => e = .returned (.bool true) ∧ Below w.heap.size w w'))
    (k1 : ¬ c.toList = []) (k2 : c.toList.isEmpty = false) (k3 : Op.bytesLess c.toList d.toList = true) :
    Calls Tryz.prog 9 #[.agg #[.int .i64 o, .string k, .string t, .string v], .agg #[.string q, .string y, .bool th], .agg #[.string a, .string b, .string c]] w fun e w' => e = .returned (.bool true) ∧ Below w.heap.size w w' := by
  have HX := Lib.hid (fr3 w #[.int .i64 o, .string k, .string t, .string v] #[.string q, .string y, .bool th] #[.string a, .string b, .string c])
  go_enter Tryz.func9, Tryz.ntmps9
  go_wp2_with fail
  refine (FE.out _).mono ?_; rintro e w1 ⟨rfl, hb1⟩
  replace HX := Lib.hid (HX.out.later hb1); clear hb1
  obtain ⟨c0, c1', c2⟩ := HX.out.c3 1 rfl
  obtain ⟨d0, d1, d2⟩ := HX.out.c3 2 rfl
  have dlt := (HX.out.at 2 rfl).lt
  go_upto_region 3 with fail
  have hp := HX.out.drew
  clear HX c0 c1' c2
  refine wp_region_held_drew (S := (fun wx => (wx.cell? ⟨w.heap.size + 1 + 1, 0, none⟩ = some (.string a) ∧ wx.cell? ⟨w.heap.size + 1 + 1, 1, none⟩ = some (.string b) ∧ wx.cell? ⟨w.heap.size + 1 + 1, 2, none⟩ = some (.string c)))) (by kernel_rfl) (hp.s3 2 rfl) (fun hHeld => ?_)
  generalize World.drew _ = w3 at *
  refine wpAnyH_take (i := 0) (oi := ⟨some 53, _, _, _, _, _⟩) (v := ?_) rfl (by kernel_rfl) (by kernel_rfl) (by kernel_rfl) (fun _ _ _ h => h) (Or.inl ⟨by rfl, ?_⟩) (by assumption) ?_
  rotate_left 1
  · intro wq hSw; (try dsimp only at hSw); (first | (go_simp; done) | (go_simp; with_reducible rfl))
  try simp only [Act.put, List.setIfInBounds_toArray, List.set_cons_zero, List.set_cons_succ]
  refine wpAnyH_take (i := 1) (oi := ⟨some 54, _, _, _, _, _⟩) (v := ?_) rfl (by kernel_rfl) (by kernel_rfl) (by kernel_rfl) (fun _ _ _ h => h) (Or.inl ⟨by rfl, ?_⟩) (by assumption) ?_
  rotate_left 1
  · intro wq hSw; (try dsimp only at hSw); (first | (go_simp; done) | (go_simp; with_reducible rfl))
  try simp only [Act.put, List.setIfInBounds_toArray, List.set_cons_zero, List.set_cons_succ]
  refine wpAnyH_take (i := 2) (oi := ⟨some 55, _, _, _, _, _⟩) (v := ?_) rfl (by kernel_rfl) (by kernel_rfl) (by kernel_rfl) (fun _ _ _ h => h) (Or.inl ⟨by rfl, ?_⟩) (by assumption) ?_
  rotate_left 1
  · intro wq hSw; (try dsimp only at hSw); (first | (go_simp; done) | (go_simp; with_reducible rfl))
  try simp only [Act.put, List.setIfInBounds_toArray, List.set_cons_zero, List.set_cons_succ]
  refine wpAnyH_take (i := 3) (oi := ⟨some 56, _, _, _, _, _⟩) (v := ?_) rfl (by kernel_rfl) (by kernel_rfl) (by kernel_rfl) (fun _ _ _ h => h) (Or.inl ⟨by rfl, ?_⟩) (by assumption) ?_
  rotate_left 1
  · intro wq hSw; (try dsimp only at hSw); (first | (go_simp; done) | (go_simp; with_reducible rfl))
  try simp only [Act.put, List.setIfInBounds_toArray, List.set_cons_zero, List.set_cons_succ]
  refine wpAnyH_take (i := 4) (oi := ⟨some 57, _, _, _, _, _⟩) (v := ?_) rfl (by kernel_rfl) (by kernel_rfl) (by kernel_rfl) (fun _ _ _ h => h) (Or.inl ⟨by rfl, ?_⟩) (by assumption) ?_
  rotate_left 1
  · intro wq hSw; (try dsimp only at hSw); (first | (go_simp; done) | (go_simp; with_reducible rfl))
  try simp only [Act.put, List.setIfInBounds_toArray, List.set_cons_zero, List.set_cons_succ]
  refine wpAnyH_take (i := 5) (oi := ⟨some 58, _, _, _, _, _⟩) (v := ?_) rfl (by kernel_rfl) (by kernel_rfl) (by kernel_rfl) (fun _ _ _ h => h) (Or.inl ⟨by rfl, ?_⟩) (by assumption) ?_
  rotate_left 1
  · intro wq hSw; (try dsimp only at hSw); (first | (go_simp; done) | (go_simp; with_reducible rfl))
  try simp only [Act.put, List.setIfInBounds_toArray, List.set_cons_zero, List.set_cons_succ]
  refine wpAnyH_take (i := 6) (oi := ⟨some 59, _, _, _, _, _⟩) (v := ?_) rfl (by kernel_rfl) (by kernel_rfl) (by kernel_rfl) (fun _ _ _ h => h) (Or.inl ⟨by rfl, ?_⟩) (by assumption) ?_
  rotate_left 1
  · intro wq hSw; (try dsimp only at hSw); (first | (go_simp; done) | (go_simp; with_reducible rfl))
  try simp only [Act.put, List.setIfInBounds_toArray, List.set_cons_zero, List.set_cons_succ]
  refine wpAnyH_take (i := 7) (oi := ⟨some 60, _, _, _, _, _⟩) (v := ?_) rfl (by kernel_rfl) (by kernel_rfl) (by kernel_rfl) (fun _ _ _ h => h) (Or.inl ⟨by rfl, ?_⟩) (by assumption) ?_
  rotate_left 1
  · intro wq hSw; (try dsimp only at hSw); (first | (go_simp; done) | (go_simp; with_reducible rfl))
  try simp only [Act.put, List.setIfInBounds_toArray, List.set_cons_zero, List.set_cons_succ]
  refine wpAnyH_take (i := 8) (oi := ⟨some 61, _, _, _, _, _⟩) (v := ?_) rfl (by kernel_rfl) (by kernel_rfl) (by kernel_rfl) (fun _ _ _ h => h) (Or.inl ⟨by rfl, ?_⟩) (by assumption) ?_
  rotate_left 1
  · intro wq hSw; (try dsimp only at hSw); (first | (go_simp; done) | (go_simp; with_reducible rfl))
  try simp only [Act.put, List.setIfInBounds_toArray, List.set_cons_zero, List.set_cons_succ]
  refine wpAnyH_take (i := 9) (oi := ⟨some 62, _, _, _, _, _⟩) (v := ?_) rfl (by kernel_rfl) (by kernel_rfl) (by kernel_rfl) (fun _ _ _ h => h) (Or.inl ⟨by rfl, ?_⟩) (by assumption) ?_
  rotate_left 1
  · intro wq hSw; (try dsimp only at hSw); (first | (go_simp; done) | (go_simp; with_reducible rfl))
  try simp only [Act.put, List.setIfInBounds_toArray, List.set_cons_zero, List.set_cons_succ]
  refine wpAnyH_take (i := 10) (oi := ⟨some 63, _, _, _, _, _⟩) (v := ?_) rfl (by kernel_rfl) (by kernel_rfl) (by kernel_rfl) (fun _ _ _ h => h) (Or.inl ⟨by rfl, ?_⟩) (by assumption) ?_
  rotate_left 1
  · intro wq hSw; (try dsimp only at hSw); (first | (go_simp; done) | (go_simp; with_reducible rfl))
  try simp only [Act.put, List.setIfInBounds_toArray, List.set_cons_zero, List.set_cons_succ]
  refine wpAnyH_take (i := 11) (oi := ⟨some 64, _, _, _, _, _⟩) (v := ?_) rfl (by kernel_rfl) (by kernel_rfl) (by kernel_rfl) (fun _ _ _ h => h) (Or.inl ⟨by rfl, ?_⟩) (by assumption) ?_
  rotate_left 1
  · intro wq hSw; (try dsimp only at hSw); (first | (go_simp; done) | (go_simp; with_reducible rfl))
  try simp only [Act.put, List.setIfInBounds_toArray, List.set_cons_zero, List.set_cons_succ]
  refine wpAnyH_take (i := 12) (oi := ⟨some 7, _, _, _, _, _⟩) (v := ?_) rfl (by kernel_rfl) (by kernel_rfl) (by kernel_rfl) (fun _ _ _ h => h) (Or.inl ⟨by rfl, ?_⟩) (by assumption) ?_
  rotate_left 1
  · intro wq hSw; (try dsimp only at hSw); (first | (go_simp; done) | (go_simp; with_reducible rfl))
  try simp only [Act.put, List.setIfInBounds_toArray, List.set_cons_zero, List.set_cons_succ]
  refine wpAnyH_take (i := 13) (oi := ⟨some 8, _, _, _, _, _⟩) (v := ?_) rfl (by kernel_rfl) (by kernel_rfl) (by kernel_rfl) (fun _ _ _ h => h) (Or.inl ⟨by rfl, ?_⟩) (by assumption) ?_
  rotate_left 1
  · intro wq hSw; (try dsimp only at hSw); (first | (go_simp; done) | (go_simp; with_reducible rfl))
  try simp only [Act.put, List.setIfInBounds_toArray, List.set_cons_zero, List.set_cons_succ]
  refine wpAnyH_take (i := 14) (oi := ⟨some 9, _, _, _, _, _⟩) (v := ?_) rfl (by kernel_rfl) (by kernel_rfl) (by kernel_rfl) (fun _ _ _ h => h) (Or.inl ⟨by rfl, ?_⟩) (by assumption) ?_
  rotate_left 1
  · intro wq hSw; (try dsimp only at hSw); (first | (go_simp; done) | (go_simp; with_reducible rfl))
  try simp only [Act.put, List.setIfInBounds_toArray, List.set_cons_zero, List.set_cons_succ]
  refine wpAnyH_done (by kernel_rfl) ?_ _
  clear d0 d1 d2 dlt Mn Mx hHeld
  have HX := Lib.hid hp; clear hp
  obtain ⟨c0, c1', c2, c3⟩ := HX.out.c4 0 rfl
  obtain ⟨d0, d1, d2⟩ := HX.out.c3 1 rfl
  go_wp2_with fail
  refine (AW.out _).mono ?_; rintro e w9 ⟨rfl, hb9⟩
  replace HX := Lib.hid (HX.out.later hb9); clear hb9
  go_wp2_with fail
  go_ret
  exact ⟨rfl, HX.out.below⟩
end Go.Proofs.YthledgkjfjdjoaaGreat.Ms
