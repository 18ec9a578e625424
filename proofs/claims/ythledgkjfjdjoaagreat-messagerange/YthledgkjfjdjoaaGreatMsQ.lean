/- The law MessageRange, by the program: some of its ways. Conditions: as stated. -/
import Derived.Test.YthledgkjfjdjoaaGreatMsO
namespace Go.Proofs.YthledgkjfjdjoaaGreat.Ms
open Go.ChangeShapes Go.WideShapes Go.RowKit Go.Codec Go.Mt Go.Blk
set_option maxRecDepth 100000
set_option linter.unusedSimpArgs false
set_option linter.unusedVariables false
set_option maxHeartbeats 32000000 in
theorem range_in000 (o po lo ho : Int) (k t v q y a b c f d pk pt pv lk lt' lv hk ht hv A1 A2 : ByteArray) (th B1 B2 c1 h1 : Bool) (w : World) (hq : q.size ≤ 1000) (hy : y.size ≤ 1000) (ha : a.size ≤ 108) (hb : b.size ≤ 108) (hc : c.size ≤ 108)
    (Mn : ∀ ts ty w, (Builtin.min_ ts ty #[.string a, .string b]).run Tryz.prog w = .ok (.string f) w) (Mx : ∀ ts ty w, (Builtin.max_ ts ty #[.string a, .string b]).run Tryz.prog w = .ok (.string d) w)
    (AW : Hid (∀ w, Calls Tryz.prog 11 #[] w fun e w' => e = .returned (.bool true) ∧ Below w.heap.size w w'))
    (FE : Hid (∀ w, Calls Tryz.prog 10 #[.agg #[.int .i64 o, .string k, .string t, .string v]] w fun e w' => e = .returned (.bool true) ∧ Below w.heap.size w w'))
    (k1 : c.toList = []) (k2 : c.toList.isEmpty = true)
    (k4 : Op.bytesLess q.toList f.toList = false)
    (k6 : d.toList = []) (k7 : d.toList.isEmpty = true)
    (bp : Bool) (PP : Hid (∀ w, Calls Tryz.prog 18 #[.agg #[.int .i64 o, .string k, .string t, .string v], .string f, .string c] w fun e w' => e = .returned (.tuple #[.agg #[.int .i64 po, .string pk, .string pt, .string pv], .bool bp]) ∧ Below w.heap.size w w'))
    (bh : Bool) (PH : Hid (∀ w, Calls Tryz.prog 18 #[.agg #[.int .i64 o, .string k, .string t, .string v], .string d, .string c] w fun e w' => e = .returned (.tuple #[.agg #[.int .i64 ho, .string hk, .string ht, .string hv], .bool bh]) ∧ Below w.heap.size w w'))
    (TM : Hid (∀ w, Calls Tryz.prog 20 #[.agg #[.int .i64 o, .string k, .string t, .string v], .string q] w fun e w' => e = .returned (.bool c1) ∧ Below w.heap.size w w'))
    (TP : Hid (∀ w, Calls Tryz.prog 20 #[.agg #[.int .i64 po, .string pk, .string pt, .string pv], .string q] w fun e w' => e = .returned (.bool c1) ∧ Below w.heap.size w w'))
    (TL : Hid (∀ w, Calls Tryz.prog 20 #[.agg #[.int .i64 0, .string ⟨#[]⟩, .string ⟨#[]⟩, .string ⟨#[]⟩], .string q] w fun e w' => e = .returned (.bool false) ∧ Below w.heap.size w w'))
    (TH : Hid (∀ w, Calls Tryz.prog 20 #[.agg #[.int .i64 ho, .string hk, .string ht, .string hv], .string q] w fun e w' => e = .returned (.bool c1) ∧ Below w.heap.size w w'))
    (AM : Hid (∀ w, Calls Tryz.prog 22 #[.agg #[.int .i64 o, .string k, .string t, .string v], .string q, .string y, .bool th] w fun e w' => e = .returned (.tuple #[.string A1, .bool B1]) ∧ Below w.heap.size w w'))
    (AP : Hid (∀ w, Calls Tryz.prog 22 #[.agg #[.int .i64 po, .string pk, .string pt, .string pv], .string q, .string y, .bool th] w fun e w' => e = .returned (.tuple #[.string A1, .bool B1]) ∧ Below w.heap.size w w'))
    (DF : Hid (c1 = false ∧ B1 = th ∨ c1 = true ∧ (o = 1 ∧ B1 = true ∧ A1 = v ∨ o = 2 ∧ B1 = false ∧ A1 = ⟨#[]⟩ ∨ o = 3 ∧ B1 = false ∧ A1 = ⟨#[]⟩ ∨ o = 4))) :
    Calls Tryz.prog 9 #[.agg #[.int .i64 o, .string k, .string t, .string v], .agg #[.string q, .string y, .bool th], .agg #[.string a, .string b, .string c]] w fun e w' => e = .returned (.bool true) ∧ Below w.heap.size w w' := by
  have HX := Lib.hid (fr3 w #[.int .i64 o, .string k, .string t, .string v] #[.string q, .string y, .bool th] #[.string a, .string b, .string c])
  go_enter Tryz.func9, Tryz.ntmps9
  go_wp2_with fail
  refine (FE.out _).mono ?_; rintro e w1 ⟨rfl, hb1⟩
  replace HX := Lib.hid (HX.out.later hb1); clear hb1
  obtain ⟨c0, c1', c2⟩ := HX.out.c3 1 rfl
  obtain ⟨d0, d1, d2⟩ := HX.out.c3 2 rfl
  have dlt := (HX.out.at 2 rfl).lt
  go_upto_region 3 with fail
  have hp := HX.out.drew
  clear HX c0 c1' c2
  refine wp_region_held_drew (S := (fun wx => (wx.cell? ⟨w.heap.size + 1 + 1, 0, none⟩ = some (.string a) ∧ wx.cell? ⟨w.heap.size + 1 + 1, 1, none⟩ = some (.string b) ∧ wx.cell? ⟨w.heap.size + 1 + 1, 2, none⟩ = some (.string c)))) (by kernel_rfl) (hp.s3 2 rfl) (fun hHeld => ?_)
  generalize World.drew _ = w3 at *
  refine wpAnyH_take (i := 0) (oi := ⟨some 53, _, _, _, _, _⟩) (v := ?_) rfl (by kernel_rfl) (by kernel_rfl) (by kernel_rfl) (fun _ _ _ h => h) (Or.inl ⟨by rfl, ?_⟩) (by assumption) ?_
  rotate_left 1
  · intro wq hSw; (try dsimp only at hSw); (first | (go_simp; done) | (go_simp; with_reducible rfl))
  try simp only [Act.put, List.setIfInBounds_toArray, List.set_cons_zero, List.set_cons_succ]
  refine wpAnyH_take (i := 1) (oi := ⟨some 54, _, _, _, _, _⟩) (v := ?_) rfl (by kernel_rfl) (by kernel_rfl) (by kernel_rfl) (fun _ _ _ h => h) (Or.inl ⟨by rfl, ?_⟩) (by assumption) ?_
  rotate_left 1
  · intro wq hSw; (try dsimp only at hSw); (first | (go_simp; done) | (go_simp; with_reducible rfl))
  try simp only [Act.put, List.setIfInBounds_toArray, List.set_cons_zero, List.set_cons_succ]
  refine wpAnyH_take (i := 2) (oi := ⟨some 55, _, _, _, _, _⟩) (v := ?_) rfl (by kernel_rfl) (by kernel_rfl) (by kernel_rfl) (fun _ _ _ h => h) (Or.inl ⟨by rfl, ?_⟩) (by assumption) ?_
  rotate_left 1
  · intro wq hSw; (try dsimp only at hSw); (first | (go_simp; done) | (go_simp; with_reducible rfl))
  try simp only [Act.put, List.setIfInBounds_toArray, List.set_cons_zero, List.set_cons_succ]
  refine wpAnyH_take (i := 3) (oi := ⟨some 56, _, _, _, _, _⟩) (v := ?_) rfl (by kernel_rfl) (by kernel_rfl) (by kernel_rfl) (fun _ _ _ h => h) (Or.inl ⟨by rfl, ?_⟩) (by assumption) ?_
  rotate_left 1
  · intro wq hSw; (try dsimp only at hSw); (first | (go_simp; done) | (go_simp; with_reducible rfl))
  try simp only [Act.put, List.setIfInBounds_toArray, List.set_cons_zero, List.set_cons_succ]
  refine wpAnyH_take (i := 4) (oi := ⟨some 57, _, _, _, _, _⟩) (v := ?_) rfl (by kernel_rfl) (by kernel_rfl) (by kernel_rfl) (fun _ _ _ h => h) (Or.inl ⟨by rfl, ?_⟩) (by assumption) ?_
  rotate_left 1
  · intro wq hSw; (try dsimp only at hSw); (first | (go_simp; done) | (go_simp; with_reducible rfl))
  try simp only [Act.put, List.setIfInBounds_toArray, List.set_cons_zero, List.set_cons_succ]
  refine wpAnyH_take (i := 5) (oi := ⟨some 58, _, _, _, _, _⟩) (v := ?_) rfl (by kernel_rfl) (by kernel_rfl) (by kernel_rfl) (fun _ _ _ h => h) (Or.inl ⟨by rfl, ?_⟩) (by assumption) ?_
  rotate_left 1
  · intro wq hSw; (try dsimp only at hSw); (first | (go_simp; done) | (go_simp; with_reducible rfl))
  try simp only [Act.put, List.setIfInBounds_toArray, List.set_cons_zero, List.set_cons_succ]
  refine wpAnyH_take (i := 6) (oi := ⟨some 59, _, _, _, _, _⟩) (v := ?_) rfl (by kernel_rfl) (by kernel_rfl) (by kernel_rfl) (fun _ _ _ h => h) (Or.inl ⟨by rfl, ?_⟩) (by assumption) ?_
  rotate_left 1
  · intro wq hSw; (try dsimp only at hSw); (first | (go_simp; done) | (go_simp; with_reducible rfl))
  try simp only [Act.put, List.setIfInBounds_toArray, List.set_cons_zero, List.set_cons_succ]
  refine wpAnyH_take (i := 7) (oi := ⟨some 60, _, _, _, _, _⟩) (v := ?_) rfl (by kernel_rfl) (by kernel_rfl) (by kernel_rfl) (fun _ _ _ h => h) (Or.inl ⟨by rfl, ?_⟩) (by assumption) ?_
  rotate_left 1
  · intro wq hSw; (try dsimp only at hSw); (first | (go_simp; done) | (go_simp; with_reducible rfl))
  try simp only [Act.put, List.setIfInBounds_toArray, List.set_cons_zero, List.set_cons_succ]
  refine wpAnyH_take (i := 8) (oi := ⟨some 61, _, _, _, _, _⟩) (v := ?_) rfl (by kernel_rfl) (by kernel_rfl) (by kernel_rfl) (fun _ _ _ h => h) (Or.inl ⟨by rfl, ?_⟩) (by assumption) ?_
  rotate_left 1
  · intro wq hSw; (try dsimp only at hSw); (first | (go_simp; done) | (go_simp; with_reducible rfl))
  try simp only [Act.put, List.setIfInBounds_toArray, List.set_cons_zero, List.set_cons_succ]
  refine wpAnyH_take (i := 9) (oi := ⟨some 62, _, _, _, _, _⟩) (v := ?_) rfl (by kernel_rfl) (by kernel_rfl) (by kernel_rfl) (fun _ _ _ h => h) (Or.inl ⟨by rfl, ?_⟩) (by assumption) ?_
  rotate_left 1
  · intro wq hSw; (try dsimp only at hSw); (first | (go_simp; done) | (go_simp; with_reducible rfl))
  try simp only [Act.put, List.setIfInBounds_toArray, List.set_cons_zero, List.set_cons_succ]
  refine wpAnyH_take (i := 10) (oi := ⟨some 63, _, _, _, _, _⟩) (v := ?_) rfl (by kernel_rfl) (by kernel_rfl) (by kernel_rfl) (fun _ _ _ h => h) (Or.inl ⟨by rfl, ?_⟩) (by assumption) ?_
  rotate_left 1
  · intro wq hSw; (try dsimp only at hSw); (first | (go_simp; done) | (go_simp; with_reducible rfl))
  try simp only [Act.put, List.setIfInBounds_toArray, List.set_cons_zero, List.set_cons_succ]
  refine wpAnyH_take (i := 11) (oi := ⟨some 64, _, _, _, _, _⟩) (v := ?_) rfl (by kernel_rfl) (by kernel_rfl) (by kernel_rfl) (fun _ _ _ h => h) (Or.inl ⟨by rfl, ?_⟩) (by assumption) ?_
  rotate_left 1
  · intro wq hSw; (try dsimp only at hSw); (first | (go_simp; done) | (go_simp; with_reducible rfl))
  try simp only [Act.put, List.setIfInBounds_toArray, List.set_cons_zero, List.set_cons_succ]
  refine wpAnyH_take (i := 12) (oi := ⟨some 7, _, _, _, _, _⟩) (v := ?_) rfl (by kernel_rfl) (by kernel_rfl) (by kernel_rfl) (fun _ _ _ h => h) (Or.inl ⟨by rfl, ?_⟩) (by assumption) ?_
  rotate_left 1
  · intro wq hSw; (try dsimp only at hSw); (first | (go_simp; done) | (go_simp; with_reducible rfl))
  try simp only [Act.put, List.setIfInBounds_toArray, List.set_cons_zero, List.set_cons_succ]
  refine wpAnyH_take (i := 13) (oi := ⟨some 8, _, _, _, _, _⟩) (v := ?_) rfl (by kernel_rfl) (by kernel_rfl) (by kernel_rfl) (fun _ _ _ h => h) (Or.inl ⟨by rfl, ?_⟩) (by assumption) ?_
  rotate_left 1
  · intro wq hSw; (try dsimp only at hSw); (first | (go_simp; done) | (go_simp; with_reducible rfl))
  try simp only [Act.put, List.setIfInBounds_toArray, List.set_cons_zero, List.set_cons_succ]
  refine wpAnyH_take (i := 14) (oi := ⟨some 9, _, _, _, _, _⟩) (v := ?_) rfl (by kernel_rfl) (by kernel_rfl) (by kernel_rfl) (fun _ _ _ h => h) (Or.inl ⟨by rfl, ?_⟩) (by assumption) ?_
  rotate_left 1
  · intro wq hSw; (try dsimp only at hSw); (first | (go_simp; done) | (go_simp; with_reducible rfl))
  try simp only [Act.put, List.setIfInBounds_toArray, List.set_cons_zero, List.set_cons_succ]
  refine wpAnyH_done (by kernel_rfl) ?_ _
  clear d0 d1 d2 dlt Mn Mx hHeld
  have HX := Lib.hid hp; clear hp
  obtain ⟨c0, c1', c2, c3⟩ := HX.out.c4 0 rfl
  obtain ⟨d0, d1, d2⟩ := HX.out.c3 1 rfl
  go_wp2_with fail
  refine (PP.out _).mono ?_; rintro e w4 ⟨rfl, hb4⟩
  replace HX := Lib.hid ((HX.out.later hb4).new 23 #[.int .i64 po, .string pk, .string pt, .string pv]); clear hb4 c0 c1' c2 c3 d0 d1 d2
  go_upto_region 8 with fail
  have hp : Mt.Fr w [(w.heap.size, 23, #[.int .i64 o, .string k, .string t, .string v]), (w.heap.size + 1, 44, #[.string q, .string y, .bool th]), (w.heap.size + 1 + 1, 53, #[.string a, .string b, .string c]), (w4.heap.size, 23, #[.int .i64 po, .string pk, .string pt, .string pv])] _ := HX.out
  clear HX PP
  generalize w4.heap.size = gp at *
  generalize w4.alloc _ = w5 at *
  clear w4
  replace hp := hp.drew
  have TM8 := Lib.hid fun (wx : World) (h : Mt.Fr w [(w.heap.size, 23, #[.int .i64 o, .string k, .string t, .string v]), (w.heap.size + 1, 44, #[.string q, .string y, .bool th]), (w.heap.size + 1 + 1, 53, #[.string a, .string b, .string c]), (gp, 23, #[.int .i64 po, .string pk, .string pt, .string pv])] wx) => Mt.Fr.carry h (TM.out wx)
  have TP8 := Lib.hid fun (wx : World) (h : Mt.Fr w [(w.heap.size, 23, #[.int .i64 o, .string k, .string t, .string v]), (w.heap.size + 1, 44, #[.string q, .string y, .bool th]), (w.heap.size + 1 + 1, 53, #[.string a, .string b, .string c]), (gp, 23, #[.int .i64 po, .string pk, .string pt, .string pv])] wx) => Mt.Fr.carry h (TP.out wx)
  refine wp_region_held_drew (S := (fun wx => (wx.cell? ⟨w.heap.size, 0, none⟩ = some (.int .i64 o) ∧ wx.cell? ⟨w.heap.size, 1, none⟩ = some (.string k) ∧ wx.cell? ⟨w.heap.size, 2, none⟩ = some (.string t) ∧ wx.cell? ⟨w.heap.size, 3, none⟩ = some (.string v)) ∧ (wx.cell? ⟨w.heap.size + 1, 0, none⟩ = some (.string q) ∧ wx.cell? ⟨w.heap.size + 1, 1, none⟩ = some (.string y) ∧ wx.cell? ⟨w.heap.size + 1, 2, none⟩ = some (.bool th)) ∧ (wx.cell? ⟨gp, 0, none⟩ = some (.int .i64 po) ∧ wx.cell? ⟨gp, 1, none⟩ = some (.string pk) ∧ wx.cell? ⟨gp, 2, none⟩ = some (.string pt) ∧ wx.cell? ⟨gp, 3, none⟩ = some (.string pv)))) (by kernel_rfl) (hp.s8 rfl rfl rfl) (fun hHeld => ?_)
  generalize World.drew _ = w6 at *
  have ee : (c1 == c1) = true := by simp
  refine wpAnyH_take (i := 0) (oi := ⟨some 94, _, _, _, _, _⟩) (v := ?_) rfl (by kernel_rfl) (by kernel_rfl) (by kernel_rfl) (fun _ _ _ h => h) (Or.inl ⟨by rfl, ?_⟩) (by assumption) ?_
  rotate_left 1
  · intro wq hSw; (try dsimp only at hSw); (first | (go_simp; done) | (go_simp; with_reducible rfl))
  try simp only [Act.put, List.setIfInBounds_toArray, List.set_cons_zero, List.set_cons_succ]
  refine wpAnyH_take (i := 1) (oi := ⟨some 95, _, _, _, _, _⟩) (v := ?_) rfl (by kernel_rfl) (by kernel_rfl) (by kernel_rfl) (fun _ _ _ h => h) (Or.inl ⟨by rfl, ?_⟩) (by assumption) ?_
  rotate_left 1
  · intro wq hSw; (try dsimp only at hSw); (first | (go_simp; done) | (go_simp; with_reducible rfl))
  try simp only [Act.put, List.setIfInBounds_toArray, List.set_cons_zero, List.set_cons_succ]
  refine wpAnyH_take (i := 2) (oi := ⟨some 96, _, _, _, _, _⟩) (v := ?_) rfl (by kernel_rfl) (by kernel_rfl) (by kernel_rfl) (fun _ _ _ h => h) (Or.inl ⟨by rfl, ?_⟩) (by assumption) ?_
  rotate_left 1
  · intro wq hSw; (try dsimp only at hSw); (first | (go_simp; done) | (go_simp; with_reducible rfl))
  try simp only [Act.put, List.setIfInBounds_toArray, List.set_cons_zero, List.set_cons_succ]
  refine wpAnyH_take (i := 3) (oi := ⟨some 97, _, _, _, _, _⟩) (v := ?_) rfl (by kernel_rfl) (by kernel_rfl) (by kernel_rfl) (fun _ _ _ h => h) (Or.inl ⟨by rfl, ?_⟩) (by assumption) ?_
  rotate_left 1
  · intro wq hSw; (try dsimp only at hSw); (first | (go_simp; done) | (go_simp; with_reducible rfl))
  try simp only [Act.put, List.setIfInBounds_toArray, List.set_cons_zero, List.set_cons_succ]
  refine wpAnyH_take (i := 4) (oi := ⟨some 98, _, _, _, _, _⟩) (v := ?_) rfl (by kernel_rfl) (by kernel_rfl) (by kernel_rfl) (fun _ _ _ h => h) (Or.inl ⟨by rfl, ?_⟩) (by assumption) ?_
  rotate_left 1
  · intro wq hSw; (try dsimp only at hSw); (first | (go_simp; done) | (go_simp; with_reducible rfl))
  try simp only [Act.put, List.setIfInBounds_toArray, List.set_cons_zero, List.set_cons_succ]
  refine wpAnyH_take (i := 5) (oi := ⟨some 99, _, _, _, _, _⟩) (v := ?_) rfl (by kernel_rfl) (by kernel_rfl) (by kernel_rfl) (fun _ _ _ h => h) (Or.inl ⟨by rfl, ?_⟩) (by assumption) ?_
  rotate_left 1
  · intro wq hSw; (try dsimp only at hSw); (first | (go_simp; done) | (go_simp; with_reducible rfl))
  try simp only [Act.put, List.setIfInBounds_toArray, List.set_cons_zero, List.set_cons_succ]
  refine wpAnyH_take (i := 7) (oi := ⟨some 101, _, _, _, _, _⟩) (v := ?_) rfl (by kernel_rfl) (by kernel_rfl) (by kernel_rfl) (fun _ _ _ h => h) (Or.inl ⟨by rfl, ?_⟩) (by assumption) ?_
  rotate_left 1
  · intro wq hSw; (try dsimp only at hSw); (first | (go_simp; done) | (go_simp; with_reducible rfl))
  try simp only [Act.put, List.setIfInBounds_toArray, List.set_cons_zero, List.set_cons_succ]
  refine wpAnyH_take (i := 8) (oi := ⟨some 102, _, _, _, _, _⟩) (v := ?_) rfl (by kernel_rfl) (by kernel_rfl) (by kernel_rfl) (fun _ _ _ h => h) (Or.inl ⟨by rfl, ?_⟩) (by assumption) ?_
  rotate_left 1
  · intro wq hSw; (try dsimp only at hSw); (first | (go_simp; done) | (go_simp; with_reducible rfl))
  try simp only [Act.put, List.setIfInBounds_toArray, List.set_cons_zero, List.set_cons_succ]
  refine wpAnyH_take (i := 9) (oi := ⟨some 103, _, _, _, _, _⟩) (v := ?_) rfl (by kernel_rfl) (by kernel_rfl) (by kernel_rfl) (fun _ _ _ h => h) (Or.inl ⟨by rfl, ?_⟩) (by assumption) ?_
  rotate_left 1
  · intro wq hSw; (try dsimp only at hSw); (first | (go_simp; done) | (go_simp; with_reducible rfl))
  try simp only [Act.put, List.setIfInBounds_toArray, List.set_cons_zero, List.set_cons_succ]
  refine wpAnyH_ready (rs := [6]) (by kernel_rfl) (by simp) ?_
  refine AllReadyH.cons (o := ⟨some 100, _, _, _, _, _⟩) rfl (fun K hK => ?_) AllReadyH.nil
  go_simp
  with_reducible refine (TM8.out _ (by assumption)).mono ?_
  rintro e w1 ⟨rfl, hp⟩
  refine hK.out _ _ ((fun h => Mt.Fr.s8 h rfl rfl rfl) hp) (fun hHeld => ?_)
  clear hK K
  try simp only [Act.put, List.setIfInBounds_toArray, List.set_cons_zero, List.set_cons_succ]
  refine wpAnyH_ready (rs := [10]) (by kernel_rfl) (by simp) ?_
  refine AllReadyH.cons (o := ⟨some 104, _, _, _, _, _⟩) rfl (fun K hK => ?_) AllReadyH.nil
  go_simp
  with_reducible refine (TP8.out _ (by assumption)).mono ?_
  rintro e w1 ⟨rfl, hp⟩
  refine hK.out _ _ ((fun h => Mt.Fr.s8 h rfl rfl rfl) hp) (fun hHeld => ?_)
  clear hK K
  try simp only [Act.put, List.setIfInBounds_toArray, List.set_cons_zero, List.set_cons_succ]
  refine wpAnyH_take (i := 11) (oi := ⟨some 105, _, _, _, _, _⟩) (v := ?_) rfl (by kernel_rfl) (by kernel_rfl) (by kernel_rfl) (fun _ _ _ h => h) (Or.inl ⟨by rfl, ?_⟩) (by assumption) ?_
  rotate_left 1
  · intro wq hSw; (try dsimp only at hSw); (first | (go_simp; done) | (go_simp; with_reducible rfl))
  try simp only [Act.put, List.setIfInBounds_toArray, List.set_cons_zero, List.set_cons_succ]
  refine wpAnyH_take (i := 12) (oi := ⟨some 106, _, _, _, _, _⟩) (v := ?_) rfl (by kernel_rfl) (by kernel_rfl) (by kernel_rfl) (fun _ _ _ h => h) (Or.inl ⟨by rfl, ?_⟩) (by assumption) ?_
  rotate_left 1
  · intro wq hSw; (try dsimp only at hSw); (first | (go_simp; done) | (go_simp; with_reducible rfl))
  try simp only [Act.put, List.setIfInBounds_toArray, List.set_cons_zero, List.set_cons_succ]
  refine wpAnyH_take (i := 13) (oi := ⟨some 107, _, _, _, _, _⟩) (v := ?_) rfl (by kernel_rfl) (by kernel_rfl) (by kernel_rfl) (fun _ _ _ h => h) (Or.inl ⟨by rfl, ?_⟩) (by assumption) ?_
  rotate_left 1
  · intro wq hSw; (try dsimp only at hSw); (first | (go_simp; done) | (go_simp; with_reducible rfl))
  try simp only [Act.put, List.setIfInBounds_toArray, List.set_cons_zero, List.set_cons_succ]
  refine wpAnyH_take (i := 14) (oi := ⟨some 108, _, _, _, _, _⟩) (v := ?_) rfl (by kernel_rfl) (by kernel_rfl) (by kernel_rfl) (fun _ _ _ h => h) (Or.inl ⟨by rfl, ?_⟩) (by assumption) ?_
  rotate_left 1
  · intro wq hSw; (try dsimp only at hSw); (first | (go_simp; done) | (go_simp; with_reducible rfl))
  try simp only [Act.put, List.setIfInBounds_toArray, List.set_cons_zero, List.set_cons_succ]
  refine wpAnyH_take (i := 15) (oi := ⟨some 109, _, _, _, _, _⟩) (v := ?_) rfl (by kernel_rfl) (by kernel_rfl) (by kernel_rfl) (fun _ _ _ h => h) (Or.inl ⟨by rfl, ?_⟩) (by assumption) ?_
  rotate_left 1
  · intro wq hSw; (try dsimp only at hSw); (first | (go_simp; done) | (go_simp; with_reducible rfl))
  try simp only [Act.put, List.setIfInBounds_toArray, List.set_cons_zero, List.set_cons_succ]
  refine wpAnyH_take (i := 16) (oi := ⟨some 110, _, _, _, _, _⟩) (v := ?_) rfl (by kernel_rfl) (by kernel_rfl) (by kernel_rfl) (fun _ _ _ h => h) (Or.inl ⟨by rfl, ?_⟩) (by assumption) ?_
  rotate_left 1
  · intro wq hSw; (try dsimp only at hSw); (first | (go_simp; done) | (go_simp; with_reducible rfl))
  try simp only [Act.put, List.setIfInBounds_toArray, List.set_cons_zero, List.set_cons_succ]
  refine wpAnyH_take (i := 17) (oi := ⟨some 111, _, _, _, _, _⟩) (v := ?_) rfl (by kernel_rfl) (by kernel_rfl) (by kernel_rfl) (fun _ _ _ h => h) (Or.inl ⟨by rfl, ?_⟩) (by assumption) ?_
  rotate_left 1
  · intro wq hSw; (try dsimp only at hSw); (first | (go_simp; done) | (go_simp; with_reducible rfl))
  try simp only [Act.put, List.setIfInBounds_toArray, List.set_cons_zero, List.set_cons_succ]
  refine wpAnyH_take (i := 18) (oi := ⟨some 112, _, _, _, _, _⟩) (v := undef) rfl (by kernel_rfl) (by kernel_rfl) (by kernel_rfl) (fun _ _ _ h => h) (Or.inr ⟨by rfl, rfl⟩) (by assumption) ?_
  try simp only [Act.put, List.setIfInBounds_toArray, List.set_cons_zero, List.set_cons_succ]
  refine wpAnyH_take (i := 19) (oi := ⟨some 113, _, _, _, _, _⟩) (v := undef) rfl (by kernel_rfl) (by kernel_rfl) (by kernel_rfl) (fun _ _ _ h => h) (Or.inr ⟨by rfl, rfl⟩) (by assumption) ?_
  try simp only [Act.put, List.setIfInBounds_toArray, List.set_cons_zero, List.set_cons_succ]
  refine wpAnyH_take (i := 20) (oi := ⟨some 114, _, _, _, _, _⟩) (v := undef) rfl (by kernel_rfl) (by kernel_rfl) (by kernel_rfl) (fun _ _ _ h => h) (Or.inr ⟨by rfl, rfl⟩) (by assumption) ?_
  try simp only [Act.put, List.setIfInBounds_toArray, List.set_cons_zero, List.set_cons_succ]
  refine wpAnyH_take (i := 21) (oi := ⟨some 115, _, _, _, _, _⟩) (v := undef) rfl (by kernel_rfl) (by kernel_rfl) (by kernel_rfl) (fun _ _ _ h => h) (Or.inr ⟨by rfl, rfl⟩) (by assumption) ?_
  try simp only [Act.put, List.setIfInBounds_toArray, List.set_cons_zero, List.set_cons_succ]
  refine wpAnyH_take (i := 22) (oi := ⟨some 116, _, _, _, _, _⟩) (v := ?_) rfl (by kernel_rfl) (by kernel_rfl) (by kernel_rfl) (fun _ _ _ h => h) (Or.inl ⟨by rfl, ?_⟩) (by assumption) ?_
  rotate_left 1
  · intro wq hSw; (try dsimp only at hSw); (first | (go_simp; done) | (go_simp; with_reducible rfl))
  try simp only [Act.put, List.setIfInBounds_toArray, List.set_cons_zero, List.set_cons_succ]
  refine wpAnyH_take (i := 23) (oi := ⟨some 117, _, _, _, _, _⟩) (v := ?_) rfl (by kernel_rfl) (by kernel_rfl) (by kernel_rfl) (fun _ _ _ h => h) (Or.inl ⟨by rfl, ?_⟩) (by assumption) ?_
  rotate_left 1
  · intro wq hSw; (try dsimp only at hSw); (first | (go_simp; done) | (go_simp; with_reducible rfl))
  try simp only [Act.put, List.setIfInBounds_toArray, List.set_cons_zero, List.set_cons_succ]
  refine wpAnyH_done (by kernel_rfl) ?_ _
  clear TP TP8 TM8 hHeld
  have HX := Lib.hid hp; clear hp
  obtain ⟨c0, c1', c2, c3⟩ := HX.out.c4 0 rfl
  obtain ⟨d0, d1, d2⟩ := HX.out.c3 1 rfl
  go_wp2_with fail
  refine (AM.out _).mono ?_; rintro e w7 ⟨rfl, hb7⟩
  replace HX := Lib.hid (HX.out.later hb7); clear hb7 c0 c1' c2 c3 d0 d1 d2
  obtain ⟨c0, c1', c2, c3⟩ := HX.out.c4 3 rfl
  obtain ⟨d0, d1, d2⟩ := HX.out.c3 1 rfl
  go_wp2_with fail
  refine (AP.out _).mono ?_; rintro e w8 ⟨rfl, hb8⟩
  replace HX := Lib.hid (HX.out.later hb8); clear hb8 c0 c1' c2 c3 d0 d1 d2 AM AP
  have ne : (B1 != B1) = false := by simp
  have ne2 : (A1.toList != A1.toList) = false := by simp
  go_upto_region 14 with fail
  clear ne ne2
  have HY := Lib.hid ((HX.out.new 23 nils).new 23 nils)
  rw [sz1] at HY
  clear HX
  obtain ⟨c0, c1', c2, c3⟩ := HY.out.c4 0 rfl
  go_wp2_with fail
  refine (PH.out _).mono ?_; rintro e w11 ⟨rfl, hb9⟩
  replace HY := Lib.hid (HY.out.later hb9); clear hb9 c0 c1' c2 c3
  obtain ⟨⟨f0, f1, f2, f3⟩, hlz⟩ := HY.out.f4 5 rfl
  obtain ⟨d0, d1, d2, d3⟩ := HY.out.c4 5 rfl
  go_upto_region 18 with fail
  have hp0 := HY.out.four 5 rfl (.int .i64 ho) (.string hk) (.string ht) (.string hv)
  clear HY f0 f1 f2 f3 hlz d0 d1 d2 d3 PH
  generalize w8.heap.size = gl at *
  generalize World.setCell _ _ _ = w12 at *
  have hp : Mt.Fr w [(w.heap.size, 23, #[.int .i64 o, .string k, .string t, .string v]), (w.heap.size + 1, 44, #[.string q, .string y, .bool th]), (w.heap.size + 1 + 1, 53, #[.string a, .string b, .string c]), (gp, 23, #[.int .i64 po, .string pk, .string pt, .string pv]), (gl, 23, #[.int .i64 0, .string ⟨#[]⟩, .string ⟨#[]⟩, .string ⟨#[]⟩]), (gl + 1, 23, #[.int .i64 ho, .string hk, .string ht, .string hv])] _ := hp0
  clear hp0
  replace hp := hp.drew
  have TM8 := Lib.hid fun (wx : World) (h : Mt.Fr w [(w.heap.size, 23, #[.int .i64 o, .string k, .string t, .string v]), (w.heap.size + 1, 44, #[.string q, .string y, .bool th]), (w.heap.size + 1 + 1, 53, #[.string a, .string b, .string c]), (gp, 23, #[.int .i64 po, .string pk, .string pt, .string pv]), (gl, 23, #[.int .i64 0, .string ⟨#[]⟩, .string ⟨#[]⟩, .string ⟨#[]⟩]), (gl + 1, 23, #[.int .i64 ho, .string hk, .string ht, .string hv])] wx) => Mt.Fr.carry h (TM.out wx)
  have TL8 := Lib.hid fun (wx : World) (h : Mt.Fr w [(w.heap.size, 23, #[.int .i64 o, .string k, .string t, .string v]), (w.heap.size + 1, 44, #[.string q, .string y, .bool th]), (w.heap.size + 1 + 1, 53, #[.string a, .string b, .string c]), (gp, 23, #[.int .i64 po, .string pk, .string pt, .string pv]), (gl, 23, #[.int .i64 0, .string ⟨#[]⟩, .string ⟨#[]⟩, .string ⟨#[]⟩]), (gl + 1, 23, #[.int .i64 ho, .string hk, .string ht, .string hv])] wx) => Mt.Fr.carry h (TL.out wx)
  have TH8 := Lib.hid fun (wx : World) (h : Mt.Fr w [(w.heap.size, 23, #[.int .i64 o, .string k, .string t, .string v]), (w.heap.size + 1, 44, #[.string q, .string y, .bool th]), (w.heap.size + 1 + 1, 53, #[.string a, .string b, .string c]), (gp, 23, #[.int .i64 po, .string pk, .string pt, .string pv]), (gl, 23, #[.int .i64 0, .string ⟨#[]⟩, .string ⟨#[]⟩, .string ⟨#[]⟩]), (gl + 1, 23, #[.int .i64 ho, .string hk, .string ht, .string hv])] wx) => Mt.Fr.carry h (TH.out wx)
  refine wp_region_held_drew (S := (fun wx => (wx.cell? ⟨w.heap.size, 0, none⟩ = some (.int .i64 o) ∧ wx.cell? ⟨w.heap.size, 1, none⟩ = some (.string k) ∧ wx.cell? ⟨w.heap.size, 2, none⟩ = some (.string t) ∧ wx.cell? ⟨w.heap.size, 3, none⟩ = some (.string v)) ∧ (wx.cell? ⟨w.heap.size + 1, 0, none⟩ = some (.string q) ∧ wx.cell? ⟨w.heap.size + 1, 1, none⟩ = some (.string y) ∧ wx.cell? ⟨w.heap.size + 1, 2, none⟩ = some (.bool th)) ∧ (wx.cell? ⟨gl, 0, none⟩ = some (.int .i64 0) ∧ wx.cell? ⟨gl, 1, none⟩ = some (.string ⟨#[]⟩) ∧ wx.cell? ⟨gl, 2, none⟩ = some (.string ⟨#[]⟩) ∧ wx.cell? ⟨gl, 3, none⟩ = some (.string ⟨#[]⟩)) ∧ (wx.cell? ⟨gl + 1, 0, none⟩ = some (.int .i64 ho) ∧ wx.cell? ⟨gl + 1, 1, none⟩ = some (.string hk) ∧ wx.cell? ⟨gl + 1, 2, none⟩ = some (.string ht) ∧ wx.cell? ⟨gl + 1, 3, none⟩ = some (.string hv)))) (by kernel_rfl) (hp.s18 rfl rfl rfl rfl) (fun hHeld => ?_)
  generalize World.drew _ = w6 at *
  have nn : (c1 != c1) = false := by simp
  refine wpAnyH_take (i := 0) (oi := ⟨some 169, _, _, _, _, _⟩) (v := ?_) rfl (by kernel_rfl) (by kernel_rfl) (by kernel_rfl) (fun _ _ _ h => h) (Or.inl ⟨by rfl, ?_⟩) (by assumption) ?_
  rotate_left 1
  · intro wq hSw; (try dsimp only at hSw); (first | (go_simp; done) | (go_simp; with_reducible rfl))
  try simp only [Act.put, List.setIfInBounds_toArray, List.set_cons_zero, List.set_cons_succ]
  refine wpAnyH_take (i := 1) (oi := ⟨some 170, _, _, _, _, _⟩) (v := ?_) rfl (by kernel_rfl) (by kernel_rfl) (by kernel_rfl) (fun _ _ _ h => h) (Or.inl ⟨by rfl, ?_⟩) (by assumption) ?_
  rotate_left 1
  · intro wq hSw; (try dsimp only at hSw); (first | (go_simp; done) | (go_simp; with_reducible rfl))
  try simp only [Act.put, List.setIfInBounds_toArray, List.set_cons_zero, List.set_cons_succ]
  refine wpAnyH_take (i := 2) (oi := ⟨some 171, _, _, _, _, _⟩) (v := ?_) rfl (by kernel_rfl) (by kernel_rfl) (by kernel_rfl) (fun _ _ _ h => h) (Or.inl ⟨by rfl, ?_⟩) (by assumption) ?_
  rotate_left 1
  · intro wq hSw; (try dsimp only at hSw); (first | (go_simp; done) | (go_simp; with_reducible rfl))
  try simp only [Act.put, List.setIfInBounds_toArray, List.set_cons_zero, List.set_cons_succ]
  refine wpAnyH_take (i := 3) (oi := ⟨some 172, _, _, _, _, _⟩) (v := ?_) rfl (by kernel_rfl) (by kernel_rfl) (by kernel_rfl) (fun _ _ _ h => h) (Or.inl ⟨by rfl, ?_⟩) (by assumption) ?_
  rotate_left 1
  · intro wq hSw; (try dsimp only at hSw); (first | (go_simp; done) | (go_simp; with_reducible rfl))
  try simp only [Act.put, List.setIfInBounds_toArray, List.set_cons_zero, List.set_cons_succ]
  refine wpAnyH_take (i := 4) (oi := ⟨some 173, _, _, _, _, _⟩) (v := ?_) rfl (by kernel_rfl) (by kernel_rfl) (by kernel_rfl) (fun _ _ _ h => h) (Or.inl ⟨by rfl, ?_⟩) (by assumption) ?_
  rotate_left 1
  · intro wq hSw; (try dsimp only at hSw); (first | (go_simp; done) | (go_simp; with_reducible rfl))
  try simp only [Act.put, List.setIfInBounds_toArray, List.set_cons_zero, List.set_cons_succ]
  refine wpAnyH_take (i := 12) (oi := ⟨some 181, _, _, _, _, _⟩) (v := ?_) rfl (by kernel_rfl) (by kernel_rfl) (by kernel_rfl) (fun _ _ _ h => h) (Or.inl ⟨by rfl, ?_⟩) (by assumption) ?_
  rotate_left 1
  · intro wq hSw; (try dsimp only at hSw); (first | (go_simp; done) | (go_simp; with_reducible rfl))
  try simp only [Act.put, List.setIfInBounds_toArray, List.set_cons_zero, List.set_cons_succ]
  refine wpAnyH_take (i := 13) (oi := ⟨some 182, _, _, _, _, _⟩) (v := ?_) rfl (by kernel_rfl) (by kernel_rfl) (by kernel_rfl) (fun _ _ _ h => h) (Or.inl ⟨by rfl, ?_⟩) (by assumption) ?_
  rotate_left 1
  · intro wq hSw; (try dsimp only at hSw); (first | (go_simp; done) | (go_simp; with_reducible rfl))
  try simp only [Act.put, List.setIfInBounds_toArray, List.set_cons_zero, List.set_cons_succ]
  refine wpAnyH_take (i := 14) (oi := ⟨some 183, _, _, _, _, _⟩) (v := ?_) rfl (by kernel_rfl) (by kernel_rfl) (by kernel_rfl) (fun _ _ _ h => h) (Or.inl ⟨by rfl, ?_⟩) (by assumption) ?_
  rotate_left 1
  · intro wq hSw; (try dsimp only at hSw); (first | (go_simp; done) | (go_simp; with_reducible rfl))
  try simp only [Act.put, List.setIfInBounds_toArray, List.set_cons_zero, List.set_cons_succ]
  refine wpAnyH_ready (rs := [5]) (by kernel_rfl) (by simp) ?_
  refine AllReadyH.cons (o := ⟨some 174, _, _, _, _, _⟩) rfl (fun K hK => ?_) AllReadyH.nil
  go_simp
  with_reducible refine (TL8.out _ (by assumption)).mono ?_
  rintro e w1 ⟨rfl, hp⟩
  refine hK.out _ _ ((fun h => Mt.Fr.s18 h rfl rfl rfl rfl) hp) (fun hHeld => ?_)
  clear hK K
  try simp only [Act.put, List.setIfInBounds_toArray, List.set_cons_zero, List.set_cons_succ]
  refine wpAnyH_take (i := 6) (oi := ⟨some 175, _, _, _, _, _⟩) (v := ?_) rfl (by kernel_rfl) (by kernel_rfl) (by kernel_rfl) (fun _ _ _ h => h) (Or.inl ⟨by rfl, ?_⟩) (by assumption) ?_
  rotate_left 1
  · intro wq hSw; (try dsimp only at hSw); (first | (go_simp; done) | (go_simp; with_reducible rfl))
  try simp only [Act.put, List.setIfInBounds_toArray, List.set_cons_zero, List.set_cons_succ]
  refine wpAnyH_take (i := 7) (oi := ⟨some 176, _, _, _, _, _⟩) (v := ?_) rfl (by kernel_rfl) (by kernel_rfl) (by kernel_rfl) (fun _ _ _ h => h) (Or.inl ⟨by rfl, ?_⟩) (by assumption) ?_
  rotate_left 1
  · intro wq hSw; (try dsimp only at hSw); (first | (go_simp; done) | (go_simp; with_reducible rfl))
  try simp only [Act.put, List.setIfInBounds_toArray, List.set_cons_zero, List.set_cons_succ]
  refine wpAnyH_take (i := 8) (oi := ⟨some 177, _, _, _, _, _⟩) (v := ?_) rfl (by kernel_rfl) (by kernel_rfl) (by kernel_rfl) (fun _ _ _ h => h) (Or.inl ⟨by rfl, ?_⟩) (by assumption) ?_
  rotate_left 1
  · intro wq hSw; (try dsimp only at hSw); (first | (go_simp; done) | (go_simp; with_reducible rfl))
  try simp only [Act.put, List.setIfInBounds_toArray, List.set_cons_zero, List.set_cons_succ]
  refine wpAnyH_take (i := 9) (oi := ⟨some 178, _, _, _, _, _⟩) (v := ?_) rfl (by kernel_rfl) (by kernel_rfl) (by kernel_rfl) (fun _ _ _ h => h) (Or.inl ⟨by rfl, ?_⟩) (by assumption) ?_
  rotate_left 1
  · intro wq hSw; (try dsimp only at hSw); (first | (go_simp; done) | (go_simp; with_reducible rfl))
  try simp only [Act.put, List.setIfInBounds_toArray, List.set_cons_zero, List.set_cons_succ]
  refine wpAnyH_ready (rs := [10]) (by kernel_rfl) (by simp) ?_
  refine AllReadyH.cons (o := ⟨some 179, _, _, _, _, _⟩) rfl (fun K hK => ?_) AllReadyH.nil
  go_simp
  with_reducible refine (TH8.out _ (by assumption)).mono ?_
  rintro e w1 ⟨rfl, hp⟩
  refine hK.out _ _ ((fun h => Mt.Fr.s18 h rfl rfl rfl rfl) hp) (fun hHeld => ?_)
  clear hK K
  try simp only [Act.put, List.setIfInBounds_toArray, List.set_cons_zero, List.set_cons_succ]
  refine wpAnyH_take (i := 11) (oi := ⟨some 180, _, _, _, _, _⟩) (v := ?_) rfl (by kernel_rfl) (by kernel_rfl) (by kernel_rfl) (fun _ _ _ h => h) (Or.inl ⟨by rfl, ?_⟩) (by assumption) ?_
  rotate_left 1
  · intro wq hSw; (try dsimp only at hSw); (first | (go_simp; done) | (go_simp; with_reducible rfl))
  try simp only [Act.put, List.setIfInBounds_toArray, List.set_cons_zero, List.set_cons_succ]
  refine wpAnyH_ready (rs := [15]) (by kernel_rfl) (by simp) ?_
  refine AllReadyH.cons (o := ⟨some 184, _, _, _, _, _⟩) rfl (fun K hK => ?_) AllReadyH.nil
  go_simp
  with_reducible refine (TM8.out _ (by assumption)).mono ?_
  rintro e w1 ⟨rfl, hp⟩
  refine hK.out _ _ ((fun h => Mt.Fr.s18 h rfl rfl rfl rfl) hp) (fun hHeld => ?_)
  clear hK K
  try simp only [Act.put, List.setIfInBounds_toArray, List.set_cons_zero, List.set_cons_succ]
  refine wpAnyH_take (i := 16) (oi := ⟨some 185, _, _, _, _, _⟩) (v := ?_) rfl (by kernel_rfl) (by kernel_rfl) (by kernel_rfl) (fun _ _ _ h => h) (Or.inl ⟨by rfl, ?_⟩) (by assumption) ?_
  rotate_left 1
  · intro wq hSw; (try dsimp only at hSw); (first | (go_simp; done) | (go_simp; with_reducible rfl))
  try simp only [Act.put, List.setIfInBounds_toArray, List.set_cons_zero, List.set_cons_succ]
  refine wpAnyH_take (i := 17) (oi := ⟨some 186, _, _, _, _, _⟩) (v := ?_) rfl (by kernel_rfl) (by kernel_rfl) (by kernel_rfl) (fun _ _ _ h => h) (Or.inl ⟨by rfl, ?_⟩) (by assumption) ?_
  rotate_left 1
  · intro wq hSw; (try dsimp only at hSw); (first | (go_simp; done) | (go_simp; with_reducible rfl))
  try simp only [Act.put, List.setIfInBounds_toArray, List.set_cons_zero, List.set_cons_succ]
  refine wpAnyH_take (i := 18) (oi := ⟨some 187, _, _, _, _, _⟩) (v := ?_) rfl (by kernel_rfl) (by kernel_rfl) (by kernel_rfl) (fun _ _ _ h => h) (Or.inl ⟨by rfl, ?_⟩) (by assumption) ?_
  rotate_left 1
  · intro wq hSw; (try dsimp only at hSw); (first | (go_simp; done) | (go_simp; with_reducible rfl))
  try simp only [Act.put, List.setIfInBounds_toArray, List.set_cons_zero, List.set_cons_succ]
  refine wpAnyH_take (i := 19) (oi := ⟨some 188, _, _, _, _, _⟩) (v := ?_) rfl (by kernel_rfl) (by kernel_rfl) (by kernel_rfl) (fun _ _ _ h => h) (Or.inl ⟨by rfl, ?_⟩) (by assumption) ?_
  rotate_left 1
  · intro wq hSw; (try dsimp only at hSw); (first | (go_simp; done) | (go_simp; with_reducible rfl))
  try simp only [Act.put, List.setIfInBounds_toArray, List.set_cons_zero, List.set_cons_succ]
  refine wpAnyH_take (i := 20) (oi := ⟨some 189, _, _, _, _, _⟩) (v := ?_) rfl (by kernel_rfl) (by kernel_rfl) (by kernel_rfl) (fun _ _ _ h => h) (Or.inl ⟨by rfl, ?_⟩) (by assumption) ?_
  rotate_left 1
  · intro wq hSw; (try dsimp only at hSw); (first | (go_simp; done) | (go_simp; with_reducible rfl))
  try simp only [Act.put, List.setIfInBounds_toArray, List.set_cons_zero, List.set_cons_succ]
  refine wpAnyH_take (i := 21) (oi := ⟨some 190, _, _, _, _, _⟩) (v := ?_) rfl (by kernel_rfl) (by kernel_rfl) (by kernel_rfl) (fun _ _ _ h => h) (Or.inl ⟨by rfl, ?_⟩) (by assumption) ?_
  rotate_left 1
  · intro wq hSw; (try dsimp only at hSw); (first | (go_simp; done) | (go_simp; with_reducible rfl))
  try simp only [Act.put, List.setIfInBounds_toArray, List.set_cons_zero, List.set_cons_succ]
  refine wpAnyH_ready (rs := [22]) (by kernel_rfl) (by simp) ?_
  refine AllReadyH.cons (o := ⟨some 191, _, _, _, _, _⟩) rfl (fun K hK => ?_) AllReadyH.nil
  go_simp
  with_reducible refine (TL8.out _ (by assumption)).mono ?_
  rintro e w1 ⟨rfl, hp⟩
  refine hK.out _ _ ((fun h => Mt.Fr.s18 h rfl rfl rfl rfl) hp) (fun hHeld => ?_)
  clear hK K
  try simp only [Act.put, List.setIfInBounds_toArray, List.set_cons_zero, List.set_cons_succ]
  refine wpAnyH_take (i := 23) (oi := ⟨some 192, _, _, _, _, _⟩) (v := ?_) rfl (by kernel_rfl) (by kernel_rfl) (by kernel_rfl) (fun _ _ _ h => h) (Or.inl ⟨by rfl, ?_⟩) (by assumption) ?_
  rotate_left 1
  · intro wq hSw; (try dsimp only at hSw); (first | (go_simp; done) | (go_simp; with_reducible rfl))
  try simp only [Act.put, List.setIfInBounds_toArray, List.set_cons_zero, List.set_cons_succ]
  refine wpAnyH_take (i := 24) (oi := ⟨some 193, _, _, _, _, _⟩) (v := undef) rfl (by kernel_rfl) (by kernel_rfl) (by kernel_rfl) (fun _ _ _ h => h) (Or.inr ⟨by rfl, rfl⟩) (by assumption) ?_
  try simp only [Act.put, List.setIfInBounds_toArray, List.set_cons_zero, List.set_cons_succ]
  refine wpAnyH_take (i := 25) (oi := ⟨some 194, _, _, _, _, _⟩) (v := undef) rfl (by kernel_rfl) (by kernel_rfl) (by kernel_rfl) (fun _ _ _ h => h) (Or.inr ⟨by rfl, rfl⟩) (by assumption) ?_
  try simp only [Act.put, List.setIfInBounds_toArray, List.set_cons_zero, List.set_cons_succ]
  refine wpAnyH_take (i := 26) (oi := ⟨some 195, _, _, _, _, _⟩) (v := undef) rfl (by kernel_rfl) (by kernel_rfl) (by kernel_rfl) (fun _ _ _ h => h) (Or.inr ⟨by rfl, rfl⟩) (by assumption) ?_
  try simp only [Act.put, List.setIfInBounds_toArray, List.set_cons_zero, List.set_cons_succ]
  refine wpAnyH_take (i := 27) (oi := ⟨some 196, _, _, _, _, _⟩) (v := undef) rfl (by kernel_rfl) (by kernel_rfl) (by kernel_rfl) (fun _ _ _ h => h) (Or.inr ⟨by rfl, rfl⟩) (by assumption) ?_
  try simp only [Act.put, List.setIfInBounds_toArray, List.set_cons_zero, List.set_cons_succ]
  refine wpAnyH_take (i := 28) (oi := ⟨some 197, _, _, _, _, _⟩) (v := ?_) rfl (by kernel_rfl) (by kernel_rfl) (by kernel_rfl) (fun _ _ _ h => h) (Or.inl ⟨by rfl, ?_⟩) (by assumption) ?_
  rotate_left 1
  · intro wq hSw; (try dsimp only at hSw); (first | (go_simp; done) | (go_simp; with_reducible rfl))
  try simp only [Act.put, List.setIfInBounds_toArray, List.set_cons_zero, List.set_cons_succ]
  refine wpAnyH_take (i := 29) (oi := ⟨some 198, _, _, _, _, _⟩) (v := ?_) rfl (by kernel_rfl) (by kernel_rfl) (by kernel_rfl) (fun _ _ _ h => h) (Or.inl ⟨by rfl, ?_⟩) (by assumption) ?_
  rotate_left 1
  · intro wq hSw; (try dsimp only at hSw); (first | (go_simp; done) | (go_simp; with_reducible rfl))
  try simp only [Act.put, List.setIfInBounds_toArray, List.set_cons_zero, List.set_cons_succ]
  refine wpAnyH_done (by kernel_rfl) ?_ _
  clear TL TH TL8 TH8 TM8 hHeld
  have HX := Lib.hid hp; clear hp
  obtain ⟨c0, c1', c2, c3⟩ := HX.out.c4 0 rfl
  obtain ⟨d0, d1, d2⟩ := HX.out.c3 1 rfl
  go_wp2_with fail
  refine (TM.out _).mono ?_; rintro e w7 ⟨rfl, hb7⟩
  replace HX := Lib.hid (HX.out.later hb7); clear hb7 c0 c1' c2 c3 d0 d1 d2
  obtain ⟨c0, c1', c2, c3⟩ := HX.out.c4 0 rfl
  obtain ⟨d0, d1, d2⟩ := HX.out.c3 1 rfl
  have ee : (th == th) = true := by simp
  have e2 : (v.toList == v.toList) = true := by simp
  rcases DF.out with ⟨rfl, rfl⟩ | ⟨rfl, ⟨rfl, rfl, rfl⟩ | ⟨rfl, rfl, rfl⟩ | ⟨rfl, rfl, rfl⟩ | rfl⟩
  all_goals
    go_wp2_with fail
    refine (AW.out _).mono ?_; rintro e w9 ⟨rfl, hb9⟩
    replace HX := Lib.hid (HX.out.later hb9); clear hb9
    go_wp2_with fail
    go_ret
    exact ⟨rfl, HX.out.below⟩
set_option maxHeartbeats 32000000 in
theorem range_in010 (o po lo ho : Int) (k t v q y a b c f d pk pt pv lk lt' lv hk ht hv A1 A2 : ByteArray) (th B1 B2 c1 h1 : Bool) (w : World) (hq : q.size ≤ 1000) (hy : y.size ≤ 1000) (ha : a.size ≤ 108) (hb : b.size ≤ 108) (hc : c.size ≤ 108)
    (Mn : ∀ ts ty w, (Builtin.min_ ts ty #[.string a, .string b]).run Tryz.prog w = .ok (.string f) w) (Mx : ∀ ts ty w, (Builtin.max_ ts ty #[.string a, .string b]).run Tryz.prog w = .ok (.string d) w)
    (AW : Hid (∀ w, Calls Tryz.prog 11 #[] w fun e w' => e = .returned (.bool true) ∧ Below w.heap.size w w'))
    (FE : Hid (∀ w, Calls Tryz.prog 10 #[.agg #[.int .i64 o, .string k, .string t, .string v]] w fun e w' => e = .returned (.bool true) ∧ Below w.heap.size w w'))
    (k1 : c.toList = []) (k2 : c.toList.isEmpty = true)
    (k4 : Op.bytesLess q.toList f.toList = false)
    (k6 : ¬ d.toList = []) (k7 : d.toList.isEmpty = false)
    (bl : Bool) (PL : Hid (∀ w, Calls Tryz.prog 18 #[.agg #[.int .i64 o, .string k, .string t, .string v], .string f, .string d] w fun e w' => e = .returned (.tuple #[.agg #[.int .i64 lo, .string lk, .string lt', .string lv], .bool bl]) ∧ Below w.heap.size w w'))
    (bp : Bool) (PP : Hid (∀ w, Calls Tryz.prog 18 #[.agg #[.int .i64 o, .string k, .string t, .string v], .string f, .string c] w fun e w' => e = .returned (.tuple #[.agg #[.int .i64 po, .string pk, .string pt, .string pv], .bool bp]) ∧ Below w.heap.size w w'))
    (bh : Bool) (PH : Hid (∀ w, Calls Tryz.prog 18 #[.agg #[.int .i64 o, .string k, .string t, .string v], .string d, .string c] w fun e w' => e = .returned (.tuple #[.agg #[.int .i64 ho, .string hk, .string ht, .string hv], .bool bh]) ∧ Below w.heap.size w w'))
    (TM : Hid (∀ w, Calls Tryz.prog 20 #[.agg #[.int .i64 o, .string k, .string t, .string v], .string q] w fun e w' => e = .returned (.bool c1) ∧ Below w.heap.size w w'))
    (TP : Hid (∀ w, Calls Tryz.prog 20 #[.agg #[.int .i64 po, .string pk, .string pt, .string pv], .string q] w fun e w' => e = .returned (.bool c1) ∧ Below w.heap.size w w'))
    (TL : Hid (∀ w, Calls Tryz.prog 20 #[.agg #[.int .i64 lo, .string lk, .string lt', .string lv], .string q] w fun e w' => e = .returned (.bool false) ∧ Below w.heap.size w w'))
    (TH : Hid (∀ w, Calls Tryz.prog 20 #[.agg #[.int .i64 ho, .string hk, .string ht, .string hv], .string q] w fun e w' => e = .returned (.bool c1) ∧ Below w.heap.size w w'))
    (AM : Hid (∀ w, Calls Tryz.prog 22 #[.agg #[.int .i64 o, .string k, .string t, .string v], .string q, .string y, .bool th] w fun e w' => e = .returned (.tuple #[.string A1, .bool B1]) ∧ Below w.heap.size w w'))
    (AP : Hid (∀ w, Calls Tryz.prog 22 #[.agg #[.int .i64 po, .string pk, .string pt, .string pv], .string q, .string y, .bool th] w fun e w' => e = .returned (.tuple #[.string A1, .bool B1]) ∧ Below w.heap.size w w'))
    (DF : Hid (c1 = false ∧ B1 = th ∨ c1 = true ∧ (o = 1 ∧ B1 = true ∧ A1 = v ∨ o = 2 ∧ B1 = false ∧ A1 = ⟨#[]⟩ ∨ o = 3 ∧ B1 = false ∧ A1 = ⟨#[]⟩ ∨ o = 4))) :
    Calls Tryz.prog 9 #[.agg #[.int .i64 o, .string k, .string t, .string v], .agg #[.string q, .string y, .bool th], .agg #[.string a, .string b, .string c]] w fun e w' => e = .returned (.bool true) ∧ Below w.heap.size w w' := by
  have HX := Lib.hid (fr3 w #[.int .i64 o, .string k, .string t, .string v] #[.string q, .string y, .bool th] #[.string a, .string b, .string c])
  go_enter Tryz.func9, Tryz.ntmps9
  go_wp2_with fail
  refine (FE.out _).mono ?_; rintro e w1 ⟨rfl, hb1⟩
  replace HX := Lib.hid (HX.out.later hb1); clear hb1
  obtain ⟨c0, c1', c2⟩ := HX.out.c3 1 rfl
  obtain ⟨d0, d1, d2⟩ := HX.out.c3 2 rfl
  have dlt := (HX.out.at 2 rfl).lt
  go_upto_region 3 with fail
  have hp := HX.out.drew
  clear HX c0 c1' c2
  refine wp_region_held_drew (S := (fun wx => (wx.cell? ⟨w.heap.size + 1 + 1, 0, none⟩ = some (.string a) ∧ wx.cell? ⟨w.heap.size + 1 + 1, 1, none⟩ = some (.string b) ∧ wx.cell? ⟨w.heap.size + 1 + 1, 2, none⟩ = some (.string c)))) (by kernel_rfl) (hp.s3 2 rfl) (fun hHeld => ?_)
  generalize World.drew _ = w3 at *
  refine wpAnyH_take (i := 0) (oi := ⟨some 53, _, _, _, _, _⟩) (v := ?_) rfl (by kernel_rfl) (by kernel_rfl) (by kernel_rfl) (fun _ _ _ h => h) (Or.inl ⟨by rfl, ?_⟩) (by assumption) ?_
  rotate_left 1
  · intro wq hSw; (try dsimp only at hSw); (first | (go_simp; done) | (go_simp; with_reducible rfl))
  try simp only [Act.put, List.setIfInBounds_toArray, List.set_cons_zero, List.set_cons_succ]
  refine wpAnyH_take (i := 1) (oi := ⟨some 54, _, _, _, _, _⟩) (v := ?_) rfl (by kernel_rfl) (by kernel_rfl) (by kernel_rfl) (fun _ _ _ h => h) (Or.inl ⟨by rfl, ?_⟩) (by assumption) ?_
  rotate_left 1
  · intro wq hSw; (try dsimp only at hSw); (first | (go_simp; done) | (go_simp; with_reducible rfl))
  try simp only [Act.put, List.setIfInBounds_toArray, List.set_cons_zero, List.set_cons_succ]
  refine wpAnyH_take (i := 2) (oi := ⟨some 55, _, _, _, _, _⟩) (v := ?_) rfl (by kernel_rfl) (by kernel_rfl) (by kernel_rfl) (fun _ _ _ h => h) (Or.inl ⟨by rfl, ?_⟩) (by assumption) ?_
  rotate_left 1
  · intro wq hSw; (try dsimp only at hSw); (first | (go_simp; done) | (go_simp; with_reducible rfl))
  try simp only [Act.put, List.setIfInBounds_toArray, List.set_cons_zero, List.set_cons_succ]
  refine wpAnyH_take (i := 3) (oi := ⟨some 56, _, _, _, _, _⟩) (v := ?_) rfl (by kernel_rfl) (by kernel_rfl) (by kernel_rfl) (fun _ _ _ h => h) (Or.inl ⟨by rfl, ?_⟩) (by assumption) ?_
  rotate_left 1
  · intro wq hSw; (try dsimp only at hSw); (first | (go_simp; done) | (go_simp; with_reducible rfl))
  try simp only [Act.put, List.setIfInBounds_toArray, List.set_cons_zero, List.set_cons_succ]
  refine wpAnyH_take (i := 4) (oi := ⟨some 57, _, _, _, _, _⟩) (v := ?_) rfl (by kernel_rfl) (by kernel_rfl) (by kernel_rfl) (fun _ _ _ h => h) (Or.inl ⟨by rfl, ?_⟩) (by assumption) ?_
  rotate_left 1
  · intro wq hSw; (try dsimp only at hSw); (first | (go_simp; done) | (go_simp; with_reducible rfl))
  try simp only [Act.put, List.setIfInBounds_toArray, List.set_cons_zero, List.set_cons_succ]
  refine wpAnyH_take (i := 5) (oi := ⟨some 58, _, _, _, _, _⟩) (v := ?_) rfl (by kernel_rfl) (by kernel_rfl) (by kernel_rfl) (fun _ _ _ h => h) (Or.inl ⟨by rfl, ?_⟩) (by assumption) ?_
  rotate_left 1
  · intro wq hSw; (try dsimp only at hSw); (first | (go_simp; done) | (go_simp; with_reducible rfl))
  try simp only [Act.put, List.setIfInBounds_toArray, List.set_cons_zero, List.set_cons_succ]
  refine wpAnyH_take (i := 6) (oi := ⟨some 59, _, _, _, _, _⟩) (v := ?_) rfl (by kernel_rfl) (by kernel_rfl) (by kernel_rfl) (fun _ _ _ h => h) (Or.inl ⟨by rfl, ?_⟩) (by assumption) ?_
  rotate_left 1
  · intro wq hSw; (try dsimp only at hSw); (first | (go_simp; done) | (go_simp; with_reducible rfl))
  try simp only [Act.put, List.setIfInBounds_toArray, List.set_cons_zero, List.set_cons_succ]
  refine wpAnyH_take (i := 7) (oi := ⟨some 60, _, _, _, _, _⟩) (v := ?_) rfl (by kernel_rfl) (by kernel_rfl) (by kernel_rfl) (fun _ _ _ h => h) (Or.inl ⟨by rfl, ?_⟩) (by assumption) ?_
  rotate_left 1
  · intro wq hSw; (try dsimp only at hSw); (first | (go_simp; done) | (go_simp; with_reducible rfl))
  try simp only [Act.put, List.setIfInBounds_toArray, List.set_cons_zero, List.set_cons_succ]
  refine wpAnyH_take (i := 8) (oi := ⟨some 61, _, _, _, _, _⟩) (v := ?_) rfl (by kernel_rfl) (by kernel_rfl) (by kernel_rfl) (fun _ _ _ h => h) (Or.inl ⟨by rfl, ?_⟩) (by assumption) ?_
  rotate_left 1
  · intro wq hSw; (try dsimp only at hSw); (first | (go_simp; done) | (go_simp; with_reducible rfl))
  try simp only [Act.put, List.setIfInBounds_toArray, List.set_cons_zero, List.set_cons_succ]
  refine wpAnyH_take (i := 9) (oi := ⟨some 62, _, _, _, _, _⟩) (v := ?_) rfl (by kernel_rfl) (by kernel_rfl) (by kernel_rfl) (fun _ _ _ h => h) (Or.inl ⟨by rfl, ?_⟩) (by assumption) ?_
  rotate_left 1
  · intro wq hSw; (try dsimp only at hSw); (first | (go_simp; done) | (go_simp; with_reducible rfl))
  try simp only [Act.put, List.setIfInBounds_toArray, List.set_cons_zero, List.set_cons_succ]
  refine wpAnyH_take (i := 10) (oi := ⟨some 63, _, _, _, _, _⟩) (v := ?_) rfl (by kernel_rfl) (by kernel_rfl) (by kernel_rfl) (fun _ _ _ h => h) (Or.inl ⟨by rfl, ?_⟩) (by assumption) ?_
  rotate_left 1
  · intro wq hSw; (try dsimp only at hSw); (first | (go_simp; done) | (go_simp; with_reducible rfl))
  try simp only [Act.put, List.setIfInBounds_toArray, List.set_cons_zero, List.set_cons_succ]
  refine wpAnyH_take (i := 11) (oi := ⟨some 64, _, _, _, _, _⟩) (v := ?_) rfl (by kernel_rfl) (by kernel_rfl) (by kernel_rfl) (fun _ _ _ h => h) (Or.inl ⟨by rfl, ?_⟩) (by assumption) ?_
  rotate_left 1
  · intro wq hSw; (try dsimp only at hSw); (first | (go_simp; done) | (go_simp; with_reducible rfl))
  try simp only [Act.put, List.setIfInBounds_toArray, List.set_cons_zero, List.set_cons_succ]
  refine wpAnyH_take (i := 12) (oi := ⟨some 7, _, _, _, _, _⟩) (v := ?_) rfl (by kernel_rfl) (by kernel_rfl) (by kernel_rfl) (fun _ _ _ h => h) (Or.inl ⟨by rfl, ?_⟩) (by assumption) ?_
  rotate_left 1
  · intro wq hSw; (try dsimp only at hSw); (first | (go_simp; done) | (go_simp; with_reducible rfl))
  try simp only [Act.put, List.setIfInBounds_toArray, List.set_cons_zero, List.set_cons_succ]
  refine wpAnyH_take (i := 13) (oi := ⟨some 8, _, _, _, _, _⟩) (v := ?_) rfl (by kernel_rfl) (by kernel_rfl) (by kernel_rfl) (fun _ _ _ h => h) (Or.inl ⟨by rfl, ?_⟩) (by assumption) ?_
  rotate_left 1
  · intro wq hSw; (try dsimp only at hSw); (first | (go_simp; done) | (go_simp; with_reducible rfl))
  try simp only [Act.put, List.setIfInBounds_toArray, List.set_cons_zero, List.set_cons_succ]
  refine wpAnyH_take (i := 14) (oi := ⟨some 9, _, _, _, _, _⟩) (v := ?_) rfl (by kernel_rfl) (by kernel_rfl) (by kernel_rfl) (fun _ _ _ h => h) (Or.inl ⟨by rfl, ?_⟩) (by assumption) ?_
  rotate_left 1
  · intro wq hSw; (try dsimp only at hSw); (first | (go_simp; done) | (go_simp; with_reducible rfl))
  try simp only [Act.put, List.setIfInBounds_toArray, List.set_cons_zero, List.set_cons_succ]
  refine wpAnyH_done (by kernel_rfl) ?_ _
  clear d0 d1 d2 dlt Mn Mx hHeld
  have HX := Lib.hid hp; clear hp
  obtain ⟨c0, c1', c2, c3⟩ := HX.out.c4 0 rfl
  obtain ⟨d0, d1, d2⟩ := HX.out.c3 1 rfl
  go_wp2_with fail
  refine (PP.out _).mono ?_; rintro e w4 ⟨rfl, hb4⟩
  replace HX := Lib.hid ((HX.out.later hb4).new 23 #[.int .i64 po, .string pk, .string pt, .string pv]); clear hb4 c0 c1' c2 c3 d0 d1 d2
  go_upto_region 8 with fail
  have hp : Mt.Fr w [(w.heap.size, 23, #[.int .i64 o, .string k, .string t, .string v]), (w.heap.size + 1, 44, #[.string q, .string y, .bool th]), (w.heap.size + 1 + 1, 53, #[.string a, .string b, .string c]), (w4.heap.size, 23, #[.int .i64 po, .string pk, .string pt, .string pv])] _ := HX.out
  clear HX PP
  generalize w4.heap.size = gp at *
  generalize w4.alloc _ = w5 at *
  clear w4
  replace hp := hp.drew
  have TM8 := Lib.hid fun (wx : World) (h : Mt.Fr w [(w.heap.size, 23, #[.int .i64 o, .string k, .string t, .string v]), (w.heap.size + 1, 44, #[.string q, .string y, .bool th]), (w.heap.size + 1 + 1, 53, #[.string a, .string b, .string c]), (gp, 23, #[.int .i64 po, .string pk, .string pt, .string pv])] wx) => Mt.Fr.carry h (TM.out wx)
  have TP8 := Lib.hid fun (wx : World) (h : Mt.Fr w [(w.heap.size, 23, #[.int .i64 o, .string k, .string t, .string v]), (w.heap.size + 1, 44, #[.string q, .string y, .bool th]), (w.heap.size + 1 + 1, 53, #[.string a, .string b, .string c]), (gp, 23, #[.int .i64 po, .string pk, .string pt, .string pv])] wx) => Mt.Fr.carry h (TP.out wx)
  refine wp_region_held_drew (S := (fun wx => (wx.cell? ⟨w.heap.size, 0, none⟩ = some (.int .i64 o) ∧ wx.cell? ⟨w.heap.size, 1, none⟩ = some (.string k) ∧ wx.cell? ⟨w.heap.size, 2, none⟩ = some (.string t) ∧ wx.cell? ⟨w.heap.size, 3, none⟩ = some (.string v)) ∧ (wx.cell? ⟨w.heap.size + 1, 0, none⟩ = some (.string q) ∧ wx.cell? ⟨w.heap.size + 1, 1, none⟩ = some (.string y) ∧ wx.cell? ⟨w.heap.size + 1, 2, none⟩ = some (.bool th)) ∧ (wx.cell? ⟨gp, 0, none⟩ = some (.int .i64 po) ∧ wx.cell? ⟨gp, 1, none⟩ = some (.string pk) ∧ wx.cell? ⟨gp, 2, none⟩ = some (.string pt) ∧ wx.cell? ⟨gp, 3, none⟩ = some (.string pv)))) (by kernel_rfl) (hp.s8 rfl rfl rfl) (fun hHeld => ?_)
  generalize World.drew _ = w6 at *
  have ee : (c1 == c1) = true := by simp
  refine wpAnyH_take (i := 0) (oi := ⟨some 94, _, _, _, _, _⟩) (v := ?_) rfl (by kernel_rfl) (by kernel_rfl) (by kernel_rfl) (fun _ _ _ h => h) (Or.inl ⟨by rfl, ?_⟩) (by assumption) ?_
  rotate_left 1
  · intro wq hSw; (try dsimp only at hSw); (first | (go_simp; done) | (go_simp; with_reducible rfl))
  try simp only [Act.put, List.setIfInBounds_toArray, List.set_cons_zero, List.set_cons_succ]
  refine wpAnyH_take (i := 1) (oi := ⟨some 95, _, _, _, _, _⟩) (v := ?_) rfl (by kernel_rfl) (by kernel_rfl) (by kernel_rfl) (fun _ _ _ h => h) (Or.inl ⟨by rfl, ?_⟩) (by assumption) ?_
  rotate_left 1
  · intro wq hSw; (try dsimp only at hSw); (first | (go_simp; done) | (go_simp; with_reducible rfl))
  try simp only [Act.put, List.setIfInBounds_toArray, List.set_cons_zero, List.set_cons_succ]
  refine wpAnyH_take (i := 2) (oi := ⟨some 96, _, _, _, _, _⟩) (v := ?_) rfl (by kernel_rfl) (by kernel_rfl) (by kernel_rfl) (fun _ _ _ h => h) (Or.inl ⟨by rfl, ?_⟩) (by assumption) ?_
  rotate_left 1
  · intro wq hSw; (try dsimp only at hSw); (first | (go_simp; done) | (go_simp; with_reducible rfl))
  try simp only [Act.put, List.setIfInBounds_toArray, List.set_cons_zero, List.set_cons_succ]
  refine wpAnyH_take (i := 3) (oi := ⟨some 97, _, _, _, _, _⟩) (v := ?_) rfl (by kernel_rfl) (by kernel_rfl) (by kernel_rfl) (fun _ _ _ h => h) (Or.inl ⟨by rfl, ?_⟩) (by assumption) ?_
  rotate_left 1
  · intro wq hSw; (try dsimp only at hSw); (first | (go_simp; done) | (go_simp; with_reducible rfl))
  try simp only [Act.put, List.setIfInBounds_toArray, List.set_cons_zero, List.set_cons_succ]
  refine wpAnyH_take (i := 4) (oi := ⟨some 98, _, _, _, _, _⟩) (v := ?_) rfl (by kernel_rfl) (by kernel_rfl) (by kernel_rfl) (fun _ _ _ h => h) (Or.inl ⟨by rfl, ?_⟩) (by assumption) ?_
  rotate_left 1
  · intro wq hSw; (try dsimp only at hSw); (first | (go_simp; done) | (go_simp; with_reducible rfl))
  try simp only [Act.put, List.setIfInBounds_toArray, List.set_cons_zero, List.set_cons_succ]
  refine wpAnyH_take (i := 5) (oi := ⟨some 99, _, _, _, _, _⟩) (v := ?_) rfl (by kernel_rfl) (by kernel_rfl) (by kernel_rfl) (fun _ _ _ h => h) (Or.inl ⟨by rfl, ?_⟩) (by assumption) ?_
  rotate_left 1
  · intro wq hSw; (try dsimp only at hSw); (first | (go_simp; done) | (go_simp; with_reducible rfl))
  try simp only [Act.put, List.setIfInBounds_toArray, List.set_cons_zero, List.set_cons_succ]
  refine wpAnyH_take (i := 7) (oi := ⟨some 101, _, _, _, _, _⟩) (v := ?_) rfl (by kernel_rfl) (by kernel_rfl) (by kernel_rfl) (fun _ _ _ h => h) (Or.inl ⟨by rfl, ?_⟩) (by assumption) ?_
  rotate_left 1
  · intro wq hSw; (try dsimp only at hSw); (first | (go_simp; done) | (go_simp; with_reducible rfl))
  try simp only [Act.put, List.setIfInBounds_toArray, List.set_cons_zero, List.set_cons_succ]
  refine wpAnyH_take (i := 8) (oi := ⟨some 102, _, _, _, _, _⟩) (v := ?_) rfl (by kernel_rfl) (by kernel_rfl) (by kernel_rfl) (fun _ _ _ h => h) (Or.inl ⟨by rfl, ?_⟩) (by assumption) ?_
  rotate_left 1
  · intro wq hSw; (try dsimp only at hSw); (first | (go_simp; done) | (go_simp; with_reducible rfl))
  try simp only [Act.put, List.setIfInBounds_toArray, List.set_cons_zero, List.set_cons_succ]
  refine wpAnyH_take (i := 9) (oi := ⟨some 103, _, _, _, _, _⟩) (v := ?_) rfl (by kernel_rfl) (by kernel_rfl) (by kernel_rfl) (fun _ _ _ h => h) (Or.inl ⟨by rfl, ?_⟩) (by assumption) ?_
  rotate_left 1
  · intro wq hSw; (try dsimp only at hSw); (first | (go_simp; done) | (go_simp; with_reducible rfl))
  try simp only [Act.put, List.setIfInBounds_toArray, List.set_cons_zero, List.set_cons_succ]
  refine wpAnyH_ready (rs := [6]) (by kernel_rfl) (by simp) ?_
  refine AllReadyH.cons (o := ⟨some 100, _, _, _, _, _⟩) rfl (fun K hK => ?_) AllReadyH.nil
  go_simp
  with_reducible refine (TM8.out _ (by assumption)).mono ?_
  rintro e w1 ⟨rfl, hp⟩
  refine hK.out _ _ ((fun h => Mt.Fr.s8 h rfl rfl rfl) hp) (fun hHeld => ?_)
  clear hK K
  try simp only [Act.put, List.setIfInBounds_toArray, List.set_cons_zero, List.set_cons_succ]
  refine wpAnyH_ready (rs := [10]) (by kernel_rfl) (by simp) ?_
  refine AllReadyH.cons (o := ⟨some 104, _, _, _, _, _⟩) rfl (fun K hK => ?_) AllReadyH.nil
  go_simp
  with_reducible refine (TP8.out _ (by assumption)).mono ?_
  rintro e w1 ⟨rfl, hp⟩
  refine hK.out _ _ ((fun h => Mt.Fr.s8 h rfl rfl rfl) hp) (fun hHeld => ?_)
  clear hK K
  try simp only [Act.put, List.setIfInBounds_toArray, List.set_cons_zero, List.set_cons_succ]
  refine wpAnyH_take (i := 11) (oi := ⟨some 105, _, _, _, _, _⟩) (v := ?_) rfl (by kernel_rfl) (by kernel_rfl) (by kernel_rfl) (fun _ _ _ h => h) (Or.inl ⟨by rfl, ?_⟩) (by assumption) ?_
  rotate_left 1
  · intro wq hSw; (try dsimp only at hSw); (first | (go_simp; done) | (go_simp; with_reducible rfl))
  try simp only [Act.put, List.setIfInBounds_toArray, List.set_cons_zero, List.set_cons_succ]
  refine wpAnyH_take (i := 12) (oi := ⟨some 106, _, _, _, _, _⟩) (v := ?_) rfl (by kernel_rfl) (by kernel_rfl) (by kernel_rfl) (fun _ _ _ h => h) (Or.inl ⟨by rfl, ?_⟩) (by assumption) ?_
  rotate_left 1
  · intro wq hSw; (try dsimp only at hSw); (first | (go_simp; done) | (go_simp; with_reducible rfl))
  try simp only [Act.put, List.setIfInBounds_toArray, List.set_cons_zero, List.set_cons_succ]
  refine wpAnyH_take (i := 13) (oi := ⟨some 107, _, _, _, _, _⟩) (v := ?_) rfl (by kernel_rfl) (by kernel_rfl) (by kernel_rfl) (fun _ _ _ h => h) (Or.inl ⟨by rfl, ?_⟩) (by assumption) ?_
  rotate_left 1
  · intro wq hSw; (try dsimp only at hSw); (first | (go_simp; done) | (go_simp; with_reducible rfl))
  try simp only [Act.put, List.setIfInBounds_toArray, List.set_cons_zero, List.set_cons_succ]
  refine wpAnyH_take (i := 14) (oi := ⟨some 108, _, _, _, _, _⟩) (v := ?_) rfl (by kernel_rfl) (by kernel_rfl) (by kernel_rfl) (fun _ _ _ h => h) (Or.inl ⟨by rfl, ?_⟩) (by assumption) ?_
  rotate_left 1
  · intro wq hSw; (try dsimp only at hSw); (first | (go_simp; done) | (go_simp; with_reducible rfl))
  try simp only [Act.put, List.setIfInBounds_toArray, List.set_cons_zero, List.set_cons_succ]
  refine wpAnyH_take (i := 15) (oi := ⟨some 109, _, _, _, _, _⟩) (v := ?_) rfl (by kernel_rfl) (by kernel_rfl) (by kernel_rfl) (fun _ _ _ h => h) (Or.inl ⟨by rfl, ?_⟩) (by assumption) ?_
  rotate_left 1
  · intro wq hSw; (try dsimp only at hSw); (first | (go_simp; done) | (go_simp; with_reducible rfl))
  try simp only [Act.put, List.setIfInBounds_toArray, List.set_cons_zero, List.set_cons_succ]
  refine wpAnyH_take (i := 16) (oi := ⟨some 110, _, _, _, _, _⟩) (v := ?_) rfl (by kernel_rfl) (by kernel_rfl) (by kernel_rfl) (fun _ _ _ h => h) (Or.inl ⟨by rfl, ?_⟩) (by assumption) ?_
  rotate_left 1
  · intro wq hSw; (try dsimp only at hSw); (first | (go_simp; done) | (go_simp; with_reducible rfl))
  try simp only [Act.put, List.setIfInBounds_toArray, List.set_cons_zero, List.set_cons_succ]
  refine wpAnyH_take (i := 17) (oi := ⟨some 111, _, _, _, _, _⟩) (v := ?_) rfl (by kernel_rfl) (by kernel_rfl) (by kernel_rfl) (fun _ _ _ h => h) (Or.inl ⟨by rfl, ?_⟩) (by assumption) ?_
  rotate_left 1
  · intro wq hSw; (try dsimp only at hSw); (first | (go_simp; done) | (go_simp; with_reducible rfl))
  try simp only [Act.put, List.setIfInBounds_toArray, List.set_cons_zero, List.set_cons_succ]
  refine wpAnyH_take (i := 18) (oi := ⟨some 112, _, _, _, _, _⟩) (v := undef) rfl (by kernel_rfl) (by kernel_rfl) (by kernel_rfl) (fun _ _ _ h => h) (Or.inr ⟨by rfl, rfl⟩) (by assumption) ?_
  try simp only [Act.put, List.setIfInBounds_toArray, List.set_cons_zero, List.set_cons_succ]
  refine wpAnyH_take (i := 19) (oi := ⟨some 113, _, _, _, _, _⟩) (v := undef) rfl (by kernel_rfl) (by kernel_rfl) (by kernel_rfl) (fun _ _ _ h => h) (Or.inr ⟨by rfl, rfl⟩) (by assumption) ?_
  try simp only [Act.put, List.setIfInBounds_toArray, List.set_cons_zero, List.set_cons_succ]
  refine wpAnyH_take (i := 20) (oi := ⟨some 114, _, _, _, _, _⟩) (v := undef) rfl (by kernel_rfl) (by kernel_rfl) (by kernel_rfl) (fun _ _ _ h => h) (Or.inr ⟨by rfl, rfl⟩) (by assumption) ?_
  try simp only [Act.put, List.setIfInBounds_toArray, List.set_cons_zero, List.set_cons_succ]
  refine wpAnyH_take (i := 21) (oi := ⟨some 115, _, _, _, _, _⟩) (v := undef) rfl (by kernel_rfl) (by kernel_rfl) (by kernel_rfl) (fun _ _ _ h => h) (Or.inr ⟨by rfl, rfl⟩) (by assumption) ?_
  try simp only [Act.put, List.setIfInBounds_toArray, List.set_cons_zero, List.set_cons_succ]
  refine wpAnyH_take (i := 22) (oi := ⟨some 116, _, _, _, _, _⟩) (v := ?_) rfl (by kernel_rfl) (by kernel_rfl) (by kernel_rfl) (fun _ _ _ h => h) (Or.inl ⟨by rfl, ?_⟩) (by assumption) ?_
  rotate_left 1
  · intro wq hSw; (try dsimp only at hSw); (first | (go_simp; done) | (go_simp; with_reducible rfl))
  try simp only [Act.put, List.setIfInBounds_toArray, List.set_cons_zero, List.set_cons_succ]
  refine wpAnyH_take (i := 23) (oi := ⟨some 117, _, _, _, _, _⟩) (v := ?_) rfl (by kernel_rfl) (by kernel_rfl) (by kernel_rfl) (fun _ _ _ h => h) (Or.inl ⟨by rfl, ?_⟩) (by assumption) ?_
  rotate_left 1
  · intro wq hSw; (try dsimp only at hSw); (first | (go_simp; done) | (go_simp; with_reducible rfl))
  try simp only [Act.put, List.setIfInBounds_toArray, List.set_cons_zero, List.set_cons_succ]
  refine wpAnyH_done (by kernel_rfl) ?_ _
  clear TP TP8 TM8 hHeld
  have HX := Lib.hid hp; clear hp
  obtain ⟨c0, c1', c2, c3⟩ := HX.out.c4 0 rfl
  obtain ⟨d0, d1, d2⟩ := HX.out.c3 1 rfl
  go_wp2_with fail
  refine (AM.out _).mono ?_; rintro e w7 ⟨rfl, hb7⟩
  replace HX := Lib.hid (HX.out.later hb7); clear hb7 c0 c1' c2 c3 d0 d1 d2
  obtain ⟨c0, c1', c2, c3⟩ := HX.out.c4 3 rfl
  obtain ⟨d0, d1, d2⟩ := HX.out.c3 1 rfl
  go_wp2_with fail
  refine (AP.out _).mono ?_; rintro e w8 ⟨rfl, hb8⟩
  replace HX := Lib.hid (HX.out.later hb8); clear hb8 c0 c1' c2 c3 d0 d1 d2 AM AP
  have ne : (B1 != B1) = false := by simp
  have ne2 : (A1.toList != A1.toList) = false := by simp
  go_upto_region 14 with fail
  clear ne ne2
  have HY := Lib.hid ((HX.out.new 23 nils).new 23 nils)
  rw [sz1] at HY
  clear HX
  obtain ⟨c0, c1', c2, c3⟩ := HY.out.c4 0 rfl
  go_wp2_with fail
  refine (PL.out _).mono ?_; rintro e w9 ⟨rfl, hb9⟩
  replace HY := Lib.hid (HY.out.later hb9); clear hb9 c0 c1' c2 c3
  obtain ⟨⟨f0, f1, f2, f3⟩, hlz⟩ := HY.out.f4 4 rfl
  obtain ⟨d0, d1, d2, d3⟩ := HY.out.c4 4 rfl
  go_upto_region 17 with fail
  replace HY := Lib.hid (HY.out.four 4 rfl (.int .i64 lo) (.string lk) (.string lt') (.string lv))
  clear f0 f1 f2 f3 hlz d0 d1 d2 d3 PL
  generalize World.setCell _ _ _ = w10 at *
  obtain ⟨c0, c1', c2, c3⟩ := HY.out.c4 0 rfl
  go_wp2_with fail
  refine (PH.out _).mono ?_; rintro e w11 ⟨rfl, hb9⟩
  replace HY := Lib.hid (HY.out.later hb9); clear hb9 c0 c1' c2 c3
  obtain ⟨⟨f0, f1, f2, f3⟩, hlz⟩ := HY.out.f4 5 rfl
  obtain ⟨d0, d1, d2, d3⟩ := HY.out.c4 5 rfl
  go_upto_region 18 with fail
  have hp0 := HY.out.four 5 rfl (.int .i64 ho) (.string hk) (.string ht) (.string hv)
  clear HY f0 f1 f2 f3 hlz d0 d1 d2 d3 PH
  generalize w8.heap.size = gl at *
  generalize World.setCell _ _ _ = w12 at *
  have hp : Mt.Fr w [(w.heap.size, 23, #[.int .i64 o, .string k, .string t, .string v]), (w.heap.size + 1, 44, #[.string q, .string y, .bool th]), (w.heap.size + 1 + 1, 53, #[.string a, .string b, .string c]), (gp, 23, #[.int .i64 po, .string pk, .string pt, .string pv]), (gl, 23, #[.int .i64 lo, .string lk, .string lt', .string lv]), (gl + 1, 23, #[.int .i64 ho, .string hk, .string ht, .string hv])] _ := hp0
  clear hp0
  replace hp := hp.drew
  have TM8 := Lib.hid fun (wx : World) (h : Mt.Fr w [(w.heap.size, 23, #[.int .i64 o, .string k, .string t, .string v]), (w.heap.size + 1, 44, #[.string q, .string y, .bool th]), (w.heap.size + 1 + 1, 53, #[.string a, .string b, .string c]), (gp, 23, #[.int .i64 po, .string pk, .string pt, .string pv]), (gl, 23, #[.int .i64 lo, .string lk, .string lt', .string lv]), (gl + 1, 23, #[.int .i64 ho, .string hk, .string ht, .string hv])] wx) => Mt.Fr.carry h (TM.out wx)
  have TL8 := Lib.hid fun (wx : World) (h : Mt.Fr w [(w.heap.size, 23, #[.int .i64 o, .string k, .string t, .string v]), (w.heap.size + 1, 44, #[.string q, .string y, .bool th]), (w.heap.size + 1 + 1, 53, #[.string a, .string b, .string c]), (gp, 23, #[.int .i64 po, .string pk, .string pt, .string pv]), (gl, 23, #[.int .i64 lo, .string lk, .string lt', .string lv]), (gl + 1, 23, #[.int .i64 ho, .string hk, .string ht, .string hv])] wx) => Mt.Fr.carry h (TL.out wx)
  have TH8 := Lib.hid fun (wx : World) (h : Mt.Fr w [(w.heap.size, 23, #[.int .i64 o, .string k, .string t, .string v]), (w.heap.size + 1, 44, #[.string q, .string y, .bool th]), (w.heap.size + 1 + 1, 53, #[.string a, .string b, .string c]), (gp, 23, #[.int .i64 po, .string pk, .string pt, .string pv]), (gl, 23, #[.int .i64 lo, .string lk, .string lt', .string lv]), (gl + 1, 23, #[.int .i64 ho, .string hk, .string ht, .string hv])] wx) => Mt.Fr.carry h (TH.out wx)
  refine wp_region_held_drew (S := (fun wx => (wx.cell? ⟨w.heap.size, 0, none⟩ = some (.int .i64 o) ∧ wx.cell? ⟨w.heap.size, 1, none⟩ = some (.string k) ∧ wx.cell? ⟨w.heap.size, 2, none⟩ = some (.string t) ∧ wx.cell? ⟨w.heap.size, 3, none⟩ = some (.string v)) ∧ (wx.cell? ⟨w.heap.size + 1, 0, none⟩ = some (.string q) ∧ wx.cell? ⟨w.heap.size + 1, 1, none⟩ = some (.string y) ∧ wx.cell? ⟨w.heap.size + 1, 2, none⟩ = some (.bool th)) ∧ (wx.cell? ⟨gl, 0, none⟩ = some (.int .i64 lo) ∧ wx.cell? ⟨gl, 1, none⟩ = some (.string lk) ∧ wx.cell? ⟨gl, 2, none⟩ = some (.string lt') ∧ wx.cell? ⟨gl, 3, none⟩ = some (.string lv)) ∧ (wx.cell? ⟨gl + 1, 0, none⟩ = some (.int .i64 ho) ∧ wx.cell? ⟨gl + 1, 1, none⟩ = some (.string hk) ∧ wx.cell? ⟨gl + 1, 2, none⟩ = some (.string ht) ∧ wx.cell? ⟨gl + 1, 3, none⟩ = some (.string hv)))) (by kernel_rfl) (hp.s18 rfl rfl rfl rfl) (fun hHeld => ?_)
  generalize World.drew _ = w6 at *
  have nn : (c1 != c1) = false := by simp
  refine wpAnyH_take (i := 0) (oi := ⟨some 169, _, _, _, _, _⟩) (v := ?_) rfl (by kernel_rfl) (by kernel_rfl) (by kernel_rfl) (fun _ _ _ h => h) (Or.inl ⟨by rfl, ?_⟩) (by assumption) ?_
  rotate_left 1
  · intro wq hSw; (try dsimp only at hSw); (first | (go_simp; done) | (go_simp; with_reducible rfl))
  try simp only [Act.put, List.setIfInBounds_toArray, List.set_cons_zero, List.set_cons_succ]
  refine wpAnyH_take (i := 1) (oi := ⟨some 170, _, _, _, _, _⟩) (v := ?_) rfl (by kernel_rfl) (by kernel_rfl) (by kernel_rfl) (fun _ _ _ h => h) (Or.inl ⟨by rfl, ?_⟩) (by assumption) ?_
  rotate_left 1
  · intro wq hSw; (try dsimp only at hSw); (first | (go_simp; done) | (go_simp; with_reducible rfl))
  try simp only [Act.put, List.setIfInBounds_toArray, List.set_cons_zero, List.set_cons_succ]
  refine wpAnyH_take (i := 2) (oi := ⟨some 171, _, _, _, _, _⟩) (v := ?_) rfl (by kernel_rfl) (by kernel_rfl) (by kernel_rfl) (fun _ _ _ h => h) (Or.inl ⟨by rfl, ?_⟩) (by assumption) ?_
  rotate_left 1
  · intro wq hSw; (try dsimp only at hSw); (first | (go_simp; done) | (go_simp; with_reducible rfl))
  try simp only [Act.put, List.setIfInBounds_toArray, List.set_cons_zero, List.set_cons_succ]
  refine wpAnyH_take (i := 3) (oi := ⟨some 172, _, _, _, _, _⟩) (v := ?_) rfl (by kernel_rfl) (by kernel_rfl) (by kernel_rfl) (fun _ _ _ h => h) (Or.inl ⟨by rfl, ?_⟩) (by assumption) ?_
  rotate_left 1
  · intro wq hSw; (try dsimp only at hSw); (first | (go_simp; done) | (go_simp; with_reducible rfl))
  try simp only [Act.put, List.setIfInBounds_toArray, List.set_cons_zero, List.set_cons_succ]
  refine wpAnyH_take (i := 4) (oi := ⟨some 173, _, _, _, _, _⟩) (v := ?_) rfl (by kernel_rfl) (by kernel_rfl) (by kernel_rfl) (fun _ _ _ h => h) (Or.inl ⟨by rfl, ?_⟩) (by assumption) ?_
  rotate_left 1
  · intro wq hSw; (try dsimp only at hSw); (first | (go_simp; done) | (go_simp; with_reducible rfl))
  try simp only [Act.put, List.setIfInBounds_toArray, List.set_cons_zero, List.set_cons_succ]
  refine wpAnyH_take (i := 12) (oi := ⟨some 181, _, _, _, _, _⟩) (v := ?_) rfl (by kernel_rfl) (by kernel_rfl) (by kernel_rfl) (fun _ _ _ h => h) (Or.inl ⟨by rfl, ?_⟩) (by assumption) ?_
  rotate_left 1
  · intro wq hSw; (try dsimp only at hSw); (first | (go_simp; done) | (go_simp; with_reducible rfl))
  try simp only [Act.put, List.setIfInBounds_toArray, List.set_cons_zero, List.set_cons_succ]
  refine wpAnyH_take (i := 13) (oi := ⟨some 182, _, _, _, _, _⟩) (v := ?_) rfl (by kernel_rfl) (by kernel_rfl) (by kernel_rfl) (fun _ _ _ h => h) (Or.inl ⟨by rfl, ?_⟩) (by assumption) ?_
  rotate_left 1
  · intro wq hSw; (try dsimp only at hSw); (first | (go_simp; done) | (go_simp; with_reducible rfl))
  try simp only [Act.put, List.setIfInBounds_toArray, List.set_cons_zero, List.set_cons_succ]
  refine wpAnyH_take (i := 14) (oi := ⟨some 183, _, _, _, _, _⟩) (v := ?_) rfl (by kernel_rfl) (by kernel_rfl) (by kernel_rfl) (fun _ _ _ h => h) (Or.inl ⟨by rfl, ?_⟩) (by assumption) ?_
  rotate_left 1
  · intro wq hSw; (try dsimp only at hSw); (first | (go_simp; done) | (go_simp; with_reducible rfl))
  try simp only [Act.put, List.setIfInBounds_toArray, List.set_cons_zero, List.set_cons_succ]
  refine wpAnyH_ready (rs := [5]) (by kernel_rfl) (by simp) ?_
  refine AllReadyH.cons (o := ⟨some 174, _, _, _, _, _⟩) rfl (fun K hK => ?_) AllReadyH.nil
  go_simp
  with_reducible refine (TL8.out _ (by assumption)).mono ?_
  rintro e w1 ⟨rfl, hp⟩
  refine hK.out _ _ ((fun h => Mt.Fr.s18 h rfl rfl rfl rfl) hp) (fun hHeld => ?_)
  clear hK K
  try simp only [Act.put, List.setIfInBounds_toArray, List.set_cons_zero, List.set_cons_succ]
  refine wpAnyH_take (i := 6) (oi := ⟨some 175, _, _, _, _, _⟩) (v := ?_) rfl (by kernel_rfl) (by kernel_rfl) (by kernel_rfl) (fun _ _ _ h => h) (Or.inl ⟨by rfl, ?_⟩) (by assumption) ?_
  rotate_left 1
  · intro wq hSw; (try dsimp only at hSw); (first | (go_simp; done) | (go_simp; with_reducible rfl))
  try simp only [Act.put, List.setIfInBounds_toArray, List.set_cons_zero, List.set_cons_succ]
  refine wpAnyH_take (i := 7) (oi := ⟨some 176, _, _, _, _, _⟩) (v := ?_) rfl (by kernel_rfl) (by kernel_rfl) (by kernel_rfl) (fun _ _ _ h => h) (Or.inl ⟨by rfl, ?_⟩) (by assumption) ?_
  rotate_left 1
  · intro wq hSw; (try dsimp only at hSw); (first | (go_simp; done) | (go_simp; with_reducible rfl))
  try simp only [Act.put, List.setIfInBounds_toArray, List.set_cons_zero, List.set_cons_succ]
  refine wpAnyH_take (i := 8) (oi := ⟨some 177, _, _, _, _, _⟩) (v := ?_) rfl (by kernel_rfl) (by kernel_rfl) (by kernel_rfl) (fun _ _ _ h => h) (Or.inl ⟨by rfl, ?_⟩) (by assumption) ?_
  rotate_left 1
  · intro wq hSw; (try dsimp only at hSw); (first | (go_simp; done) | (go_simp; with_reducible rfl))
  try simp only [Act.put, List.setIfInBounds_toArray, List.set_cons_zero, List.set_cons_succ]
  refine wpAnyH_take (i := 9) (oi := ⟨some 178, _, _, _, _, _⟩) (v := ?_) rfl (by kernel_rfl) (by kernel_rfl) (by kernel_rfl) (fun _ _ _ h => h) (Or.inl ⟨by rfl, ?_⟩) (by assumption) ?_
  rotate_left 1
  · intro wq hSw; (try dsimp only at hSw); (first | (go_simp; done) | (go_simp; with_reducible rfl))
  try simp only [Act.put, List.setIfInBounds_toArray, List.set_cons_zero, List.set_cons_succ]
  refine wpAnyH_ready (rs := [10]) (by kernel_rfl) (by simp) ?_
  refine AllReadyH.cons (o := ⟨some 179, _, _, _, _, _⟩) rfl (fun K hK => ?_) AllReadyH.nil
  go_simp
  with_reducible refine (TH8.out _ (by assumption)).mono ?_
  rintro e w1 ⟨rfl, hp⟩
  refine hK.out _ _ ((fun h => Mt.Fr.s18 h rfl rfl rfl rfl) hp) (fun hHeld => ?_)
  clear hK K
  try simp only [Act.put, List.setIfInBounds_toArray, List.set_cons_zero, List.set_cons_succ]
  refine wpAnyH_take (i := 11) (oi := ⟨some 180, _, _, _, _, _⟩) (v := ?_) rfl (by kernel_rfl) (by kernel_rfl) (by kernel_rfl) (fun _ _ _ h => h) (Or.inl ⟨by rfl, ?_⟩) (by assumption) ?_
  rotate_left 1
  · intro wq hSw; (try dsimp only at hSw); (first | (go_simp; done) | (go_simp; with_reducible rfl))
  try simp only [Act.put, List.setIfInBounds_toArray, List.set_cons_zero, List.set_cons_succ]
  refine wpAnyH_ready (rs := [15]) (by kernel_rfl) (by simp) ?_
  refine AllReadyH.cons (o := ⟨some 184, _, _, _, _, _⟩) rfl (fun K hK => ?_) AllReadyH.nil
  go_simp
  with_reducible refine (TM8.out _ (by assumption)).mono ?_
  rintro e w1 ⟨rfl, hp⟩
  refine hK.out _ _ ((fun h => Mt.Fr.s18 h rfl rfl rfl rfl) hp) (fun hHeld => ?_)
  clear hK K
  try simp only [Act.put, List.setIfInBounds_toArray, List.set_cons_zero, List.set_cons_succ]
  refine wpAnyH_take (i := 16) (oi := ⟨some 185, _, _, _, _, _⟩) (v := ?_) rfl (by kernel_rfl) (by kernel_rfl) (by kernel_rfl) (fun _ _ _ h => h) (Or.inl ⟨by rfl, ?_⟩) (by assumption) ?_
  rotate_left 1
  · intro wq hSw; (try dsimp only at hSw); (first | (go_simp; done) | (go_simp; with_reducible rfl))
  try simp only [Act.put, List.setIfInBounds_toArray, List.set_cons_zero, List.set_cons_succ]
  refine wpAnyH_take (i := 17) (oi := ⟨some 186, _, _, _, _, _⟩) (v := ?_) rfl (by kernel_rfl) (by kernel_rfl) (by kernel_rfl) (fun _ _ _ h => h) (Or.inl ⟨by rfl, ?_⟩) (by assumption) ?_
  rotate_left 1
  · intro wq hSw; (try dsimp only at hSw); (first | (go_simp; done) | (go_simp; with_reducible rfl))
  try simp only [Act.put, List.setIfInBounds_toArray, List.set_cons_zero, List.set_cons_succ]
  refine wpAnyH_take (i := 18) (oi := ⟨some 187, _, _, _, _, _⟩) (v := ?_) rfl (by kernel_rfl) (by kernel_rfl) (by kernel_rfl) (fun _ _ _ h => h) (Or.inl ⟨by rfl, ?_⟩) (by assumption) ?_
  rotate_left 1
  · intro wq hSw; (try dsimp only at hSw); (first | (go_simp; done) | (go_simp; with_reducible rfl))
  try simp only [Act.put, List.setIfInBounds_toArray, List.set_cons_zero, List.set_cons_succ]
  refine wpAnyH_take (i := 19) (oi := ⟨some 188, _, _, _, _, _⟩) (v := ?_) rfl (by kernel_rfl) (by kernel_rfl) (by kernel_rfl) (fun _ _ _ h => h) (Or.inl ⟨by rfl, ?_⟩) (by assumption) ?_
  rotate_left 1
  · intro wq hSw; (try dsimp only at hSw); (first | (go_simp; done) | (go_simp; with_reducible rfl))
  try simp only [Act.put, List.setIfInBounds_toArray, List.set_cons_zero, List.set_cons_succ]
  refine wpAnyH_take (i := 20) (oi := ⟨some 189, _, _, _, _, _⟩) (v := ?_) rfl (by kernel_rfl) (by kernel_rfl) (by kernel_rfl) (fun _ _ _ h => h) (Or.inl ⟨by rfl, ?_⟩) (by assumption) ?_
  rotate_left 1
  · intro wq hSw; (try dsimp only at hSw); (first | (go_simp; done) | (go_simp; with_reducible rfl))
  try simp only [Act.put, List.setIfInBounds_toArray, List.set_cons_zero, List.set_cons_succ]
  refine wpAnyH_take (i := 21) (oi := ⟨some 190, _, _, _, _, _⟩) (v := ?_) rfl (by kernel_rfl) (by kernel_rfl) (by kernel_rfl) (fun _ _ _ h => h) (Or.inl ⟨by rfl, ?_⟩) (by assumption) ?_
  rotate_left 1
  · intro wq hSw; (try dsimp only at hSw); (first | (go_simp; done) | (go_simp; with_reducible rfl))
  try simp only [Act.put, List.setIfInBounds_toArray, List.set_cons_zero, List.set_cons_succ]
  refine wpAnyH_ready (rs := [22]) (by kernel_rfl) (by simp) ?_
  refine AllReadyH.cons (o := ⟨some 191, _, _, _, _, _⟩) rfl (fun K hK => ?_) AllReadyH.nil
  go_simp
  with_reducible refine (TL8.out _ (by assumption)).mono ?_
  rintro e w1 ⟨rfl, hp⟩
  refine hK.out _ _ ((fun h => Mt.Fr.s18 h rfl rfl rfl rfl) hp) (fun hHeld => ?_)
  clear hK K
  try simp only [Act.put, List.setIfInBounds_toArray, List.set_cons_zero, List.set_cons_succ]
  refine wpAnyH_take (i := 23) (oi := ⟨some 192, _, _, _, _, _⟩) (v := ?_) rfl (by kernel_rfl) (by kernel_rfl) (by kernel_rfl) (fun _ _ _ h => h) (Or.inl ⟨by rfl, ?_⟩) (by assumption) ?_
  rotate_left 1
  · intro wq hSw; (try dsimp only at hSw); (first | (go_simp; done) | (go_simp; with_reducible rfl))
  try simp only [Act.put, List.setIfInBounds_toArray, List.set_cons_zero, List.set_cons_succ]
  refine wpAnyH_take (i := 24) (oi := ⟨some 193, _, _, _, _, _⟩) (v := undef) rfl (by kernel_rfl) (by kernel_rfl) (by kernel_rfl) (fun _ _ _ h => h) (Or.inr ⟨by rfl, rfl⟩) (by assumption) ?_
  try simp only [Act.put, List.setIfInBounds_toArray, List.set_cons_zero, List.set_cons_succ]
  refine wpAnyH_take (i := 25) (oi := ⟨some 194, _, _, _, _, _⟩) (v := undef) rfl (by kernel_rfl) (by kernel_rfl) (by kernel_rfl) (fun _ _ _ h => h) (Or.inr ⟨by rfl, rfl⟩) (by assumption) ?_
  try simp only [Act.put, List.setIfInBounds_toArray, List.set_cons_zero, List.set_cons_succ]
  refine wpAnyH_take (i := 26) (oi := ⟨some 195, _, _, _, _, _⟩) (v := undef) rfl (by kernel_rfl) (by kernel_rfl) (by kernel_rfl) (fun _ _ _ h => h) (Or.inr ⟨by rfl, rfl⟩) (by assumption) ?_
  try simp only [Act.put, List.setIfInBounds_toArray, List.set_cons_zero, List.set_cons_succ]
  refine wpAnyH_take (i := 27) (oi := ⟨some 196, _, _, _, _, _⟩) (v := undef) rfl (by kernel_rfl) (by kernel_rfl) (by kernel_rfl) (fun _ _ _ h => h) (Or.inr ⟨by rfl, rfl⟩) (by assumption) ?_
  try simp only [Act.put, List.setIfInBounds_toArray, List.set_cons_zero, List.set_cons_succ]
  refine wpAnyH_take (i := 28) (oi := ⟨some 197, _, _, _, _, _⟩) (v := ?_) rfl (by kernel_rfl) (by kernel_rfl) (by kernel_rfl) (fun _ _ _ h => h) (Or.inl ⟨by rfl, ?_⟩) (by assumption) ?_
  rotate_left 1
  · intro wq hSw; (try dsimp only at hSw); (first | (go_simp; done) | (go_simp; with_reducible rfl))
  try simp only [Act.put, List.setIfInBounds_toArray, List.set_cons_zero, List.set_cons_succ]
  refine wpAnyH_take (i := 29) (oi := ⟨some 198, _, _, _, _, _⟩) (v := ?_) rfl (by kernel_rfl) (by kernel_rfl) (by kernel_rfl) (fun _ _ _ h => h) (Or.inl ⟨by rfl, ?_⟩) (by assumption) ?_
  rotate_left 1
  · intro wq hSw; (try dsimp only at hSw); (first | (go_simp; done) | (go_simp; with_reducible rfl))
  try simp only [Act.put, List.setIfInBounds_toArray, List.set_cons_zero, List.set_cons_succ]
  refine wpAnyH_done (by kernel_rfl) ?_ _
  clear TL TH TL8 TH8 TM8 hHeld
  have HX := Lib.hid hp; clear hp
  obtain ⟨c0, c1', c2, c3⟩ := HX.out.c4 0 rfl
  obtain ⟨d0, d1, d2⟩ := HX.out.c3 1 rfl
  go_wp2_with fail
  refine (TM.out _).mono ?_; rintro e w7 ⟨rfl, hb7⟩
  replace HX := Lib.hid (HX.out.later hb7); clear hb7 c0 c1' c2 c3 d0 d1 d2
  obtain ⟨c0, c1', c2, c3⟩ := HX.out.c4 0 rfl
  obtain ⟨d0, d1, d2⟩ := HX.out.c3 1 rfl
  have ee : (th == th) = true := by simp
  have e2 : (v.toList == v.toList) = true := by simp
  rcases DF.out with ⟨rfl, rfl⟩ | ⟨rfl, ⟨rfl, rfl, rfl⟩ | ⟨rfl, rfl, rfl⟩ | ⟨rfl, rfl, rfl⟩ | rfl⟩
  all_goals
    go_wp2_with fail
    refine (AW.out _).mono ?_; rintro e w9 ⟨rfl, hb9⟩
    replace HX := Lib.hid (HX.out.later hb9); clear hb9
    go_wp2_with fail
    go_ret
    exact ⟨rfl, HX.out.below⟩
set_option maxHeartbeats 32000000 in
theorem range_in011 (o po lo ho : Int) (k t v q y a b c f d pk pt pv lk lt' lv hk ht hv A1 A2 : ByteArray) (th B1 B2 c1 h1 : Bool) (w : World) (hq : q.size ≤ 1000) (hy : y.size ≤ 1000) (ha : a.size ≤ 108) (hb : b.size ≤ 108) (hc : c.size ≤ 108)
    (Mn : ∀ ts ty w, (Builtin.min_ ts ty #[.string a, .string b]).run Tryz.prog w = .ok (.string f) w) (Mx : ∀ ts ty w, (Builtin.max_ ts ty #[.string a, .string b]).run Tryz.prog w = .ok (.string d) w)
    (AW : Hid (∀ w, Calls Tryz.prog 11 #[] w fun e w' => e = .returned (.bool true) ∧ Below w.heap.size w w'))
    (FE : Hid (∀ w, Calls Tryz.prog 10 #[.agg #[.int .i64 o, .string k, .string t, .string v]] w fun e w' => e = .returned (.bool true) ∧ Below w.heap.size w w'))
    (k1 : c.toList = []) (k2 : c.toList.isEmpty = true)
    (k4 : Op.bytesLess q.toList f.toList = false)
    (k6 : ¬ d.toList = []) (k7 : d.toList.isEmpty = false)
    (bl : Bool) (PL : Hid (∀ w, Calls Tryz.prog 18 #[.agg #[.int .i64 o, .string k, .string t, .string v], .string f, .string d] w fun e w' => e = .returned (.tuple #[.agg #[.int .i64 lo, .string lk, .string lt', .string lv], .bool bl]) ∧ Below w.heap.size w w'))
    (bp : Bool) (PP : Hid (∀ w, Calls Tryz.prog 18 #[.agg #[.int .i64 o, .string k, .string t, .string v], .string f, .string c] w fun e w' => e = .returned (.tuple #[.agg #[.int .i64 po, .string pk, .string pt, .string pv], .bool bp]) ∧ Below w.heap.size w w'))
    (bh : Bool) (PH : Hid (∀ w, Calls Tryz.prog 18 #[.agg #[.int .i64 o, .string k, .string t, .string v], .string d, .string c] w fun e w' => e = .returned (.tuple #[.agg #[.int .i64 ho, .string hk, .string ht, .string hv], .bool bh]) ∧ Below w.heap.size w w'))
    (hc1 : c1 = true)
    (TM : Hid (∀ w, Calls Tryz.prog 20 #[.agg #[.int .i64 o, .string k, .string t, .string v], .string q] w fun e w' => e = .returned (.bool c1) ∧ Below w.heap.size w w'))
    (TP : Hid (∀ w, Calls Tryz.prog 20 #[.agg #[.int .i64 po, .string pk, .string pt, .string pv], .string q] w fun e w' => e = .returned (.bool c1) ∧ Below w.heap.size w w'))
    (TL : Hid (∀ w, Calls Tryz.prog 20 #[.agg #[.int .i64 lo, .string lk, .string lt', .string lv], .string q] w fun e w' => e = .returned (.bool true) ∧ Below w.heap.size w w'))
    (TH : Hid (∀ w, Calls Tryz.prog 20 #[.agg #[.int .i64 ho, .string hk, .string ht, .string hv], .string q] w fun e w' => e = .returned (.bool false) ∧ Below w.heap.size w w'))
    (AM : Hid (∀ w, Calls Tryz.prog 22 #[.agg #[.int .i64 o, .string k, .string t, .string v], .string q, .string y, .bool th] w fun e w' => e = .returned (.tuple #[.string A1, .bool B1]) ∧ Below w.heap.size w w'))
    (AP : Hid (∀ w, Calls Tryz.prog 22 #[.agg #[.int .i64 po, .string pk, .string pt, .string pv], .string q, .string y, .bool th] w fun e w' => e = .returned (.tuple #[.string A1, .bool B1]) ∧ Below w.heap.size w w'))
    (DF : Hid (c1 = false ∧ B1 = th ∨ c1 = true ∧ (o = 1 ∧ B1 = true ∧ A1 = v ∨ o = 2 ∧ B1 = false ∧ A1 = ⟨#[]⟩ ∨ o = 3 ∧ B1 = false ∧ A1 = ⟨#[]⟩ ∨ o = 4))) :
    Calls Tryz.prog 9 #[.agg #[.int .i64 o, .string k, .string t, .string v], .agg #[.string q, .string y, .bool th], .agg #[.string a, .string b, .string c]] w fun e w' => e = .returned (.bool true) ∧ Below w.heap.size w w' := by
  subst hc1
  have HX := Lib.hid (fr3 w #[.int .i64 o, .string k, .string t, .string v] #[.string q, .string y, .bool th] #[.string a, .string b, .string c])
  go_enter Tryz.func9, Tryz.ntmps9
  go_wp2_with fail
  refine (FE.out _).mono ?_; rintro e w1 ⟨rfl, hb1⟩
  replace HX := Lib.hid (HX.out.later hb1); clear hb1
  obtain ⟨c0, c1', c2⟩ := HX.out.c3 1 rfl
  obtain ⟨d0, d1, d2⟩ := HX.out.c3 2 rfl
  have dlt := (HX.out.at 2 rfl).lt
  go_upto_region 3 with fail
  have hp := HX.out.drew
  clear HX c0 c1' c2
  refine wp_region_held_drew (S := (fun wx => (wx.cell? ⟨w.heap.size + 1 + 1, 0, none⟩ = some (.string a) ∧ wx.cell? ⟨w.heap.size + 1 + 1, 1, none⟩ = some (.string b) ∧ wx.cell? ⟨w.heap.size + 1 + 1, 2, none⟩ = some (.string c)))) (by kernel_rfl) (hp.s3 2 rfl) (fun hHeld => ?_)
  generalize World.drew _ = w3 at *
  refine wpAnyH_take (i := 0) (oi := ⟨some 53, _, _, _, _, _⟩) (v := ?_) rfl (by kernel_rfl) (by kernel_rfl) (by kernel_rfl) (fun _ _ _ h => h) (Or.inl ⟨by rfl, ?_⟩) (by assumption) ?_
  rotate_left 1
  · intro wq hSw; (try dsimp only at hSw); (first | (go_simp; done) | (go_simp; with_reducible rfl))
  try simp only [Act.put, List.setIfInBounds_toArray, List.set_cons_zero, List.set_cons_succ]
  refine wpAnyH_take (i := 1) (oi := ⟨some 54, _, _, _, _, _⟩) (v := ?_) rfl (by kernel_rfl) (by kernel_rfl) (by kernel_rfl) (fun _ _ _ h => h) (Or.inl ⟨by rfl, ?_⟩) (by assumption) ?_
  rotate_left 1
  · intro wq hSw; (try dsimp only at hSw); (first | (go_simp; done) | (go_simp; with_reducible rfl))
  try simp only [Act.put, List.setIfInBounds_toArray, List.set_cons_zero, List.set_cons_succ]
  refine wpAnyH_take (i := 2) (oi := ⟨some 55, _, _, _, _, _⟩) (v := ?_) rfl (by kernel_rfl) (by kernel_rfl) (by kernel_rfl) (fun _ _ _ h => h) (Or.inl ⟨by rfl, ?_⟩) (by assumption) ?_
  rotate_left 1
  · intro wq hSw; (try dsimp only at hSw); (first | (go_simp; done) | (go_simp; with_reducible rfl))
  try simp only [Act.put, List.setIfInBounds_toArray, List.set_cons_zero, List.set_cons_succ]
  refine wpAnyH_take (i := 3) (oi := ⟨some 56, _, _, _, _, _⟩) (v := ?_) rfl (by kernel_rfl) (by kernel_rfl) (by kernel_rfl) (fun _ _ _ h => h) (Or.inl ⟨by rfl, ?_⟩) (by assumption) ?_
  rotate_left 1
  · intro wq hSw; (try dsimp only at hSw); (first | (go_simp; done) | (go_simp; with_reducible rfl))
  try simp only [Act.put, List.setIfInBounds_toArray, List.set_cons_zero, List.set_cons_succ]
  refine wpAnyH_take (i := 4) (oi := ⟨some 57, _, _, _, _, _⟩) (v := ?_) rfl (by kernel_rfl) (by kernel_rfl) (by kernel_rfl) (fun _ _ _ h => h) (Or.inl ⟨by rfl, ?_⟩) (by assumption) ?_
  rotate_left 1
  · intro wq hSw; (try dsimp only at hSw); (first | (go_simp; done) | (go_simp; with_reducible rfl))
  try simp only [Act.put, List.setIfInBounds_toArray, List.set_cons_zero, List.set_cons_succ]
  refine wpAnyH_take (i := 5) (oi := ⟨some 58, _, _, _, _, _⟩) (v := ?_) rfl (by kernel_rfl) (by kernel_rfl) (by kernel_rfl) (fun _ _ _ h => h) (Or.inl ⟨by rfl, ?_⟩) (by assumption) ?_
  rotate_left 1
  · intro wq hSw; (try dsimp only at hSw); (first | (go_simp; done) | (go_simp; with_reducible rfl))
  try simp only [Act.put, List.setIfInBounds_toArray, List.set_cons_zero, List.set_cons_succ]
  refine wpAnyH_take (i := 6) (oi := ⟨some 59, _, _, _, _, _⟩) (v := ?_) rfl (by kernel_rfl) (by kernel_rfl) (by kernel_rfl) (fun _ _ _ h => h) (Or.inl ⟨by rfl, ?_⟩) (by assumption) ?_
  rotate_left 1
  · intro wq hSw; (try dsimp only at hSw); (first | (go_simp; done) | (go_simp; with_reducible rfl))
  try simp only [Act.put, List.setIfInBounds_toArray, List.set_cons_zero, List.set_cons_succ]
  refine wpAnyH_take (i := 7) (oi := ⟨some 60, _, _, _, _, _⟩) (v := ?_) rfl (by kernel_rfl) (by kernel_rfl) (by kernel_rfl) (fun _ _ _ h => h) (Or.inl ⟨by rfl, ?_⟩) (by assumption) ?_
  rotate_left 1
  · intro wq hSw; (try dsimp only at hSw); (first | (go_simp; done) | (go_simp; with_reducible rfl))
  try simp only [Act.put, List.setIfInBounds_toArray, List.set_cons_zero, List.set_cons_succ]
  refine wpAnyH_take (i := 8) (oi := ⟨some 61, _, _, _, _, _⟩) (v := ?_) rfl (by kernel_rfl) (by kernel_rfl) (by kernel_rfl) (fun _ _ _ h => h) (Or.inl ⟨by rfl, ?_⟩) (by assumption) ?_
  rotate_left 1
  · intro wq hSw; (try dsimp only at hSw); (first | (go_simp; done) | (go_simp; with_reducible rfl))
  try simp only [Act.put, List.setIfInBounds_toArray, List.set_cons_zero, List.set_cons_succ]
  refine wpAnyH_take (i := 9) (oi := ⟨some 62, _, _, _, _, _⟩) (v := ?_) rfl (by kernel_rfl) (by kernel_rfl) (by kernel_rfl) (fun _ _ _ h => h) (Or.inl ⟨by rfl, ?_⟩) (by assumption) ?_
  rotate_left 1
  · intro wq hSw; (try dsimp only at hSw); (first | (go_simp; done) | (go_simp; with_reducible rfl))
  try simp only [Act.put, List.setIfInBounds_toArray, List.set_cons_zero, List.set_cons_succ]
  refine wpAnyH_take (i := 10) (oi := ⟨some 63, _, _, _, _, _⟩) (v := ?_) rfl (by kernel_rfl) (by kernel_rfl) (by kernel_rfl) (fun _ _ _ h => h) (Or.inl ⟨by rfl, ?_⟩) (by assumption) ?_
  rotate_left 1
  · intro wq hSw; (try dsimp only at hSw); (first | (go_simp; done) | (go_simp; with_reducible rfl))
  try simp only [Act.put, List.setIfInBounds_toArray, List.set_cons_zero, List.set_cons_succ]
  refine wpAnyH_take (i := 11) (oi := ⟨some 64, _, _, _, _, _⟩) (v := ?_) rfl (by kernel_rfl) (by kernel_rfl) (by kernel_rfl) (fun _ _ _ h => h) (Or.inl ⟨by rfl, ?_⟩) (by assumption) ?_
  rotate_left 1
  · intro wq hSw; (try dsimp only at hSw); (first | (go_simp; done) | (go_simp; with_reducible rfl))
  try simp only [Act.put, List.setIfInBounds_toArray, List.set_cons_zero, List.set_cons_succ]
  refine wpAnyH_take (i := 12) (oi := ⟨some 7, _, _, _, _, _⟩) (v := ?_) rfl (by kernel_rfl) (by kernel_rfl) (by kernel_rfl) (fun _ _ _ h => h) (Or.inl ⟨by rfl, ?_⟩) (by assumption) ?_
  rotate_left 1
  · intro wq hSw; (try dsimp only at hSw); (first | (go_simp; done) | (go_simp; with_reducible rfl))
  try simp only [Act.put, List.setIfInBounds_toArray, List.set_cons_zero, List.set_cons_succ]
  refine wpAnyH_take (i := 13) (oi := ⟨some 8, _, _, _, _, _⟩) (v := ?_) rfl (by kernel_rfl) (by kernel_rfl) (by kernel_rfl) (fun _ _ _ h => h) (Or.inl ⟨by rfl, ?_⟩) (by assumption) ?_
  rotate_left 1
  · intro wq hSw; (try dsimp only at hSw); (first | (go_simp; done) | (go_simp; with_reducible rfl))
  try simp only [Act.put, List.setIfInBounds_toArray, List.set_cons_zero, List.set_cons_succ]
  refine wpAnyH_take (i := 14) (oi := ⟨some 9, _, _, _, _, _⟩) (v := ?_) rfl (by kernel_rfl) (by kernel_rfl) (by kernel_rfl) (fun _ _ _ h => h) (Or.inl ⟨by rfl, ?_⟩) (by assumption) ?_
  rotate_left 1
  · intro wq hSw; (try dsimp only at hSw); (first | (go_simp; done) | (go_simp; with_reducible rfl))
  try simp only [Act.put, List.setIfInBounds_toArray, List.set_cons_zero, List.set_cons_succ]
  refine wpAnyH_done (by kernel_rfl) ?_ _
  clear d0 d1 d2 dlt Mn Mx hHeld
  have HX := Lib.hid hp; clear hp
  obtain ⟨c0, c1', c2, c3⟩ := HX.out.c4 0 rfl
  obtain ⟨d0, d1, d2⟩ := HX.out.c3 1 rfl
  go_wp2_with fail
  refine (PP.out _).mono ?_; rintro e w4 ⟨rfl, hb4⟩
  replace HX := Lib.hid ((HX.out.later hb4).new 23 #[.int .i64 po, .string pk, .string pt, .string pv]); clear hb4 c0 c1' c2 c3 d0 d1 d2
  go_upto_region 8 with fail
  have hp : Mt.Fr w [(w.heap.size, 23, #[.int .i64 o, .string k, .string t, .string v]), (w.heap.size + 1, 44, #[.string q, .string y, .bool th]), (w.heap.size + 1 + 1, 53, #[.string a, .string b, .string c]), (w4.heap.size, 23, #[.int .i64 po, .string pk, .string pt, .string pv])] _ := HX.out
  clear HX PP
  generalize w4.heap.size = gp at *
  generalize w4.alloc _ = w5 at *
  clear w4
  replace hp := hp.drew
  have TM8 := Lib.hid fun (wx : World) (h : Mt.Fr w [(w.heap.size, 23, #[.int .i64 o, .string k, .string t, .string v]), (w.heap.size + 1, 44, #[.string q, .string y, .bool th]), (w.heap.size + 1 + 1, 53, #[.string a, .string b, .string c]), (gp, 23, #[.int .i64 po, .string pk, .string pt, .string pv])] wx) => Mt.Fr.carry h (TM.out wx)
  have TP8 := Lib.hid fun (wx : World) (h : Mt.Fr w [(w.heap.size, 23, #[.int .i64 o, .string k, .string t, .string v]), (w.heap.size + 1, 44, #[.string q, .string y, .bool th]), (w.heap.size + 1 + 1, 53, #[.string a, .string b, .string c]), (gp, 23, #[.int .i64 po, .string pk, .string pt, .string pv])] wx) => Mt.Fr.carry h (TP.out wx)
  refine wp_region_held_drew (S := (fun wx => (wx.cell? ⟨w.heap.size, 0, none⟩ = some (.int .i64 o) ∧ wx.cell? ⟨w.heap.size, 1, none⟩ = some (.string k) ∧ wx.cell? ⟨w.heap.size, 2, none⟩ = some (.string t) ∧ wx.cell? ⟨w.heap.size, 3, none⟩ = some (.string v)) ∧ (wx.cell? ⟨w.heap.size + 1, 0, none⟩ = some (.string q) ∧ wx.cell? ⟨w.heap.size + 1, 1, none⟩ = some (.string y) ∧ wx.cell? ⟨w.heap.size + 1, 2, none⟩ = some (.bool th)) ∧ (wx.cell? ⟨gp, 0, none⟩ = some (.int .i64 po) ∧ wx.cell? ⟨gp, 1, none⟩ = some (.string pk) ∧ wx.cell? ⟨gp, 2, none⟩ = some (.string pt) ∧ wx.cell? ⟨gp, 3, none⟩ = some (.string pv)))) (by kernel_rfl) (hp.s8 rfl rfl rfl) (fun hHeld => ?_)
  generalize World.drew _ = w6 at *
  refine wpAnyH_take (i := 0) (oi := ⟨some 94, _, _, _, _, _⟩) (v := ?_) rfl (by kernel_rfl) (by kernel_rfl) (by kernel_rfl) (fun _ _ _ h => h) (Or.inl ⟨by rfl, ?_⟩) (by assumption) ?_
  rotate_left 1
  · intro wq hSw; (try dsimp only at hSw); (first | (go_simp; done) | (go_simp; with_reducible rfl))
  try simp only [Act.put, List.setIfInBounds_toArray, List.set_cons_zero, List.set_cons_succ]
  refine wpAnyH_take (i := 1) (oi := ⟨some 95, _, _, _, _, _⟩) (v := ?_) rfl (by kernel_rfl) (by kernel_rfl) (by kernel_rfl) (fun _ _ _ h => h) (Or.inl ⟨by rfl, ?_⟩) (by assumption) ?_
  rotate_left 1
  · intro wq hSw; (try dsimp only at hSw); (first | (go_simp; done) | (go_simp; with_reducible rfl))
  try simp only [Act.put, List.setIfInBounds_toArray, List.set_cons_zero, List.set_cons_succ]
  refine wpAnyH_take (i := 2) (oi := ⟨some 96, _, _, _, _, _⟩) (v := ?_) rfl (by kernel_rfl) (by kernel_rfl) (by kernel_rfl) (fun _ _ _ h => h) (Or.inl ⟨by rfl, ?_⟩) (by assumption) ?_
  rotate_left 1
  · intro wq hSw; (try dsimp only at hSw); (first | (go_simp; done) | (go_simp; with_reducible rfl))
  try simp only [Act.put, List.setIfInBounds_toArray, List.set_cons_zero, List.set_cons_succ]
  refine wpAnyH_take (i := 3) (oi := ⟨some 97, _, _, _, _, _⟩) (v := ?_) rfl (by kernel_rfl) (by kernel_rfl) (by kernel_rfl) (fun _ _ _ h => h) (Or.inl ⟨by rfl, ?_⟩) (by assumption) ?_
  rotate_left 1
  · intro wq hSw; (try dsimp only at hSw); (first | (go_simp; done) | (go_simp; with_reducible rfl))
  try simp only [Act.put, List.setIfInBounds_toArray, List.set_cons_zero, List.set_cons_succ]
  refine wpAnyH_take (i := 4) (oi := ⟨some 98, _, _, _, _, _⟩) (v := ?_) rfl (by kernel_rfl) (by kernel_rfl) (by kernel_rfl) (fun _ _ _ h => h) (Or.inl ⟨by rfl, ?_⟩) (by assumption) ?_
  rotate_left 1
  · intro wq hSw; (try dsimp only at hSw); (first | (go_simp; done) | (go_simp; with_reducible rfl))
  try simp only [Act.put, List.setIfInBounds_toArray, List.set_cons_zero, List.set_cons_succ]
  refine wpAnyH_take (i := 5) (oi := ⟨some 99, _, _, _, _, _⟩) (v := ?_) rfl (by kernel_rfl) (by kernel_rfl) (by kernel_rfl) (fun _ _ _ h => h) (Or.inl ⟨by rfl, ?_⟩) (by assumption) ?_
  rotate_left 1
  · intro wq hSw; (try dsimp only at hSw); (first | (go_simp; done) | (go_simp; with_reducible rfl))
  try simp only [Act.put, List.setIfInBounds_toArray, List.set_cons_zero, List.set_cons_succ]
  refine wpAnyH_take (i := 7) (oi := ⟨some 101, _, _, _, _, _⟩) (v := ?_) rfl (by kernel_rfl) (by kernel_rfl) (by kernel_rfl) (fun _ _ _ h => h) (Or.inl ⟨by rfl, ?_⟩) (by assumption) ?_
  rotate_left 1
  · intro wq hSw; (try dsimp only at hSw); (first | (go_simp; done) | (go_simp; with_reducible rfl))
  try simp only [Act.put, List.setIfInBounds_toArray, List.set_cons_zero, List.set_cons_succ]
  refine wpAnyH_take (i := 8) (oi := ⟨some 102, _, _, _, _, _⟩) (v := ?_) rfl (by kernel_rfl) (by kernel_rfl) (by kernel_rfl) (fun _ _ _ h => h) (Or.inl ⟨by rfl, ?_⟩) (by assumption) ?_
  rotate_left 1
  · intro wq hSw; (try dsimp only at hSw); (first | (go_simp; done) | (go_simp; with_reducible rfl))
  try simp only [Act.put, List.setIfInBounds_toArray, List.set_cons_zero, List.set_cons_succ]
  refine wpAnyH_take (i := 9) (oi := ⟨some 103, _, _, _, _, _⟩) (v := ?_) rfl (by kernel_rfl) (by kernel_rfl) (by kernel_rfl) (fun _ _ _ h => h) (Or.inl ⟨by rfl, ?_⟩) (by assumption) ?_
  rotate_left 1
  · intro wq hSw; (try dsimp only at hSw); (first | (go_simp; done) | (go_simp; with_reducible rfl))
  try simp only [Act.put, List.setIfInBounds_toArray, List.set_cons_zero, List.set_cons_succ]
  refine wpAnyH_ready (rs := [6]) (by kernel_rfl) (by simp) ?_
  refine AllReadyH.cons (o := ⟨some 100, _, _, _, _, _⟩) rfl (fun K hK => ?_) AllReadyH.nil
  go_simp
  with_reducible refine (TM8.out _ (by assumption)).mono ?_
  rintro e w1 ⟨rfl, hp⟩
  refine hK.out _ _ ((fun h => Mt.Fr.s8 h rfl rfl rfl) hp) (fun hHeld => ?_)
  clear hK K
  try simp only [Act.put, List.setIfInBounds_toArray, List.set_cons_zero, List.set_cons_succ]
  refine wpAnyH_ready (rs := [10]) (by kernel_rfl) (by simp) ?_
  refine AllReadyH.cons (o := ⟨some 104, _, _, _, _, _⟩) rfl (fun K hK => ?_) AllReadyH.nil
  go_simp
  with_reducible refine (TP8.out _ (by assumption)).mono ?_
  rintro e w1 ⟨rfl, hp⟩
  refine hK.out _ _ ((fun h => Mt.Fr.s8 h rfl rfl rfl) hp) (fun hHeld => ?_)
  clear hK K
  try simp only [Act.put, List.setIfInBounds_toArray, List.set_cons_zero, List.set_cons_succ]
  refine wpAnyH_take (i := 11) (oi := ⟨some 105, _, _, _, _, _⟩) (v := ?_) rfl (by kernel_rfl) (by kernel_rfl) (by kernel_rfl) (fun _ _ _ h => h) (Or.inl ⟨by rfl, ?_⟩) (by assumption) ?_
  rotate_left 1
  · intro wq hSw; (try dsimp only at hSw); (first | (go_simp; done) | (go_simp; with_reducible rfl))
  try simp only [Act.put, List.setIfInBounds_toArray, List.set_cons_zero, List.set_cons_succ]
  refine wpAnyH_take (i := 12) (oi := ⟨some 106, _, _, _, _, _⟩) (v := ?_) rfl (by kernel_rfl) (by kernel_rfl) (by kernel_rfl) (fun _ _ _ h => h) (Or.inl ⟨by rfl, ?_⟩) (by assumption) ?_
  rotate_left 1
  · intro wq hSw; (try dsimp only at hSw); (first | (go_simp; done) | (go_simp; with_reducible rfl))
  try simp only [Act.put, List.setIfInBounds_toArray, List.set_cons_zero, List.set_cons_succ]
  refine wpAnyH_take (i := 13) (oi := ⟨some 107, _, _, _, _, _⟩) (v := ?_) rfl (by kernel_rfl) (by kernel_rfl) (by kernel_rfl) (fun _ _ _ h => h) (Or.inl ⟨by rfl, ?_⟩) (by assumption) ?_
  rotate_left 1
  · intro wq hSw; (try dsimp only at hSw); (first | (go_simp; done) | (go_simp; with_reducible rfl))
  try simp only [Act.put, List.setIfInBounds_toArray, List.set_cons_zero, List.set_cons_succ]
  refine wpAnyH_take (i := 14) (oi := ⟨some 108, _, _, _, _, _⟩) (v := ?_) rfl (by kernel_rfl) (by kernel_rfl) (by kernel_rfl) (fun _ _ _ h => h) (Or.inl ⟨by rfl, ?_⟩) (by assumption) ?_
  rotate_left 1
  · intro wq hSw; (try dsimp only at hSw); (first | (go_simp; done) | (go_simp; with_reducible rfl))
  try simp only [Act.put, List.setIfInBounds_toArray, List.set_cons_zero, List.set_cons_succ]
  refine wpAnyH_take (i := 15) (oi := ⟨some 109, _, _, _, _, _⟩) (v := ?_) rfl (by kernel_rfl) (by kernel_rfl) (by kernel_rfl) (fun _ _ _ h => h) (Or.inl ⟨by rfl, ?_⟩) (by assumption) ?_
  rotate_left 1
  · intro wq hSw; (try dsimp only at hSw); (first | (go_simp; done) | (go_simp; with_reducible rfl))
  try simp only [Act.put, List.setIfInBounds_toArray, List.set_cons_zero, List.set_cons_succ]
  refine wpAnyH_take (i := 16) (oi := ⟨some 110, _, _, _, _, _⟩) (v := ?_) rfl (by kernel_rfl) (by kernel_rfl) (by kernel_rfl) (fun _ _ _ h => h) (Or.inl ⟨by rfl, ?_⟩) (by assumption) ?_
  rotate_left 1
  · intro wq hSw; (try dsimp only at hSw); (first | (go_simp; done) | (go_simp; with_reducible rfl))
  try simp only [Act.put, List.setIfInBounds_toArray, List.set_cons_zero, List.set_cons_succ]
  refine wpAnyH_take (i := 17) (oi := ⟨some 111, _, _, _, _, _⟩) (v := ?_) rfl (by kernel_rfl) (by kernel_rfl) (by kernel_rfl) (fun _ _ _ h => h) (Or.inl ⟨by rfl, ?_⟩) (by assumption) ?_
  rotate_left 1
  · intro wq hSw; (try dsimp only at hSw); (first | (go_simp; done) | (go_simp; with_reducible rfl))
  try simp only [Act.put, List.setIfInBounds_toArray, List.set_cons_zero, List.set_cons_succ]
  refine wpAnyH_take (i := 18) (oi := ⟨some 112, _, _, _, _, _⟩) (v := undef) rfl (by kernel_rfl) (by kernel_rfl) (by kernel_rfl) (fun _ _ _ h => h) (Or.inr ⟨by rfl, rfl⟩) (by assumption) ?_
  try simp only [Act.put, List.setIfInBounds_toArray, List.set_cons_zero, List.set_cons_succ]
  refine wpAnyH_take (i := 19) (oi := ⟨some 113, _, _, _, _, _⟩) (v := undef) rfl (by kernel_rfl) (by kernel_rfl) (by kernel_rfl) (fun _ _ _ h => h) (Or.inr ⟨by rfl, rfl⟩) (by assumption) ?_
  try simp only [Act.put, List.setIfInBounds_toArray, List.set_cons_zero, List.set_cons_succ]
  refine wpAnyH_take (i := 20) (oi := ⟨some 114, _, _, _, _, _⟩) (v := undef) rfl (by kernel_rfl) (by kernel_rfl) (by kernel_rfl) (fun _ _ _ h => h) (Or.inr ⟨by rfl, rfl⟩) (by assumption) ?_
  try simp only [Act.put, List.setIfInBounds_toArray, List.set_cons_zero, List.set_cons_succ]
  refine wpAnyH_take (i := 21) (oi := ⟨some 115, _, _, _, _, _⟩) (v := undef) rfl (by kernel_rfl) (by kernel_rfl) (by kernel_rfl) (fun _ _ _ h => h) (Or.inr ⟨by rfl, rfl⟩) (by assumption) ?_
  try simp only [Act.put, List.setIfInBounds_toArray, List.set_cons_zero, List.set_cons_succ]
  refine wpAnyH_take (i := 22) (oi := ⟨some 116, _, _, _, _, _⟩) (v := ?_) rfl (by kernel_rfl) (by kernel_rfl) (by kernel_rfl) (fun _ _ _ h => h) (Or.inl ⟨by rfl, ?_⟩) (by assumption) ?_
  rotate_left 1
  · intro wq hSw; (try dsimp only at hSw); (first | (go_simp; done) | (go_simp; with_reducible rfl))
  try simp only [Act.put, List.setIfInBounds_toArray, List.set_cons_zero, List.set_cons_succ]
  refine wpAnyH_take (i := 23) (oi := ⟨some 117, _, _, _, _, _⟩) (v := ?_) rfl (by kernel_rfl) (by kernel_rfl) (by kernel_rfl) (fun _ _ _ h => h) (Or.inl ⟨by rfl, ?_⟩) (by assumption) ?_
  rotate_left 1
  · intro wq hSw; (try dsimp only at hSw); (first | (go_simp; done) | (go_simp; with_reducible rfl))
  try simp only [Act.put, List.setIfInBounds_toArray, List.set_cons_zero, List.set_cons_succ]
  refine wpAnyH_done (by kernel_rfl) ?_ _
  clear TP TP8 TM8 hHeld
  have HX := Lib.hid hp; clear hp
  obtain ⟨c0, c1', c2, c3⟩ := HX.out.c4 0 rfl
  obtain ⟨d0, d1, d2⟩ := HX.out.c3 1 rfl
  go_wp2_with fail
  refine (AM.out _).mono ?_; rintro e w7 ⟨rfl, hb7⟩
  replace HX := Lib.hid (HX.out.later hb7); clear hb7 c0 c1' c2 c3 d0 d1 d2
  obtain ⟨c0, c1', c2, c3⟩ := HX.out.c4 3 rfl
  obtain ⟨d0, d1, d2⟩ := HX.out.c3 1 rfl
  go_wp2_with fail
  refine (AP.out _).mono ?_; rintro e w8 ⟨rfl, hb8⟩
  replace HX := Lib.hid (HX.out.later hb8); clear hb8 c0 c1' c2 c3 d0 d1 d2 AM AP
  have ne : (B1 != B1) = false := by simp
  have ne2 : (A1.toList != A1.toList) = false := by simp
  go_upto_region 14 with fail
  clear ne ne2
  have HY := Lib.hid ((HX.out.new 23 nils).new 23 nils)
  rw [sz1] at HY
  clear HX
  obtain ⟨c0, c1', c2, c3⟩ := HY.out.c4 0 rfl
  go_wp2_with fail
  refine (PL.out _).mono ?_; rintro e w9 ⟨rfl, hb9⟩
  replace HY := Lib.hid (HY.out.later hb9); clear hb9 c0 c1' c2 c3
  obtain ⟨⟨f0, f1, f2, f3⟩, hlz⟩ := HY.out.f4 4 rfl
  obtain ⟨d0, d1, d2, d3⟩ := HY.out.c4 4 rfl
  go_upto_region 17 with fail
  replace HY := Lib.hid (HY.out.four 4 rfl (.int .i64 lo) (.string lk) (.string lt') (.string lv))
  clear f0 f1 f2 f3 hlz d0 d1 d2 d3 PL
  generalize World.setCell _ _ _ = w10 at *
  obtain ⟨c0, c1', c2, c3⟩ := HY.out.c4 0 rfl
  go_wp2_with fail
  refine (PH.out _).mono ?_; rintro e w11 ⟨rfl, hb9⟩
  replace HY := Lib.hid (HY.out.later hb9); clear hb9 c0 c1' c2 c3
  obtain ⟨⟨f0, f1, f2, f3⟩, hlz⟩ := HY.out.f4 5 rfl
  obtain ⟨d0, d1, d2, d3⟩ := HY.out.c4 5 rfl
  go_upto_region 18 with fail
  have hp0 := HY.out.four 5 rfl (.int .i64 ho) (.string hk) (.string ht) (.string hv)
  clear HY f0 f1 f2 f3 hlz d0 d1 d2 d3 PH
  generalize w8.heap.size = gl at *
  generalize World.setCell _ _ _ = w12 at *
  have hp : Mt.Fr w [(w.heap.size, 23, #[.int .i64 o, .string k, .string t, .string v]), (w.heap.size + 1, 44, #[.string q, .string y, .bool th]), (w.heap.size + 1 + 1, 53, #[.string a, .string b, .string c]), (gp, 23, #[.int .i64 po, .string pk, .string pt, .string pv]), (gl, 23, #[.int .i64 lo, .string lk, .string lt', .string lv]), (gl + 1, 23, #[.int .i64 ho, .string hk, .string ht, .string hv])] _ := hp0
  clear hp0
  replace hp := hp.drew
  have TM8 := Lib.hid fun (wx : World) (h : Mt.Fr w [(w.heap.size, 23, #[.int .i64 o, .string k, .string t, .string v]), (w.heap.size + 1, 44, #[.string q, .string y, .bool th]), (w.heap.size + 1 + 1, 53, #[.string a, .string b, .string c]), (gp, 23, #[.int .i64 po, .string pk, .string pt, .string pv]), (gl, 23, #[.int .i64 lo, .string lk, .string lt', .string lv]), (gl + 1, 23, #[.int .i64 ho, .string hk, .string ht, .string hv])] wx) => Mt.Fr.carry h (TM.out wx)
  have TL8 := Lib.hid fun (wx : World) (h : Mt.Fr w [(w.heap.size, 23, #[.int .i64 o, .string k, .string t, .string v]), (w.heap.size + 1, 44, #[.string q, .string y, .bool th]), (w.heap.size + 1 + 1, 53, #[.string a, .string b, .string c]), (gp, 23, #[.int .i64 po, .string pk, .string pt, .string pv]), (gl, 23, #[.int .i64 lo, .string lk, .string lt', .string lv]), (gl + 1, 23, #[.int .i64 ho, .string hk, .string ht, .string hv])] wx) => Mt.Fr.carry h (TL.out wx)
  have TH8 := Lib.hid fun (wx : World) (h : Mt.Fr w [(w.heap.size, 23, #[.int .i64 o, .string k, .string t, .string v]), (w.heap.size + 1, 44, #[.string q, .string y, .bool th]), (w.heap.size + 1 + 1, 53, #[.string a, .string b, .string c]), (gp, 23, #[.int .i64 po, .string pk, .string pt, .string pv]), (gl, 23, #[.int .i64 lo, .string lk, .string lt', .string lv]), (gl + 1, 23, #[.int .i64 ho, .string hk, .string ht, .string hv])] wx) => Mt.Fr.carry h (TH.out wx)
  refine wp_region_held_drew (S := (fun wx => (wx.cell? ⟨w.heap.size, 0, none⟩ = some (.int .i64 o) ∧ wx.cell? ⟨w.heap.size, 1, none⟩ = some (.string k) ∧ wx.cell? ⟨w.heap.size, 2, none⟩ = some (.string t) ∧ wx.cell? ⟨w.heap.size, 3, none⟩ = some (.string v)) ∧ (wx.cell? ⟨w.heap.size + 1, 0, none⟩ = some (.string q) ∧ wx.cell? ⟨w.heap.size + 1, 1, none⟩ = some (.string y) ∧ wx.cell? ⟨w.heap.size + 1, 2, none⟩ = some (.bool th)) ∧ (wx.cell? ⟨gl, 0, none⟩ = some (.int .i64 lo) ∧ wx.cell? ⟨gl, 1, none⟩ = some (.string lk) ∧ wx.cell? ⟨gl, 2, none⟩ = some (.string lt') ∧ wx.cell? ⟨gl, 3, none⟩ = some (.string lv)) ∧ (wx.cell? ⟨gl + 1, 0, none⟩ = some (.int .i64 ho) ∧ wx.cell? ⟨gl + 1, 1, none⟩ = some (.string hk) ∧ wx.cell? ⟨gl + 1, 2, none⟩ = some (.string ht) ∧ wx.cell? ⟨gl + 1, 3, none⟩ = some (.string hv)))) (by kernel_rfl) (hp.s18 rfl rfl rfl rfl) (fun hHeld => ?_)
  generalize World.drew _ = w6 at *
  refine wpAnyH_take (i := 0) (oi := ⟨some 169, _, _, _, _, _⟩) (v := ?_) rfl (by kernel_rfl) (by kernel_rfl) (by kernel_rfl) (fun _ _ _ h => h) (Or.inl ⟨by rfl, ?_⟩) (by assumption) ?_
  rotate_left 1
  · intro wq hSw; (try dsimp only at hSw); (first | (go_simp; done) | (go_simp; with_reducible rfl))
  try simp only [Act.put, List.setIfInBounds_toArray, List.set_cons_zero, List.set_cons_succ]
  refine wpAnyH_take (i := 1) (oi := ⟨some 170, _, _, _, _, _⟩) (v := ?_) rfl (by kernel_rfl) (by kernel_rfl) (by kernel_rfl) (fun _ _ _ h => h) (Or.inl ⟨by rfl, ?_⟩) (by assumption) ?_
  rotate_left 1
  · intro wq hSw; (try dsimp only at hSw); (first | (go_simp; done) | (go_simp; with_reducible rfl))
  try simp only [Act.put, List.setIfInBounds_toArray, List.set_cons_zero, List.set_cons_succ]
  refine wpAnyH_take (i := 2) (oi := ⟨some 171, _, _, _, _, _⟩) (v := ?_) rfl (by kernel_rfl) (by kernel_rfl) (by kernel_rfl) (fun _ _ _ h => h) (Or.inl ⟨by rfl, ?_⟩) (by assumption) ?_
  rotate_left 1
  · intro wq hSw; (try dsimp only at hSw); (first | (go_simp; done) | (go_simp; with_reducible rfl))
  try simp only [Act.put, List.setIfInBounds_toArray, List.set_cons_zero, List.set_cons_succ]
  refine wpAnyH_take (i := 3) (oi := ⟨some 172, _, _, _, _, _⟩) (v := ?_) rfl (by kernel_rfl) (by kernel_rfl) (by kernel_rfl) (fun _ _ _ h => h) (Or.inl ⟨by rfl, ?_⟩) (by assumption) ?_
  rotate_left 1
  · intro wq hSw; (try dsimp only at hSw); (first | (go_simp; done) | (go_simp; with_reducible rfl))
  try simp only [Act.put, List.setIfInBounds_toArray, List.set_cons_zero, List.set_cons_succ]
  refine wpAnyH_take (i := 4) (oi := ⟨some 173, _, _, _, _, _⟩) (v := ?_) rfl (by kernel_rfl) (by kernel_rfl) (by kernel_rfl) (fun _ _ _ h => h) (Or.inl ⟨by rfl, ?_⟩) (by assumption) ?_
  rotate_left 1
  · intro wq hSw; (try dsimp only at hSw); (first | (go_simp; done) | (go_simp; with_reducible rfl))
  try simp only [Act.put, List.setIfInBounds_toArray, List.set_cons_zero, List.set_cons_succ]
  refine wpAnyH_take (i := 12) (oi := ⟨some 181, _, _, _, _, _⟩) (v := ?_) rfl (by kernel_rfl) (by kernel_rfl) (by kernel_rfl) (fun _ _ _ h => h) (Or.inl ⟨by rfl, ?_⟩) (by assumption) ?_
  rotate_left 1
  · intro wq hSw; (try dsimp only at hSw); (first | (go_simp; done) | (go_simp; with_reducible rfl))
  try simp only [Act.put, List.setIfInBounds_toArray, List.set_cons_zero, List.set_cons_succ]
  refine wpAnyH_take (i := 13) (oi := ⟨some 182, _, _, _, _, _⟩) (v := ?_) rfl (by kernel_rfl) (by kernel_rfl) (by kernel_rfl) (fun _ _ _ h => h) (Or.inl ⟨by rfl, ?_⟩) (by assumption) ?_
  rotate_left 1
  · intro wq hSw; (try dsimp only at hSw); (first | (go_simp; done) | (go_simp; with_reducible rfl))
  try simp only [Act.put, List.setIfInBounds_toArray, List.set_cons_zero, List.set_cons_succ]
  refine wpAnyH_take (i := 14) (oi := ⟨some 183, _, _, _, _, _⟩) (v := ?_) rfl (by kernel_rfl) (by kernel_rfl) (by kernel_rfl) (fun _ _ _ h => h) (Or.inl ⟨by rfl, ?_⟩) (by assumption) ?_
  rotate_left 1
  · intro wq hSw; (try dsimp only at hSw); (first | (go_simp; done) | (go_simp; with_reducible rfl))
  try simp only [Act.put, List.setIfInBounds_toArray, List.set_cons_zero, List.set_cons_succ]
  refine wpAnyH_ready (rs := [5]) (by kernel_rfl) (by simp) ?_
  refine AllReadyH.cons (o := ⟨some 174, _, _, _, _, _⟩) rfl (fun K hK => ?_) AllReadyH.nil
  go_simp
  with_reducible refine (TL8.out _ (by assumption)).mono ?_
  rintro e w1 ⟨rfl, hp⟩
  refine hK.out _ _ ((fun h => Mt.Fr.s18 h rfl rfl rfl rfl) hp) (fun hHeld => ?_)
  clear hK K
  try simp only [Act.put, List.setIfInBounds_toArray, List.set_cons_zero, List.set_cons_succ]
  refine wpAnyH_take (i := 6) (oi := ⟨some 175, _, _, _, _, _⟩) (v := ?_) rfl (by kernel_rfl) (by kernel_rfl) (by kernel_rfl) (fun _ _ _ h => h) (Or.inl ⟨by rfl, ?_⟩) (by assumption) ?_
  rotate_left 1
  · intro wq hSw; (try dsimp only at hSw); (first | (go_simp; done) | (go_simp; with_reducible rfl))
  try simp only [Act.put, List.setIfInBounds_toArray, List.set_cons_zero, List.set_cons_succ]
  refine wpAnyH_take (i := 7) (oi := ⟨some 176, _, _, _, _, _⟩) (v := undef) rfl (by kernel_rfl) (by kernel_rfl) (by kernel_rfl) (fun _ _ _ h => h) (Or.inr ⟨by rfl, rfl⟩) (by assumption) ?_
  try simp only [Act.put, List.setIfInBounds_toArray, List.set_cons_zero, List.set_cons_succ]
  refine wpAnyH_take (i := 8) (oi := ⟨some 177, _, _, _, _, _⟩) (v := undef) rfl (by kernel_rfl) (by kernel_rfl) (by kernel_rfl) (fun _ _ _ h => h) (Or.inr ⟨by rfl, rfl⟩) (by assumption) ?_
  try simp only [Act.put, List.setIfInBounds_toArray, List.set_cons_zero, List.set_cons_succ]
  refine wpAnyH_take (i := 9) (oi := ⟨some 178, _, _, _, _, _⟩) (v := undef) rfl (by kernel_rfl) (by kernel_rfl) (by kernel_rfl) (fun _ _ _ h => h) (Or.inr ⟨by rfl, rfl⟩) (by assumption) ?_
  try simp only [Act.put, List.setIfInBounds_toArray, List.set_cons_zero, List.set_cons_succ]
  refine wpAnyH_take (i := 10) (oi := ⟨some 179, _, _, _, _, _⟩) (v := undef) rfl (by kernel_rfl) (by kernel_rfl) (by kernel_rfl) (fun _ _ _ h => h) (Or.inr ⟨by rfl, rfl⟩) (by assumption) ?_
  try simp only [Act.put, List.setIfInBounds_toArray, List.set_cons_zero, List.set_cons_succ]
  refine wpAnyH_take (i := 11) (oi := ⟨some 180, _, _, _, _, _⟩) (v := ?_) rfl (by kernel_rfl) (by kernel_rfl) (by kernel_rfl) (fun _ _ _ h => h) (Or.inl ⟨by rfl, ?_⟩) (by assumption) ?_
  rotate_left 1
  · intro wq hSw; (try dsimp only at hSw); (first | (go_simp; done) | (go_simp; with_reducible rfl))
  try simp only [Act.put, List.setIfInBounds_toArray, List.set_cons_zero, List.set_cons_succ]
  refine wpAnyH_ready (rs := [15]) (by kernel_rfl) (by simp) ?_
  refine AllReadyH.cons (o := ⟨some 184, _, _, _, _, _⟩) rfl (fun K hK => ?_) AllReadyH.nil
  go_simp
  with_reducible refine (TM8.out _ (by assumption)).mono ?_
  rintro e w1 ⟨rfl, hp⟩
  refine hK.out _ _ ((fun h => Mt.Fr.s18 h rfl rfl rfl rfl) hp) (fun hHeld => ?_)
  clear hK K
  try simp only [Act.put, List.setIfInBounds_toArray, List.set_cons_zero, List.set_cons_succ]
  refine wpAnyH_take (i := 16) (oi := ⟨some 185, _, _, _, _, _⟩) (v := ?_) rfl (by kernel_rfl) (by kernel_rfl) (by kernel_rfl) (fun _ _ _ h => h) (Or.inl ⟨by rfl, ?_⟩) (by assumption) ?_
  rotate_left 1
  · intro wq hSw; (try dsimp only at hSw); (first | (go_simp; done) | (go_simp; with_reducible rfl))
  try simp only [Act.put, List.setIfInBounds_toArray, List.set_cons_zero, List.set_cons_succ]
  refine wpAnyH_take (i := 17) (oi := ⟨some 186, _, _, _, _, _⟩) (v := ?_) rfl (by kernel_rfl) (by kernel_rfl) (by kernel_rfl) (fun _ _ _ h => h) (Or.inl ⟨by rfl, ?_⟩) (by assumption) ?_
  rotate_left 1
  · intro wq hSw; (try dsimp only at hSw); (first | (go_simp; done) | (go_simp; with_reducible rfl))
  try simp only [Act.put, List.setIfInBounds_toArray, List.set_cons_zero, List.set_cons_succ]
  refine wpAnyH_take (i := 18) (oi := ⟨some 187, _, _, _, _, _⟩) (v := ?_) rfl (by kernel_rfl) (by kernel_rfl) (by kernel_rfl) (fun _ _ _ h => h) (Or.inl ⟨by rfl, ?_⟩) (by assumption) ?_
  rotate_left 1
  · intro wq hSw; (try dsimp only at hSw); (first | (go_simp; done) | (go_simp; with_reducible rfl))
  try simp only [Act.put, List.setIfInBounds_toArray, List.set_cons_zero, List.set_cons_succ]
  refine wpAnyH_take (i := 19) (oi := ⟨some 188, _, _, _, _, _⟩) (v := ?_) rfl (by kernel_rfl) (by kernel_rfl) (by kernel_rfl) (fun _ _ _ h => h) (Or.inl ⟨by rfl, ?_⟩) (by assumption) ?_
  rotate_left 1
  · intro wq hSw; (try dsimp only at hSw); (first | (go_simp; done) | (go_simp; with_reducible rfl))
  try simp only [Act.put, List.setIfInBounds_toArray, List.set_cons_zero, List.set_cons_succ]
  refine wpAnyH_take (i := 20) (oi := ⟨some 189, _, _, _, _, _⟩) (v := ?_) rfl (by kernel_rfl) (by kernel_rfl) (by kernel_rfl) (fun _ _ _ h => h) (Or.inl ⟨by rfl, ?_⟩) (by assumption) ?_
  rotate_left 1
  · intro wq hSw; (try dsimp only at hSw); (first | (go_simp; done) | (go_simp; with_reducible rfl))
  try simp only [Act.put, List.setIfInBounds_toArray, List.set_cons_zero, List.set_cons_succ]
  refine wpAnyH_take (i := 21) (oi := ⟨some 190, _, _, _, _, _⟩) (v := ?_) rfl (by kernel_rfl) (by kernel_rfl) (by kernel_rfl) (fun _ _ _ h => h) (Or.inl ⟨by rfl, ?_⟩) (by assumption) ?_
  rotate_left 1
  · intro wq hSw; (try dsimp only at hSw); (first | (go_simp; done) | (go_simp; with_reducible rfl))
  try simp only [Act.put, List.setIfInBounds_toArray, List.set_cons_zero, List.set_cons_succ]
  refine wpAnyH_ready (rs := [22]) (by kernel_rfl) (by simp) ?_
  refine AllReadyH.cons (o := ⟨some 191, _, _, _, _, _⟩) rfl (fun K hK => ?_) AllReadyH.nil
  go_simp
  with_reducible refine (TL8.out _ (by assumption)).mono ?_
  rintro e w1 ⟨rfl, hp⟩
  refine hK.out _ _ ((fun h => Mt.Fr.s18 h rfl rfl rfl rfl) hp) (fun hHeld => ?_)
  clear hK K
  try simp only [Act.put, List.setIfInBounds_toArray, List.set_cons_zero, List.set_cons_succ]
  refine wpAnyH_take (i := 23) (oi := ⟨some 192, _, _, _, _, _⟩) (v := ?_) rfl (by kernel_rfl) (by kernel_rfl) (by kernel_rfl) (fun _ _ _ h => h) (Or.inl ⟨by rfl, ?_⟩) (by assumption) ?_
  rotate_left 1
  · intro wq hSw; (try dsimp only at hSw); (first | (go_simp; done) | (go_simp; with_reducible rfl))
  try simp only [Act.put, List.setIfInBounds_toArray, List.set_cons_zero, List.set_cons_succ]
  refine wpAnyH_take (i := 24) (oi := ⟨some 193, _, _, _, _, _⟩) (v := ?_) rfl (by kernel_rfl) (by kernel_rfl) (by kernel_rfl) (fun _ _ _ h => h) (Or.inl ⟨by rfl, ?_⟩) (by assumption) ?_
  rotate_left 1
  · intro wq hSw; (try dsimp only at hSw); (first | (go_simp; done) | (go_simp; with_reducible rfl))
  try simp only [Act.put, List.setIfInBounds_toArray, List.set_cons_zero, List.set_cons_succ]
  refine wpAnyH_take (i := 25) (oi := ⟨some 194, _, _, _, _, _⟩) (v := ?_) rfl (by kernel_rfl) (by kernel_rfl) (by kernel_rfl) (fun _ _ _ h => h) (Or.inl ⟨by rfl, ?_⟩) (by assumption) ?_
  rotate_left 1
  · intro wq hSw; (try dsimp only at hSw); (first | (go_simp; done) | (go_simp; with_reducible rfl))
  try simp only [Act.put, List.setIfInBounds_toArray, List.set_cons_zero, List.set_cons_succ]
  refine wpAnyH_take (i := 26) (oi := ⟨some 195, _, _, _, _, _⟩) (v := ?_) rfl (by kernel_rfl) (by kernel_rfl) (by kernel_rfl) (fun _ _ _ h => h) (Or.inl ⟨by rfl, ?_⟩) (by assumption) ?_
  rotate_left 1
  · intro wq hSw; (try dsimp only at hSw); (first | (go_simp; done) | (go_simp; with_reducible rfl))
  try simp only [Act.put, List.setIfInBounds_toArray, List.set_cons_zero, List.set_cons_succ]
  refine wpAnyH_ready (rs := [27]) (by kernel_rfl) (by simp) ?_
  refine AllReadyH.cons (o := ⟨some 196, _, _, _, _, _⟩) rfl (fun K hK => ?_) AllReadyH.nil
  go_simp
  with_reducible refine (TH8.out _ (by assumption)).mono ?_
  rintro e w1 ⟨rfl, hp⟩
  refine hK.out _ _ ((fun h => Mt.Fr.s18 h rfl rfl rfl rfl) hp) (fun hHeld => ?_)
  clear hK K
  try simp only [Act.put, List.setIfInBounds_toArray, List.set_cons_zero, List.set_cons_succ]
  refine wpAnyH_take (i := 28) (oi := ⟨some 197, _, _, _, _, _⟩) (v := ?_) rfl (by kernel_rfl) (by kernel_rfl) (by kernel_rfl) (fun _ _ _ h => h) (Or.inl ⟨by rfl, ?_⟩) (by assumption) ?_
  rotate_left 1
  · intro wq hSw; (try dsimp only at hSw); (first | (go_simp; done) | (go_simp; with_reducible rfl))
  try simp only [Act.put, List.setIfInBounds_toArray, List.set_cons_zero, List.set_cons_succ]
  refine wpAnyH_take (i := 29) (oi := ⟨some 198, _, _, _, _, _⟩) (v := ?_) rfl (by kernel_rfl) (by kernel_rfl) (by kernel_rfl) (fun _ _ _ h => h) (Or.inl ⟨by rfl, ?_⟩) (by assumption) ?_
  rotate_left 1
  · intro wq hSw; (try dsimp only at hSw); (first | (go_simp; done) | (go_simp; with_reducible rfl))
  try simp only [Act.put, List.setIfInBounds_toArray, List.set_cons_zero, List.set_cons_succ]
  refine wpAnyH_done (by kernel_rfl) ?_ _
  clear TL TH TL8 TH8 TM8 hHeld
  have HX := Lib.hid hp; clear hp
  obtain ⟨c0, c1', c2, c3⟩ := HX.out.c4 0 rfl
  obtain ⟨d0, d1, d2⟩ := HX.out.c3 1 rfl
  go_wp2_with fail
  refine (TM.out _).mono ?_; rintro e w7 ⟨rfl, hb7⟩
  replace HX := Lib.hid (HX.out.later hb7); clear hb7 c0 c1' c2 c3 d0 d1 d2
  obtain ⟨c0, c1', c2, c3⟩ := HX.out.c4 0 rfl
  obtain ⟨d0, d1, d2⟩ := HX.out.c3 1 rfl
  have ee : (th == th) = true := by simp
  have e2 : (v.toList == v.toList) = true := by simp
  rcases DF.out with ⟨hx, -⟩ | ⟨-, ⟨rfl, rfl, rfl⟩ | ⟨rfl, rfl, rfl⟩ | ⟨rfl, rfl, rfl⟩ | rfl⟩
  · cases hx
  all_goals
    go_wp2_with fail
    refine (AW.out _).mono ?_; rintro e w9 ⟨rfl, hb9⟩
    replace HX := Lib.hid (HX.out.later hb9); clear hb9
    go_wp2_with fail
    go_ret
    exact ⟨rfl, HX.out.below⟩
end Go.Proofs.YthledgkjfjdjoaaGreat.Ms
