/- The law MetaKnown: the chapter's examples. Conditions: none. -/
import Derived.Test.YtoeaclfbmppnmaaMtO
namespace Go.Proofs.Ytoeaclfbmppnmaa
open Go.ChangeShapes Go.WideShapes Go.RowKit Go.Codec Go.Num Go.Mt
set_option maxRecDepth 100000
set_option linter.unusedSimpArgs false
set_option linter.unusedVariables false
theorem kPut (w : World) : Calls Try.prog 10 #[.agg #[.int .u8 1, .int .u32 258, .int .u64 0, .int .u64 1]] w fun e w' => e = .returned (.tuple #[.string ⟨#[1, 0, 0, 1, 2, 0, 0, 0, 0, 0, 0, 0, 0, 0, 0, 0, 0, 0, 0, 0, 1]⟩, .int .i64 0]) ∧ Below w.heap.size w w' := by
  have H := put_any 1 258 0 1 (by omega) (by omega) w
  have e1 : bs (putM 1 258 0 1) = ⟨#[1, 0, 0, 1, 2, 0, 0, 0, 0, 0, 0, 0, 0, 0, 0, 0, 0, 0, 0, 0, 1]⟩ := by rfl
  have e2 : ckM 1 258 0 = 0 := by rfl
  rw [e1, e2] at H
  exact H
theorem kA (w : World) : Calls Try.prog 15 #[.agg #[.int .u8 3, .int .u64 0, .int .u8 2, .int .u64 4609434218613702656]] w fun e w' => e = .returned (.tuple #[.string ⟨#[3, 2, 63, 248, 0, 0, 0, 0, 0, 0]⟩, .int .i64 0]) ∧ Below w.heap.size w w' := by
  have H := putChange_any 3 0 2 4609434218613702656 (by omega) w
  have e1 : bs (putC 3 0 2 4609434218613702656) = ⟨#[3, 2, 63, 248, 0, 0, 0, 0, 0, 0]⟩ := by rfl
  have e2 : ckC 3 0 2 4609434218613702656 = 0 := by rfl
  rw [e1, e2] at H
  exact H
theorem kB (w : World) : Calls Try.prog 15 #[.agg #[.int .u8 4, .int .u64 7, .int .u8 0, .int .u64 0]] w fun e w' => e = .returned (.tuple #[.string ⟨#[4, 0, 0, 0, 0, 0, 0, 0, 7]⟩, .int .i64 0]) ∧ Below w.heap.size w w' := by
  have H := putChange_any 4 7 0 0 (by omega) w
  have e1 : bs (putC 4 7 0 0) = ⟨#[4, 0, 0, 0, 0, 0, 0, 0, 7]⟩ := by rfl
  have e2 : ckC 4 7 0 0 = 0 := by rfl
  rw [e1, e2] at H
  exact H
theorem kC (w : World) : Calls Try.prog 15 #[.agg #[.int .u8 4, .int .u64 0, .int .u8 1, .int .u64 0]] w fun e w' => e = .returned (.tuple #[.string ⟨#[]⟩, .int .i64 4]) ∧ Below w.heap.size w w' := by
  have H := putChange_any 4 0 1 0 (by omega) w
  have e1 : bs (putC 4 0 1 0) = ⟨#[]⟩ := by rfl
  have e2 : ckC 4 0 1 0 = 4 := by rfl
  rw [e1, e2] at H
  exact H
theorem kD (w : World) : Calls Try.prog 15 #[.agg #[.int .u8 3, .int .u64 1, .int .u8 1, .int .u64 0]] w fun e w' => e = .returned (.tuple #[.string ⟨#[]⟩, .int .i64 4]) ∧ Below w.heap.size w w' := by
  have H := putChange_any 3 1 1 0 (by omega) w
  have e1 : bs (putC 3 1 1 0) = ⟨#[]⟩ := by rfl
  have e2 : ckC 3 1 1 0 = 4 := by rfl
  rw [e1, e2] at H
  exact H
theorem kT (w : World) : Calls Try.prog 12 #[.string ⟨#[1, 0, 0, 1, 2, 0, 0, 0, 0, 0, 0, 0, 0, 0, 0, 0, 0, 0, 0, 0]⟩] w fun e w' => e = .returned (.tuple #[.agg #[.int .u8 0, .int .u32 0, .int .u64 0, .int .u64 0], .int .i64 10]) ∧ Below w.heap.size w w' := by
  have H := take_any ⟨#[1, 0, 0, 1, 2, 0, 0, 0, 0, 0, 0, 0, 0, 0, 0, 0, 0, 0, 0, 0]⟩ (by decide) w
  have e : takeE (⟨#[1, 0, 0, 1, 2, 0, 0, 0, 0, 0, 0, 0, 0, 0, 0, 0, 0, 0, 0, 0]⟩ : ByteArray).data.toList = 10 := by rfl
  rw [e] at H
  exact H
theorem kL (w : World) : Calls Try.prog 12 #[.string ⟨#[1, 0, 0, 1, 2, 0, 0, 0, 0, 0, 0, 0, 0, 0, 0, 0, 0, 0, 0, 0, 1, 0]⟩] w fun e w' => e = .returned (.tuple #[.agg #[.int .u8 0, .int .u32 0, .int .u64 0, .int .u64 0], .int .i64 4]) ∧ Below w.heap.size w w' := by
  have H := take_any ⟨#[1, 0, 0, 1, 2, 0, 0, 0, 0, 0, 0, 0, 0, 0, 0, 0, 0, 0, 0, 0, 1, 0]⟩ (by decide) w
  have e : takeE (⟨#[1, 0, 0, 1, 2, 0, 0, 0, 0, 0, 0, 0, 0, 0, 0, 0, 0, 0, 0, 0, 1, 0]⟩ : ByteArray).data.toList = 4 := by rfl
  rw [e] at H
  exact H
theorem kM (w : World) : Calls Try.prog 20 #[.agg #[.int .u8 1, .int .u32 5, .int .u64 0, .int .u64 0], .agg #[.int .u8 3, .int .u64 0, .int .u8 1, .int .u64 9218868437227405313]] w fun e w' => e = .returned (.agg #[.int .u8 1, .int .u32 5, .int .u64 9221120237041090561, .int .u64 0]) ∧ Below w.heap.size w w' := by
  have H := apply_any 1 5 0 0 3 0 1 9218868437227405313 (by omega) (by omega) w
  have e1 : aSz 1 5 0 3 0 1 9218868437227405313 = 5 := by kernel_rfl
  have e2 : aMk 1 5 0 3 0 1 9218868437227405313 = 9221120237041090561 := by kernel_rfl
  have e3 : aSt 1 5 0 0 3 0 1 9218868437227405313 = 0 := by kernel_rfl
  rw [e1, e2, e3] at H
  exact H
theorem kE (w : World) : Calls Try.prog 20 #[.agg #[.int .u8 2, .int .u32 0, .int .u64 0, .int .u64 0], .agg #[.int .u8 2, .int .u64 9, .int .u8 0, .int .u64 0]] w fun e w' => e = .returned (.agg #[.int .u8 2, .int .u32 0, .int .u64 0, .int .u64 0]) ∧ Below w.heap.size w w' := by
  have H := apply_any 2 0 0 0 2 9 0 0 (by omega) (by omega) w
  have e1 : aSz 2 0 0 2 9 0 0 = 0 := by kernel_rfl
  have e2 : aMk 2 0 0 2 9 0 0 = 0 := by kernel_rfl
  have e3 : aSt 2 0 0 0 2 9 0 0 = 0 := by kernel_rfl
  rw [e1, e2, e3] at H
  exact H
set_option maxHeartbeats 16000000 in
theorem known_any (w : World) : Calls Try.prog 6 #[] w fun e w' => e = .returned (.bool true) ∧ Below w.heap.size w w' := by
  have HE := eqM
  have B := Below.refl w.heap.size w
  go_enter Try.func6, Try.ntmps6
  go_wp2_with fail
  refine (kPut _).mono ?_; rintro e w1 ⟨rfl, hb⟩
  replace B := later2 B hb; clear hb
  go_wp2_with fail
  refine (file_any 2049 _).mono ?_; rintro e w1 ⟨rfl, hb⟩
  replace B := later2 B hb; clear hb
  go_wp2_with fail
  refine (none_no 1 2049 0 0 (by omega) (by omega) (by rfl) _).mono ?_; rintro e w1 ⟨rfl, hb⟩
  replace B := later2 B hb; clear hb
  go_wp2_with fail
  refine (none_no 2 1 0 0 (by omega) (by omega) (by rfl) _).mono ?_; rintro e w1 ⟨rfl, hb⟩
  replace B := later2 B hb; clear hb
  go_wp2_with fail
  refine (none_no 1 0 9218868437227405313 0 (by omega) (by omega) (by kernel_rfl) _).mono ?_; rintro e w1 ⟨rfl, hb⟩
  replace B := later2 B hb; clear hb
  go_wp2_with fail
  refine (none_yes 2 0 9221120237041090561 0 (by omega) (by omega) (by kernel_rfl) _).mono ?_; rintro e w1 ⟨rfl, hb⟩
  replace B := later2 B hb; clear hb
  go_wp2_with fail
  refine (file_any 2048 _).mono ?_; rintro e w1 ⟨rfl, hb⟩
  replace B := later2 B hb; clear hb
  go_wp2_with fail
  refine (none_yes 1 2048 0 0 (by omega) (by omega) (by rfl) _).mono ?_; rintro e w1 ⟨rfl, hb⟩
  replace B := later2 B hb; clear hb
  go_wp2_with fail
  refine (kA _).mono ?_; rintro e w1 ⟨rfl, hb⟩
  replace B := later2 B hb; clear hb
  go_wp2_with fail
  refine (kB _).mono ?_; rintro e w1 ⟨rfl, hb⟩
  replace B := later2 B hb; clear hb
  go_wp2_with fail
  refine (fails_any ⟨#[5]⟩ (by decide) 4 (by rfl) (by decide) _).mono ?_; rintro e w1 ⟨rfl, hb⟩
  replace B := later2 B hb; clear hb
  go_wp2_with fail
  refine (fails_any ⟨#[1, 0]⟩ (by decide) 10 (by rfl) (by decide) _).mono ?_; rintro e w1 ⟨rfl, hb⟩
  replace B := later2 B hb; clear hb
  go_wp2_with fail
  refine (fails_any ⟨#[1, 0, 0, 8, 1]⟩ (by decide) 4 (by rfl) (by decide) _).mono ?_; rintro e w1 ⟨rfl, hb⟩
  replace B := later2 B hb; clear hb
  go_wp2_with fail
  refine (fails_any ⟨#[4, 0, 0, 0, 0, 0, 0, 0, 7, 0]⟩ (by decide) 4 (by rfl) (by decide) _).mono ?_; rintro e w1 ⟨rfl, hb⟩
  replace B := later2 B hb; clear hb
  go_wp2_with fail
  refine (fails_any ⟨#[0]⟩ (by decide) 4 (by rfl) (by decide) _).mono ?_; rintro e w1 ⟨rfl, hb⟩
  replace B := later2 B hb; clear hb
  go_wp2_with fail
  refine (fails_any ⟨#[3, 6, 63, 248, 0, 0, 0, 0, 0, 0]⟩ (by decide) 4 (by rfl) (by decide) _).mono ?_; rintro e w1 ⟨rfl, hb⟩
  replace B := later2 B hb; clear hb
  go_wp2_with fail
  refine (kC _).mono ?_; rintro e w1 ⟨rfl, hb⟩
  replace B := later2 B hb; clear hb
  go_wp2_with fail
  refine (kD _).mono ?_; rintro e w1 ⟨rfl, hb⟩
  replace B := later2 B hb; clear hb
  go_wp2_with fail
  refine (kT _).mono ?_; rintro e w1 ⟨rfl, hb⟩
  replace B := later2 B hb; clear hb
  go_wp2_with fail
  refine (kL _).mono ?_; rintro e w1 ⟨rfl, hb⟩
  replace B := later2 (below_alloc B _) hb; clear hb
  go_wp2_with fail
  have hd := (Is.new (w1.alloc (.cells #[.int .u8 0, .int .u32 0, .int .u64 0, .int .u64 0] 25)) 25 #[.int .u8 2, .int .u32 0, .int .u64 0, .int .u64 0]).at (h := w1.heap.size + 1) (by simp)
  replace B := below_alloc (below_alloc B (.cells #[.int .u8 0, .int .u32 0, .int .u64 0, .int .u64 0] 25)) (.cells #[.int .u8 2, .int .u32 0, .int .u64 0, .int .u64 0] 25)
  refine (file_any 5 _).mono ?_; rintro e w2 ⟨rfl, hb⟩
  replace B := later2 B hb
  replace hd := hd.kept (grow_below hb none) (by simp)
  clear hb
  go_wp2_with fail
  refine (kM _).mono ?_; rintro e w3 ⟨rfl, hb⟩
  replace B := later2 B hb
  replace hd := hd.kept (grow_below hb none) (by simp)
  clear hb
  have hp : Tw w (w1.heap.size + 1) 25 #[.int .u8 2, .int .u32 0, .int .u64 0, .int .u64 0] w3.heap.size 25 #[.int .u8 1, .int .u32 5, .int .u64 9221120237041090561, .int .u64 0] (w3.alloc (.cells #[.int .u8 1, .int .u32 5, .int .u64 9221120237041090561, .int .u64 0] 25)) := ⟨below_alloc B _, hd.alloc _, Is.new _ _ _⟩
  replace hp := hp.drew
  clear B hd
  have N1 : Hid (∀ w, Calls Try.prog 25 #[.int .u8 1, .int .u64 9] w fun e w' => e = .returned (.int .u32 9) ∧ Below w.heap.size w w') := Lib.hid (fun w => does_any 1 9 9 (by rfl) w)
  have N2 : Hid (∀ w, Calls Try.prog 25 #[.int .u8 2, .int .u64 9] w fun e w' => e = .returned (.int .u32 9) ∧ Below w.heap.size w w') := Lib.hid (fun w => does_any 2 9 9 (by rfl) w)
  have N3 : Hid (∀ w, Calls Try.prog 25 #[.int .u8 1, .int .u64 2049] w fun e w' => e = .returned (.int .u32 5) ∧ Below w.heap.size w w') := Lib.hid (fun w => does_any 1 2049 5 (by rfl) w)
  have N4 := Lib.hid kE
  have N5 := Lib.hid awake_any
  go_upto_region 16 with fail
  refine wp_region_held_drew (S := (fun wx => (wx.cell? ⟨w1.heap.size + 1, 0, none⟩ = some (.int .u8 2) ∧ wx.cell? ⟨w1.heap.size + 1, 1, none⟩ = some (.int .u32 0) ∧ wx.cell? ⟨w1.heap.size + 1, 2, none⟩ = some (.int .u64 0) ∧ wx.cell? ⟨w1.heap.size + 1, 3, none⟩ = some (.int .u64 0)) ∧ (wx.cell? ⟨w3.heap.size, 0, none⟩ = some (.int .u8 1) ∧ wx.cell? ⟨w3.heap.size, 1, none⟩ = some (.int .u32 5) ∧ wx.cell? ⟨w3.heap.size, 2, none⟩ = some (.int .u64 9221120237041090561) ∧ wx.cell? ⟨w3.heap.size, 3, none⟩ = some (.int .u64 0)))) (by kernel_rfl) hp.cells (fun hHeld => ?_)
  generalize World.drew _ = w5 at *
  refine wpAnyH_take (i := 0) (oi := ⟨some 132, _, _, _, _, _⟩) (v := ?_) rfl (by kernel_rfl) (by kernel_rfl) (by kernel_rfl) (fun _ _ _ h => h) (Or.inl ⟨by rfl, ?_⟩) (by assumption) ?_
  rotate_left 1
  · intro wq hSw; (try dsimp only at hSw); (first | (go_simp; done) | (go_simp; with_reducible rfl))
  try simp only [Act.put, List.setIfInBounds_toArray, List.set_cons_zero, List.set_cons_succ]
  refine wpAnyH_take (i := 1) (oi := ⟨some 133, _, _, _, _, _⟩) (v := ?_) rfl (by kernel_rfl) (by kernel_rfl) (by kernel_rfl) (fun _ _ _ h => h) (Or.inl ⟨by rfl, ?_⟩) (by assumption) ?_
  rotate_left 1
  · intro wq hSw; (try dsimp only at hSw); (first | (go_simp; done) | (go_simp; with_reducible rfl))
  try simp only [Act.put, List.setIfInBounds_toArray, List.set_cons_zero, List.set_cons_succ]
  refine wpAnyH_take (i := 2) (oi := ⟨some 134, _, _, _, _, _⟩) (v := ?_) rfl (by kernel_rfl) (by kernel_rfl) (by kernel_rfl) (fun _ _ _ h => h) (Or.inl ⟨by rfl, ?_⟩) (by assumption) ?_
  rotate_left 1
  · intro wq hSw; (try dsimp only at hSw); (first | (go_simp; done) | (go_simp; with_reducible rfl))
  try simp only [Act.put, List.setIfInBounds_toArray, List.set_cons_zero, List.set_cons_succ]
  refine wpAnyH_take (i := 3) (oi := ⟨some 135, _, _, _, _, _⟩) (v := ?_) rfl (by kernel_rfl) (by kernel_rfl) (by kernel_rfl) (fun _ _ _ h => h) (Or.inl ⟨by rfl, ?_⟩) (by assumption) ?_
  rotate_left 1
  · intro wq hSw; (try dsimp only at hSw); (first | (go_simp; done) | (go_simp; with_reducible rfl))
  try simp only [Act.put, List.setIfInBounds_toArray, List.set_cons_zero, List.set_cons_succ]
  refine wpAnyH_take (i := 4) (oi := ⟨some 136, _, _, _, _, _⟩) (v := ?_) rfl (by kernel_rfl) (by kernel_rfl) (by kernel_rfl) (fun _ _ _ h => h) (Or.inl ⟨by rfl, ?_⟩) (by assumption) ?_
  rotate_left 1
  · intro wq hSw; (try dsimp only at hSw); (first | (go_simp; done) | (go_simp; with_reducible rfl))
  try simp only [Act.put, List.setIfInBounds_toArray, List.set_cons_zero, List.set_cons_succ]
  refine wpAnyH_take (i := 5) (oi := ⟨some 137, _, _, _, _, _⟩) (v := ?_) rfl (by kernel_rfl) (by kernel_rfl) (by kernel_rfl) (fun _ _ _ h => h) (Or.inl ⟨by rfl, ?_⟩) (by assumption) ?_
  rotate_left 1
  · intro wq hSw; (try dsimp only at hSw); (first | (go_simp; done) | (go_simp; with_reducible rfl))
  try simp only [Act.put, List.setIfInBounds_toArray, List.set_cons_zero, List.set_cons_succ]
  refine wpAnyH_take (i := 6) (oi := ⟨some 138, _, _, _, _, _⟩) (v := ?_) rfl (by kernel_rfl) (by kernel_rfl) (by kernel_rfl) (fun _ _ _ h => h) (Or.inl ⟨by rfl, ?_⟩) (by assumption) ?_
  rotate_left 1
  · intro wq hSw; (try dsimp only at hSw); (first | (go_simp; done) | (go_simp; with_reducible rfl))
  try simp only [Act.put, List.setIfInBounds_toArray, List.set_cons_zero, List.set_cons_succ]
  refine wpAnyH_take (i := 7) (oi := ⟨some 139, _, _, _, _, _⟩) (v := ?_) rfl (by kernel_rfl) (by kernel_rfl) (by kernel_rfl) (fun _ _ _ h => h) (Or.inl ⟨by rfl, ?_⟩) (by assumption) ?_
  rotate_left 1
  · intro wq hSw; (try dsimp only at hSw); (first | (go_simp; done) | (go_simp; with_reducible rfl))
  try simp only [Act.put, List.setIfInBounds_toArray, List.set_cons_zero, List.set_cons_succ]
  refine wpAnyH_take (i := 8) (oi := ⟨some 140, _, _, _, _, _⟩) (v := ?_) rfl (by kernel_rfl) (by kernel_rfl) (by kernel_rfl) (fun _ _ _ h => h) (Or.inl ⟨by rfl, ?_⟩) (by assumption) ?_
  rotate_left 1
  · intro wq hSw; (try dsimp only at hSw); (first | (go_simp; done) | (go_simp; with_reducible rfl))
  try simp only [Act.put, List.setIfInBounds_toArray, List.set_cons_zero, List.set_cons_succ]
  refine wpAnyH_take (i := 9) (oi := ⟨some 141, _, _, _, _, _⟩) (v := ?_) rfl (by kernel_rfl) (by kernel_rfl) (by kernel_rfl) (fun _ _ _ h => h) (Or.inl ⟨by rfl, ?_⟩) (by assumption) ?_
  rotate_left 1
  · intro wq hSw; (try dsimp only at hSw); (first | (go_simp; done) | (go_simp; with_reducible rfl))
  try simp only [Act.put, List.setIfInBounds_toArray, List.set_cons_zero, List.set_cons_succ]
  refine wpAnyH_take (i := 10) (oi := ⟨some 142, _, _, _, _, _⟩) (v := ?_) rfl (by kernel_rfl) (by kernel_rfl) (by kernel_rfl) (fun _ _ _ h => h) (Or.inl ⟨by rfl, ?_⟩) (by assumption) ?_
  rotate_left 1
  · intro wq hSw; (try dsimp only at hSw); (first | (go_simp; done) | (go_simp; with_reducible rfl))
  try simp only [Act.put, List.setIfInBounds_toArray, List.set_cons_zero, List.set_cons_succ]
  refine wpAnyH_take (i := 11) (oi := ⟨some 143, _, _, _, _, _⟩) (v := ?_) rfl (by kernel_rfl) (by kernel_rfl) (by kernel_rfl) (fun _ _ _ h => h) (Or.inl ⟨by rfl, ?_⟩) (by assumption) ?_
  rotate_left 1
  · intro wq hSw; (try dsimp only at hSw); (first | (go_simp; done) | (go_simp; with_reducible rfl))
  try simp only [Act.put, List.setIfInBounds_toArray, List.set_cons_zero, List.set_cons_succ]
  refine wpAnyH_take (i := 12) (oi := ⟨some 144, _, _, _, _, _⟩) (v := ?_) rfl (by kernel_rfl) (by kernel_rfl) (by kernel_rfl) (fun _ _ _ h => h) (Or.inl ⟨by rfl, ?_⟩) (by assumption) ?_
  rotate_left 1
  · intro wq hSw; (try dsimp only at hSw); (first | (go_simp; done) | (go_simp; with_reducible rfl))
  try simp only [Act.put, List.setIfInBounds_toArray, List.set_cons_zero, List.set_cons_succ]
  refine wpAnyH_take (i := 13) (oi := ⟨some 145, _, _, _, _, _⟩) (v := ?_) rfl (by kernel_rfl) (by kernel_rfl) (by kernel_rfl) (fun _ _ _ h => h) (Or.inl ⟨by rfl, ?_⟩) (by assumption) ?_
  rotate_left 1
  · intro wq hSw; (try dsimp only at hSw); (first | (go_simp; done) | (go_simp; with_reducible rfl))
  try simp only [Act.put, List.setIfInBounds_toArray, List.set_cons_zero, List.set_cons_succ]
  refine wpAnyH_take (i := 14) (oi := ⟨some 146, _, _, _, _, _⟩) (v := ?_) rfl (by kernel_rfl) (by kernel_rfl) (by kernel_rfl) (fun _ _ _ h => h) (Or.inl ⟨by rfl, ?_⟩) (by assumption) ?_
  rotate_left 1
  · intro wq hSw; (try dsimp only at hSw); (first | (go_simp; done) | (go_simp; with_reducible rfl))
  try simp only [Act.put, List.setIfInBounds_toArray, List.set_cons_zero, List.set_cons_succ]
  refine wpAnyH_ready (rs := [15]) (by kernel_rfl) (by simp) ?_
  refine AllReadyH.cons (o := ⟨some 147, _, _, _, _, _⟩) rfl (fun K hK => ?_) AllReadyH.nil
  · go_simp
    with_reducible refine (N1.out _).mono ?_
    rintro e w1 ⟨rfl, hb⟩
    replace hp := hp.later hb
    clear hb
    refine hK.out _ _ hp.cells (fun hHeld => ?_)
    clear hK K
    try simp only [Act.put, List.setIfInBounds_toArray, List.set_cons_zero, List.set_cons_succ]
    refine wpAnyH_take (i := 16) (oi := ⟨some 148, _, _, _, _, _⟩) (v := ?_) rfl (by kernel_rfl) (by kernel_rfl) (by kernel_rfl) (fun _ _ _ h => h) (Or.inl ⟨by rfl, ?_⟩) (by assumption) ?_
    rotate_left 1
    · intro wq hSw; (try dsimp only at hSw); (first | (go_simp; done) | (go_simp; with_reducible rfl))
    try simp only [Act.put, List.setIfInBounds_toArray, List.set_cons_zero, List.set_cons_succ]
    refine wpAnyH_take (i := 17) (oi := ⟨some 149, _, _, _, _, _⟩) (v := ?_) rfl (by kernel_rfl) (by kernel_rfl) (by kernel_rfl) (fun _ _ _ h => h) (Or.inl ⟨by rfl, ?_⟩) (by assumption) ?_
    rotate_left 1
    · intro wq hSw; (try dsimp only at hSw); (first | (go_simp; done) | (go_simp; with_reducible rfl))
    try simp only [Act.put, List.setIfInBounds_toArray, List.set_cons_zero, List.set_cons_succ]
    refine wpAnyH_take (i := 18) (oi := ⟨some 150, _, _, _, _, _⟩) (v := ?_) rfl (by kernel_rfl) (by kernel_rfl) (by kernel_rfl) (fun _ _ _ h => h) (Or.inl ⟨by rfl, ?_⟩) (by assumption) ?_
    rotate_left 1
    · intro wq hSw; (try dsimp only at hSw); (first | (go_simp; done) | (go_simp; with_reducible rfl))
    try simp only [Act.put, List.setIfInBounds_toArray, List.set_cons_zero, List.set_cons_succ]
    refine wpAnyH_ready (rs := [19]) (by kernel_rfl) (by simp) ?_
    refine AllReadyH.cons (o := ⟨some 151, _, _, _, _, _⟩) rfl (fun K hK => ?_) AllReadyH.nil
    · go_simp
      with_reducible refine (N2.out _).mono ?_
      rintro e w1 ⟨rfl, hb⟩
      replace hp := hp.later hb
      clear hb
      refine hK.out _ _ hp.cells (fun hHeld => ?_)
      clear hK K
      try simp only [Act.put, List.setIfInBounds_toArray, List.set_cons_zero, List.set_cons_succ]
      refine wpAnyH_take (i := 20) (oi := ⟨some 152, _, _, _, _, _⟩) (v := ?_) rfl (by kernel_rfl) (by kernel_rfl) (by kernel_rfl) (fun _ _ _ h => h) (Or.inl ⟨by rfl, ?_⟩) (by assumption) ?_
      rotate_left 1
      · intro wq hSw; (try dsimp only at hSw); (first | (go_simp; done) | (go_simp; with_reducible rfl))
      try simp only [Act.put, List.setIfInBounds_toArray, List.set_cons_zero, List.set_cons_succ]
      refine wpAnyH_take (i := 21) (oi := ⟨some 153, _, _, _, _, _⟩) (v := ?_) rfl (by kernel_rfl) (by kernel_rfl) (by kernel_rfl) (fun _ _ _ h => h) (Or.inl ⟨by rfl, ?_⟩) (by assumption) ?_
      rotate_left 1
      · intro wq hSw; (try dsimp only at hSw); (first | (go_simp; done) | (go_simp; with_reducible rfl))
      try simp only [Act.put, List.setIfInBounds_toArray, List.set_cons_zero, List.set_cons_succ]
      refine wpAnyH_take (i := 22) (oi := ⟨some 154, _, _, _, _, _⟩) (v := ?_) rfl (by kernel_rfl) (by kernel_rfl) (by kernel_rfl) (fun _ _ _ h => h) (Or.inl ⟨by rfl, ?_⟩) (by assumption) ?_
      rotate_left 1
      · intro wq hSw; (try dsimp only at hSw); (first | (go_simp; done) | (go_simp; with_reducible rfl))
      try simp only [Act.put, List.setIfInBounds_toArray, List.set_cons_zero, List.set_cons_succ]
      refine wpAnyH_ready (rs := [23]) (by kernel_rfl) (by simp) ?_
      refine AllReadyH.cons (o := ⟨some 155, _, _, _, _, _⟩) rfl (fun K hK => ?_) AllReadyH.nil
      · go_simp
        with_reducible refine (N3.out _).mono ?_
        rintro e w1 ⟨rfl, hb⟩
        replace hp := hp.later hb
        clear hb
        refine hK.out _ _ hp.cells (fun hHeld => ?_)
        clear hK K
        try simp only [Act.put, List.setIfInBounds_toArray, List.set_cons_zero, List.set_cons_succ]
        refine wpAnyH_take (i := 24) (oi := ⟨some 156, _, _, _, _, _⟩) (v := ?_) rfl (by kernel_rfl) (by kernel_rfl) (by kernel_rfl) (fun _ _ _ h => h) (Or.inl ⟨by rfl, ?_⟩) (by assumption) ?_
        rotate_left 1
        · intro wq hSw; (try dsimp only at hSw); (first | (go_simp; done) | (go_simp; with_reducible rfl))
        try simp only [Act.put, List.setIfInBounds_toArray, List.set_cons_zero, List.set_cons_succ]
        refine wpAnyH_take (i := 25) (oi := ⟨some 157, _, _, _, _, _⟩) (v := ?_) rfl (by kernel_rfl) (by kernel_rfl) (by kernel_rfl) (fun _ _ _ h => h) (Or.inl ⟨by rfl, ?_⟩) (by assumption) ?_
        rotate_left 1
        · intro wq hSw; (try dsimp only at hSw); (first | (go_simp; done) | (go_simp; with_reducible rfl))
        try simp only [Act.put, List.setIfInBounds_toArray, List.set_cons_zero, List.set_cons_succ]
        refine wpAnyH_take (i := 26) (oi := ⟨some 158, _, _, _, _, _⟩) (v := ?_) rfl (by kernel_rfl) (by kernel_rfl) (by kernel_rfl) (fun _ _ _ h => h) (Or.inl ⟨by rfl, ?_⟩) (by assumption) ?_
        rotate_left 1
        · intro wq hSw; (try dsimp only at hSw); (first | (go_simp; done) | (go_simp; with_reducible rfl))
        try simp only [Act.put, List.setIfInBounds_toArray, List.set_cons_zero, List.set_cons_succ]
        refine wpAnyH_take (i := 27) (oi := ⟨some 159, _, _, _, _, _⟩) (v := ?_) rfl (by kernel_rfl) (by kernel_rfl) (by kernel_rfl) (fun _ _ _ h => h) (Or.inl ⟨by rfl, ?_⟩) (by assumption) ?_
        rotate_left 1
        · intro wq hSw; (try dsimp only at hSw); (first | (go_simp; done) | (go_simp; with_reducible rfl))
        try simp only [Act.put, List.setIfInBounds_toArray, List.set_cons_zero, List.set_cons_succ]
        refine wpAnyH_take (i := 28) (oi := ⟨some 160, _, _, _, _, _⟩) (v := ?_) rfl (by kernel_rfl) (by kernel_rfl) (by kernel_rfl) (fun _ _ _ h => h) (Or.inl ⟨by rfl, ?_⟩) (by assumption) ?_
        rotate_left 1
        · intro wq hSw; (try dsimp only at hSw); (first | (go_simp; done) | (go_simp; with_reducible rfl))
        try simp only [Act.put, List.setIfInBounds_toArray, List.set_cons_zero, List.set_cons_succ]
        refine wpAnyH_take (i := 30) (oi := ⟨some 162, _, _, _, _, _⟩) (v := ?_) rfl (by kernel_rfl) (by kernel_rfl) (by kernel_rfl) (fun _ _ _ h => h) (Or.inl ⟨by rfl, ?_⟩) (by assumption) ?_
        rotate_left 1
        · intro wq hSw; (try dsimp only at hSw); (first | (go_simp; done) | (go_simp; with_reducible rfl))
        try simp only [Act.put, List.setIfInBounds_toArray, List.set_cons_zero, List.set_cons_succ]
        refine wpAnyH_ready (rs := [29]) (by kernel_rfl) (by simp) ?_
        refine AllReadyH.cons (o := ⟨some 161, _, _, _, _, _⟩) rfl (fun K hK => ?_) AllReadyH.nil
        · go_simp
          with_reducible refine (N4.out _).mono ?_
          rintro e w1 ⟨rfl, hb⟩
          replace hp := hp.later hb
          clear hb
          refine hK.out _ _ hp.cells (fun hHeld => ?_)
          clear hK K
          try simp only [Act.put, List.setIfInBounds_toArray, List.set_cons_zero, List.set_cons_succ]
          refine wpAnyH_take (i := 31) (oi := ⟨some 163, _, _, _, _, _⟩) (v := ?_) rfl (by kernel_rfl) (by kernel_rfl) (by kernel_rfl) (fun _ _ _ h => h) (Or.inl ⟨by rfl, ?_⟩) (by assumption) ?_
          rotate_left 1
          · intro wq hSw; (try dsimp only at hSw); (first | (go_simp; done) | (go_simp; with_reducible rfl))
          try simp only [Act.put, List.setIfInBounds_toArray, List.set_cons_zero, List.set_cons_succ]
          refine wpAnyH_take (i := 32) (oi := ⟨some 164, _, _, _, _, _⟩) (v := ?_) rfl (by kernel_rfl) (by kernel_rfl) (by kernel_rfl) (fun _ _ _ h => h) (Or.inl ⟨by rfl, ?_⟩) (by assumption) ?_
          rotate_left 1
          · intro wq hSw; (try dsimp only at hSw); (first | (go_simp; done) | (go_simp; with_reducible rfl))
          try simp only [Act.put, List.setIfInBounds_toArray, List.set_cons_zero, List.set_cons_succ]
          refine wpAnyH_take (i := 33) (oi := ⟨some 165, _, _, _, _, _⟩) (v := ?_) rfl (by kernel_rfl) (by kernel_rfl) (by kernel_rfl) (fun _ _ _ h => h) (Or.inl ⟨by rfl, ?_⟩) (by assumption) ?_
          rotate_left 1
          · intro wq hSw; (try dsimp only at hSw); (first | (go_simp; done) | (go_simp; with_reducible rfl))
          try simp only [Act.put, List.setIfInBounds_toArray, List.set_cons_zero, List.set_cons_succ]
          refine wpAnyH_take (i := 34) (oi := ⟨some 166, _, _, _, _, _⟩) (v := ?_) rfl (by kernel_rfl) (by kernel_rfl) (by kernel_rfl) (fun _ _ _ h => h) (Or.inl ⟨by rfl, ?_⟩) (by assumption) ?_
          rotate_left 1
          · intro wq hSw; (try dsimp only at hSw); (first | (go_simp; done) | (go_simp; with_reducible rfl))
          try simp only [Act.put, List.setIfInBounds_toArray, List.set_cons_zero, List.set_cons_succ]
          refine wpAnyH_take (i := 35) (oi := ⟨some 167, _, _, _, _, _⟩) (v := ?_) rfl (by kernel_rfl) (by kernel_rfl) (by kernel_rfl) (fun _ _ _ h => h) (Or.inl ⟨by rfl, ?_⟩) (by assumption) ?_
          rotate_left 1
          · intro wq hSw; (try dsimp only at hSw); (first | (go_simp; done) | (go_simp; with_reducible rfl))
          try simp only [Act.put, List.setIfInBounds_toArray, List.set_cons_zero, List.set_cons_succ]
          refine wpAnyH_take (i := 36) (oi := ⟨some 168, _, _, _, _, _⟩) (v := ?_) rfl (by kernel_rfl) (by kernel_rfl) (by kernel_rfl) (fun _ _ _ h => h) (Or.inl ⟨by rfl, ?_⟩) (by assumption) ?_
          rotate_left 1
          · intro wq hSw; (try dsimp only at hSw); (first | (go_simp; done) | (go_simp; with_reducible rfl))
          try simp only [Act.put, List.setIfInBounds_toArray, List.set_cons_zero, List.set_cons_succ]
          refine wpAnyH_take (i := 37) (oi := ⟨some 169, _, _, _, _, _⟩) (v := ?_) rfl (by kernel_rfl) (by kernel_rfl) (by kernel_rfl) (fun _ _ _ h => h) (Or.inl ⟨by rfl, ?_⟩) (by assumption) ?_
          rotate_left 1
          · intro wq hSw; (try dsimp only at hSw); (first | (go_simp; done) | (go_simp; with_reducible rfl))
          try simp only [Act.put, List.setIfInBounds_toArray, List.set_cons_zero, List.set_cons_succ]
          refine wpAnyH_take (i := 38) (oi := ⟨some 170, _, _, _, _, _⟩) (v := ?_) rfl (by kernel_rfl) (by kernel_rfl) (by kernel_rfl) (fun _ _ _ h => h) (Or.inl ⟨by rfl, ?_⟩) (by assumption) ?_
          rotate_left 1
          · intro wq hSw; (try dsimp only at hSw); (first | (go_simp; done) | (go_simp; with_reducible rfl))
          try simp only [Act.put, List.setIfInBounds_toArray, List.set_cons_zero, List.set_cons_succ]
          refine wpAnyH_take (i := 39) (oi := ⟨some 171, _, _, _, _, _⟩) (v := ?_) rfl (by kernel_rfl) (by kernel_rfl) (by kernel_rfl) (fun _ _ _ h => h) (Or.inl ⟨by rfl, ?_⟩) (by assumption) ?_
          rotate_left 1
          · intro wq hSw; (try dsimp only at hSw); (first | (go_simp; done) | (go_simp; with_reducible rfl))
          try simp only [Act.put, List.setIfInBounds_toArray, List.set_cons_zero, List.set_cons_succ]
          refine wpAnyH_take (i := 40) (oi := ⟨some 172, _, _, _, _, _⟩) (v := ?_) rfl (by kernel_rfl) (by kernel_rfl) (by kernel_rfl) (fun _ _ _ h => h) (Or.inl ⟨by rfl, ?_⟩) (by assumption) ?_
          rotate_left 1
          · intro wq hSw; (try dsimp only at hSw); (first | (go_simp; done) | (go_simp; with_reducible rfl))
          try simp only [Act.put, List.setIfInBounds_toArray, List.set_cons_zero, List.set_cons_succ]
          refine wpAnyH_take (i := 41) (oi := ⟨some 173, _, _, _, _, _⟩) (v := ?_) rfl (by kernel_rfl) (by kernel_rfl) (by kernel_rfl) (fun _ _ _ h => h) (Or.inl ⟨by rfl, ?_⟩) (by assumption) ?_
          rotate_left 1
          · intro wq hSw; (try dsimp only at hSw); (first | (go_simp; done) | (go_simp; with_reducible rfl))
          try simp only [Act.put, List.setIfInBounds_toArray, List.set_cons_zero, List.set_cons_succ]
          refine wpAnyH_take (i := 42) (oi := ⟨some 174, _, _, _, _, _⟩) (v := ?_) rfl (by kernel_rfl) (by kernel_rfl) (by kernel_rfl) (fun _ _ _ h => h) (Or.inl ⟨by rfl, ?_⟩) (by assumption) ?_
          rotate_left 1
          · intro wq hSw; (try dsimp only at hSw); (first | (go_simp; done) | (go_simp; with_reducible rfl))
          try simp only [Act.put, List.setIfInBounds_toArray, List.set_cons_zero, List.set_cons_succ]
          refine wpAnyH_take (i := 43) (oi := ⟨some 175, _, _, _, _, _⟩) (v := ?_) rfl (by kernel_rfl) (by kernel_rfl) (by kernel_rfl) (fun _ _ _ h => h) (Or.inl ⟨by rfl, ?_⟩) (by assumption) ?_
          rotate_left 1
          · intro wq hSw; (try dsimp only at hSw); (first | (go_simp; done) | (go_simp; with_reducible rfl))
          try simp only [Act.put, List.setIfInBounds_toArray, List.set_cons_zero, List.set_cons_succ]
          refine wpAnyH_ready (rs := [44]) (by kernel_rfl) (by simp) ?_
          refine AllReadyH.cons (o := ⟨some 176, _, _, _, _, _⟩) rfl (fun K hK => ?_) AllReadyH.nil
          · go_simp
            with_reducible refine (N5.out _).mono ?_
            rintro e w1 ⟨rfl, hb⟩
            replace hp := hp.later hb
            clear hb
            refine hK.out _ _ hp.cells (fun hHeld => ?_)
            clear hK K
            try simp only [Act.put, List.setIfInBounds_toArray, List.set_cons_zero, List.set_cons_succ]
            refine wpAnyH_take (i := 45) (oi := ⟨some 177, _, _, _, _, _⟩) (v := ?_) rfl (by kernel_rfl) (by kernel_rfl) (by kernel_rfl) (fun _ _ _ h => h) (Or.inl ⟨by rfl, ?_⟩) (by assumption) ?_
            rotate_left 1
            · intro wq hSw; (try dsimp only at hSw); (first | (go_simp; done) | (go_simp; with_reducible rfl))
            try simp only [Act.put, List.setIfInBounds_toArray, List.set_cons_zero, List.set_cons_succ]
            refine wpAnyH_take (i := 46) (oi := ⟨some 0, _, _, _, _, _⟩) (v := ?_) rfl (by kernel_rfl) (by kernel_rfl) (by kernel_rfl) (fun _ _ _ h => h) (Or.inl ⟨by rfl, ?_⟩) (by assumption) ?_
            rotate_left 1
            · intro wq hSw; (try dsimp only at hSw); (first | (go_simp; done) | (go_simp; with_reducible rfl))
            try simp only [Act.put, List.setIfInBounds_toArray, List.set_cons_zero, List.set_cons_succ]
            refine wpAnyH_done (by kernel_rfl) ?_ _
            go_wp2
            go_ret
            exact ⟨rfl, hp.below⟩
end Go.Proofs.Ytoeaclfbmppnmaa
