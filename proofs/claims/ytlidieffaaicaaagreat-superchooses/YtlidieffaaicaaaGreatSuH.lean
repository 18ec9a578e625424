/- Some of the chapter's answers hold. Conditions: none. -/
import Derived.Test.YtlidieffaaicaaaGreatSuG
namespace Go.Proofs.YtlidieffaaicaaaGreat
open Go.ChangeShapes Go.WideShapes Go.RowKit Go.Codec Go.Super
set_option maxRecDepth 100000
set_option linter.unusedSimpArgs false
theorem tk_zero : tk (List.replicate 128 0) = (S.none, 4) := by
  have e : (List.replicate 128 0 : List UInt8) = Seal.sheet 0 0 [] 102 := by decide +kernel
  rw [e, tk_sheet 0 [] 102 (by omega) (by simp), if_pos (by simp)]
theorem eqB {Q : Ending → Prop} {f : FuncId} {a : Array Value} {w : World} (h : Calls Tryz.prog f a w fun e w' => Q e ∧ w = w') : Calls Tryz.prog f a w fun e w' => Q e ∧ Below w.heap.size w w' :=
  h.mono fun _ _ ⟨h1, h2⟩ => ⟨h1, h2 ▸ Below.refl _ _⟩
set_option maxHeartbeats 4000000 in
theorem works_c (w : World) : Calls Tryz.prog 6 #[] w fun e w' => e = .returned (.bool true) ∧ Below w.heap.size w w' := by
  obtain ⟨l, hl⟩ : ∃ l, (put g5).1 = l := ⟨_, rfl⟩
  have h1 : l.length = 128 := by rw [← hl]; exact put_length g5 g5_ok
  have h2 : tk l = (g5, 0) := by rw [← hl]; exact tk_put g5 g5_ok (by decide) (by decide)
  have HG := Lib.hid given_c
  have HT := Lib.hid (fun w' => text_c g5 w')
  rw [hl] at HT
  simp only [g5] at HT
  have HK := Lib.hid (fun w' => take_c (bs l) (by rw [bs_size]; omega) w')
  rw [bs_list, h2] at HK
  simp only [g5] at HK
  have hz : (bs l).size = 128 := by rw [bs_size]; exact h1
  have hz' : ((bs l).size : Int) = 128 := by omega
  have n2 : ∀ wx, Calls Tryz.prog 27 #[.string ⟨#[0]⟩, .int .i64 128] wx fun e w' => e = .returned (.string (bs (List.replicate 128 0))) ∧ Below wx.heap.size wx w' := fun wx => repeat_any 0 128 (by decide) wx
  have n3 : ∀ wx, Calls Tryz.prog 24 #[.string (bs (List.replicate 128 0)), .int .i64 4] wx fun e w' => e = .returned (.bool true) ∧ Below wx.heap.size wx w' := fun wx => fails_true (bs (List.replicate 128 0)) (by rw [bs_size]; simp) 4 (by rw [bs_list]; exact tk_zero) wx
  have n4 : ∀ wx, Calls Tryz.prog 28 #[.int .u64 7] wx fun e w' => e = .returned (.int .i64 1) ∧ Below wx.heap.size wx w' := fun wx => eqB (slot_c 7 (by decide) wx)
  have n5 : ∀ wx, Calls Tryz.prog 28 #[.int .u64 8] wx fun e w' => e = .returned (.int .i64 0) ∧ Below wx.heap.size wx w' := fun wx => eqB (slot_c 8 (by decide) wx)
  generalize bs (List.replicate 128 0) = zz at n2 n3
  clear h1 h2 hl
  generalize bs l = tt at *
  go_enter Tryz.func6, Tryz.ntmps6
  go_wp2_with fail
  refine (HG.out _).mono ?_; rintro e w1 ⟨rfl, hb1⟩
  go_wp2_with fail
  refine (HT.out _).mono ?_; rintro e w2 ⟨rfl, hb2⟩
  have HB2 := Lib.hid (hb1.trans (hb2.mono hb1.size))
  clear hb1 hb2
  go_wp2_with fail
  refine (HK.out _).mono ?_; rintro e w3 ⟨rfl, hb3⟩
  have HB3 := Lib.hid (HB2.out.trans (hb3.mono HB2.out.size))
  clear hb3 HB2 HK HT
  have hp := Box.new w3 28 #[.int .u64 1, .int .u64 2, .int .i64 66, .int .i64 70, .int .i64 512]
  have hpd := hp.drew
  have C1 := Lib.hid (fun wx (hx : Box w3 28 #[.int .u64 1, .int .u64 2, .int .i64 66, .int .i64 70, .int .i64 512] wx) => hx.carry (HG.out wx))
  have C2 := Lib.hid (fun wx (hx : Box w3 28 #[.int .u64 1, .int .u64 2, .int .i64 66, .int .i64 70, .int .i64 512] wx) => hx.carry (n2 wx))
  have C3 := Lib.hid (fun wx (hx : Box w3 28 #[.int .u64 1, .int .u64 2, .int .i64 66, .int .i64 70, .int .i64 512] wx) => hx.carry (n3 wx))
  have C4 := Lib.hid (fun wx (hx : Box w3 28 #[.int .u64 1, .int .u64 2, .int .i64 66, .int .i64 70, .int .i64 512] wx) => hx.carry (n4 wx))
  have C5 := Lib.hid (fun wx (hx : Box w3 28 #[.int .u64 1, .int .u64 2, .int .i64 66, .int .i64 70, .int .i64 512] wx) => hx.carry (n5 wx))
  clear n2 n3 n4 n5 HG
  go_wp2_with fail
  go_region_held3 (fun wx => wx.cell? ⟨w3.heap.size, 0, none⟩ = some (.int .u64 1) ∧ wx.cell? ⟨w3.heap.size, 1, none⟩ = some (.int .u64 2) ∧ wx.cell? ⟨w3.heap.size, 2, none⟩ = some (.int .i64 66) ∧ wx.cell? ⟨w3.heap.size, 3, none⟩ = some (.int .i64 70) ∧ wx.cell? ⟨w3.heap.size, 4, none⟩ = some (.int .i64 512))
    (first | (with_reducible exact Box.c5 (by assumption)))
    (first
      | (with_reducible refine (C1.out _ (by assumption)).mono ?_; rintro e w1 ⟨rfl, hp⟩)
      | (with_reducible refine (C2.out _ (by assumption)).mono ?_; rintro e w1 ⟨rfl, hp⟩)
      | (with_reducible refine (C3.out _ (by assumption)).mono ?_; rintro e w1 ⟨rfl, hp⟩)
      | (with_reducible refine (C4.out _ (by assumption)).mono ?_; rintro e w1 ⟨rfl, hp⟩)
      | (with_reducible refine (C5.out _ (by assumption)).mono ?_; rintro e w1 ⟨rfl, hp⟩))
  all_goals
    go_wp2_with fail
    go_ret
    exact ⟨rfl, HB3.out.trans (hp.below.mono HB3.out.size)⟩
end Go.Proofs.YtlidieffaaicaaaGreat
