/- A superblock's text as the document has it. Conditions: numbers of 64 bits. -/
import Derived.Test.YtlidieffaaicaaaGreatSuA
import Derived.Test.YtlidieffaaicaaaGreatSealK
namespace Go.Proofs.YtlidieffaaicaaaGreat
open Go.ChangeShapes Go.WideShapes Go.RowKit Go.Codec Go.Super
set_option maxRecDepth 100000
theorem rput_no (g c : Nat) (r t n : Int) (h : ¬ S.Ok ⟨g, c, r, t, n⟩) (w : World) : Calls Tryz.prog 37 #[.agg #[.int .u64 g, .int .u64 c, .int .i64 r, .int .i64 t, .int .i64 n]] w fun e w' => e = .returned (.tuple #[.string ⟨#[]⟩, .int .i64 4]) ∧ Below w.heap.size w w' := by
  have H1 := Lib.hid (fun w' => rmay_c g c r t n w')
  simp only [h, decide_false] at H1
  have HX := Box.new w 45 #[.int .u64 g, .int .u64 c, .int .i64 r, .int .i64 t, .int .i64 n]
  obtain ⟨c0, c1, c2, c3, c4⟩ := HX.c5
  have HB := Lib.hid HX.below
  clear h HX
  go_enter Tryz.func37, Tryz.ntmps37
  go_wp2_with (go_at_call 69; refine (H1.out _).mono ?_; rintro e w1 ⟨rfl, hb1⟩)
  go_ret2
  exact ⟨rfl, HB.out.trans (hb1.mono HB.out.size)⟩
set_option maxHeartbeats 4000000 in
theorem rput_yes (g c a b m : Nat) (hg : g < 18446744073709551616) (hc : c < 18446744073709551616) (h : S.Ok ⟨g, c, (a : Nat), (b : Nat), (m : Nat)⟩) (w : World) : Calls Tryz.prog 37 #[.agg #[.int .u64 g, .int .u64 c, .int .i64 (a : Nat), .int .i64 (b : Nat), .int .i64 (m : Nat)]] w fun e w' => e = .returned (.tuple #[.string (bs (Seal.sheet g 0 (be 8 c ++ be 2 a ++ be 2 b ++ be 2 m) 88)), .int .i64 0]) ∧ Below w.heap.size w w' := by
  have H1 := Lib.hid (fun w' => rmay_c g c a b m w')
  simp only [h, decide_true] at H1
  obtain ⟨_, h1, h2, h3, h4, h5, h6⟩ := h
  simp only at h1 h2 h3 h4 h5 h6
  have HX := Box.new w 45 #[.int .u64 g, .int .u64 c, .int .i64 (a : Nat), .int .i64 (b : Nat), .int .i64 (m : Nat)]
  obtain ⟨w0, ew0⟩ : ∃ w0, w.alloc (.cells #[.int .u64 g, .int .u64 c, .int .i64 (a : Nat), .int .i64 (b : Nat), .int .i64 (m : Nat)] 45) = w0 := ⟨_, rfl⟩
  rw [ew0] at HX
  have hw1 : IntKind.u64.wrap (a : Int) = (a : Int) := by rw [IntKind.wrap_u64]; omega
  have hw2 : IntKind.u64.wrap (b : Int) = (b : Int) := by rw [IntKind.wrap_u64]; omega
  have hw3 : IntKind.u64.wrap (m : Int) = (m : Int) := by rw [IntKind.wrap_u64]; omega
  have n1 : ∀ wx, Calls Tryz.prog 70 #[.int .u64 c, .int .i64 8] wx fun e w' => e = .returned (.string (bs (be 8 c))) ∧ Below wx.heap.size wx w' := fun wx => number_any c 8 hc (by omega) wx
  have n2 : ∀ wx, Calls Tryz.prog 70 #[.int .u64 a, .int .i64 2] wx fun e w' => e = .returned (.string (bs (be 2 a))) ∧ Below wx.heap.size wx w' := fun wx => number_any a 2 (by omega) (by omega) wx
  have n3 : ∀ wx, Calls Tryz.prog 70 #[.int .u64 b, .int .i64 2] wx fun e w' => e = .returned (.string (bs (be 2 b))) ∧ Below wx.heap.size wx w' := fun wx => number_any b 2 (by omega) (by omega) wx
  have n4 : ∀ wx, Calls Tryz.prog 70 #[.int .u64 m, .int .i64 2] wx fun e w' => e = .returned (.string (bs (be 2 m))) ∧ Below wx.heap.size wx w' := fun wx => number_any m 2 (by omega) (by omega) wx
  have hl : (be 8 c ++ be 2 a ++ be 2 b ++ be 2 m).length = 14 := by simp [be_length]
  have p1 : bs (be 8 c) ++ bs (be 2 a) = bs (be 8 c ++ be 2 a) := bs_append _ _
  have p2 : bs (be 8 c ++ be 2 a) ++ bs (be 2 b) = bs (be 8 c ++ be 2 a ++ be 2 b) := bs_append _ _
  have p3 : bs (be 8 c ++ be 2 a ++ be 2 b) ++ bs (be 2 m) = bs (be 8 c ++ be 2 a ++ be 2 b ++ be 2 m) := bs_append _ _
  have z1 : ¬ 9223372036854775807 < (bs (be 8 c)).size + (bs (be 2 a)).size := by simp [bs_size, be_length]
  have z2 : ¬ 9223372036854775807 < (bs (be 8 c ++ be 2 a)).size + (bs (be 2 b)).size := by simp [bs_size, be_length]
  have z3 : ¬ 9223372036854775807 < (bs (be 8 c ++ be 2 a ++ be 2 b)).size + (bs (be 2 m)).size := by simp [bs_size, be_length]
  have hst := rstamp_fits g 0 (bs (be 8 c ++ be 2 a ++ be 2 b ++ be 2 m)) 88 (by rw [bs_size, hl]; omega) hg (by omega)
  rw [bs_size, hl, bs_list] at hst
  generalize Seal.sheet g 0 (be 8 c ++ be 2 a ++ be 2 b ++ be 2 m) 88 = sh at *
  generalize bs (be 8 c ++ be 2 a ++ be 2 b ++ be 2 m) = q4 at *
  generalize bs (be 8 c ++ be 2 a ++ be 2 b) = q3 at *
  generalize bs (be 8 c ++ be 2 a) = q2 at *
  generalize bs (be 8 c) = q1 at *
  generalize bs (be 2 a) = s2 at *
  generalize bs (be 2 b) = s3 at *
  generalize bs (be 2 m) = s4 at *
  have C1 := Lib.hid (fun wx (hx : Box w 45 #[.int .u64 g, .int .u64 c, .int .i64 (a : Nat), .int .i64 (b : Nat), .int .i64 (m : Nat)] wx) => hx.carry (n1 wx))
  have C2 := Lib.hid (fun wx (hx : Box w 45 #[.int .u64 g, .int .u64 c, .int .i64 (a : Nat), .int .i64 (b : Nat), .int .i64 (m : Nat)] wx) => hx.carry (n2 wx))
  have C3 := Lib.hid (fun wx (hx : Box w 45 #[.int .u64 g, .int .u64 c, .int .i64 (a : Nat), .int .i64 (b : Nat), .int .i64 (m : Nat)] wx) => hx.carry (n3 wx))
  have C4 := Lib.hid (fun wx (hx : Box w 45 #[.int .u64 g, .int .u64 c, .int .i64 (a : Nat), .int .i64 (b : Nat), .int .i64 (m : Nat)] wx) => hx.carry (n4 wx))
  have C5 := Lib.hid hst
  have HY := Lib.hid HX
  obtain ⟨c0, c1, c2, c3, c4⟩ := HY.out.c5
  clear n1 n2 n3 n4 hst hl h1 h2 h3 h4 h5 h6 HX
  go_enter Tryz.func37, Tryz.ntmps37
  go_wp2_with fail
  refine (H1.out _).mono ?_; rintro e w1 ⟨rfl, hb1⟩
  clear c0 c1 c2 c3 c4
  have hp := HY.out.later hb1
  have hpd := hp.drew
  clear hb1 HY
  go_wp2_with fail
  go_region_held3 (fun wx => wx.cell? ⟨w.heap.size, 0, none⟩ = some (.int .u64 g) ∧ wx.cell? ⟨w.heap.size, 1, none⟩ = some (.int .u64 c) ∧ wx.cell? ⟨w.heap.size, 2, none⟩ = some (.int .i64 (a : Nat)) ∧ wx.cell? ⟨w.heap.size, 3, none⟩ = some (.int .i64 (b : Nat)) ∧ wx.cell? ⟨w.heap.size, 4, none⟩ = some (.int .i64 (m : Nat)))
    (first | (with_reducible exact Box.c5 (by assumption)))
    (first
      | (with_reducible refine (C1.out _ (by assumption)).mono ?_; rintro e w1 ⟨rfl, hp⟩)
      | (with_reducible refine (C2.out _ (by assumption)).mono ?_; rintro e w1 ⟨rfl, hp⟩)
      | (with_reducible refine (C3.out _ (by assumption)).mono ?_; rintro e w1 ⟨rfl, hp⟩)
      | (with_reducible refine (C4.out _ (by assumption)).mono ?_; rintro e w1 ⟨rfl, hp⟩))
  all_goals
    go_wp2_with (go_at_call 71; refine (C5.out _).mono ?_; rintro e w9 ⟨rfl, hb9⟩)
    go_ret2
    exact ⟨rfl, hp.below.trans (hb9.mono hp.below.size)⟩
theorem rput_c (s : S) (hg : s.gen < 18446744073709551616) (hc : s.calls < 18446744073709551616) (w : World) : Calls Tryz.prog 37 #[.agg #[.int .u64 s.gen, .int .u64 s.calls, .int .i64 s.root, .int .i64 s.table, .int .i64 s.secs]] w fun e w' => e = .returned (.tuple #[.string (bs (put s).1), .int .i64 (put s).2]) ∧ Below w.heap.size w w' := by
  obtain ⟨g, c, r, t, n⟩ := s
  by_cases h : S.Ok ⟨g, c, r, t, n⟩
  · obtain ⟨a, rfl⟩ : ∃ a : Nat, r = a := ⟨r.toNat, by have := h.2.2.2.1; simp only at this; omega⟩
    obtain ⟨b, rfl⟩ : ∃ a : Nat, t = a := ⟨t.toNat, by have := h.2.2.2.2.2.1; simp only at this; omega⟩
    obtain ⟨m, rfl⟩ : ∃ a : Nat, n = a := ⟨n.toNat, by have := h.2.1; simp only at this; omega⟩
    have e : put ⟨g, c, (a : Nat), (b : Nat), (m : Nat)⟩ = (Seal.sheet g 0 (be 8 c ++ be 2 a ++ be 2 b ++ be 2 m) 88, 0) := by
      unfold put txt
      rw [if_pos h]
      simp
    rw [e]
    exact rput_yes g c a b m hg hc h w
  · have e : put ⟨g, c, r, t, n⟩ = ([], 4) := if_neg h
    rw [e]
    exact rput_no g c r t n h w
end Go.Proofs.YtlidieffaaicaaaGreat
