/- A superblock's text: the program's and the document's. Conditions: numbers of 64 bits. -/
import Derived.Test.YtlidieffaaicaaaGreatSuB
namespace Go.Proofs.YtlidieffaaicaaaGreat
open Go.ChangeShapes Go.WideShapes Go.RowKit Go.Codec Go.Super
set_option maxRecDepth 100000
theorem is_below {w w' : World} {k : Nat} {t : TypeId} {cs : Array Value} (h : Is w k t cs) (hb : Below w.heap.size w w') : Is w' k t cs := (hb.block k h.lt).trans h
/-- The five cells of a superblock. -/
theorem is5 {w : World} {k : Nat} {t : TypeId} {a b c d e : Value} (h : Is w k t #[a, b, c, d, e]) : w.cell? ⟨k, 0, none⟩ = some a ∧ w.cell? ⟨k, 1, none⟩ = some b ∧ w.cell? ⟨k, 2, none⟩ = some c ∧ w.cell? ⟨k, 3, none⟩ = some d ∧ w.cell? ⟨k, 4, none⟩ = some e :=
  ⟨h.cell 0, h.cell 1, h.cell 2, h.cell 3, h.cell 4⟩
theorem put_no (g c : Nat) (r t n : Int) (h : ¬ S.Ok ⟨g, c, r, t, n⟩) (w : World) : Calls Tryz.prog 35 #[.agg #[.int .u64 g, .int .u64 c, .int .i64 r, .int .i64 t, .int .i64 n]] w fun e w' => e = .returned (.tuple #[.string ⟨#[]⟩, .int .i64 4]) ∧ Below w.heap.size w w' := by
  have H1 := Lib.hid (fun w' => may_c g c r t n w')
  simp only [h, decide_false] at H1
  have HB := Lib.hid (below_box w (.cells #[.int .u64 g, .int .u64 c, .int .i64 r, .int .i64 t, .int .i64 n] 28))
  clear h
  go_enter Tryz.func35, Tryz.ntmps35
  go_wp2_with (go_at_call 54; refine (H1.out _).mono ?_; rintro e w1 ⟨rfl, hb1⟩)
  go_ret2
  exact ⟨rfl, HB.out.trans (hb1.mono HB.out.size)⟩
theorem put_yes (g c a b m : Nat) (h : S.Ok ⟨g, c, (a : Nat), (b : Nat), (m : Nat)⟩) (w : World) : Calls Tryz.prog 35 #[.agg #[.int .u64 g, .int .u64 c, .int .i64 (a : Nat), .int .i64 (b : Nat), .int .i64 (m : Nat)]] w fun e w' => e = .returned (.tuple #[.string (bs (Seal.sheet g 0 (be 8 c ++ be 2 a ++ be 2 b ++ be 2 m) 88)), .int .i64 0]) ∧ Below w.heap.size w w' := by
  have H1 := Lib.hid (fun w' => may_c g c a b m w')
  simp only [h, decide_true] at H1
  obtain ⟨_, h1, h2, h3, h4, h5, h6⟩ := h
  simp only at h1 h2 h3 h4 h5 h6
  have i0 := Is.new w 28 #[.int .u64 g, .int .u64 c, .int .i64 (a : Nat), .int .i64 (b : Nat), .int .i64 (m : Nat)]
  have b0 := below_box w (.cells #[.int .u64 g, .int .u64 c, .int .i64 (a : Nat), .int .i64 (b : Nat), .int .i64 (m : Nat)] 28)
  have HI := Lib.hid i0
  have HB := Lib.hid b0
  have hw1 : IntKind.u16.wrap (a : Int) = (a : Int) := by rw [IntKind.wrap_u16]; omega
  have hw2 : IntKind.u16.wrap (b : Int) = (b : Int) := by rw [IntKind.wrap_u16]; omega
  have hw3 : IntKind.u16.wrap (m : Int) = (m : Int) := by rw [IntKind.wrap_u16]; omega
  have e1 : more (some []) (be 8 c) = some (be 8 c) := rfl
  have e2 : more (some (be 8 c)) (be 2 a) = some (be 8 c ++ be 2 a) := rfl
  have e3 : more (some (be 8 c ++ be 2 a)) (be 2 b) = some (be 8 c ++ be 2 a ++ be 2 b) := rfl
  have e4 : more (some (be 8 c ++ be 2 a ++ be 2 b)) (be 2 m) = some (be 8 c ++ be 2 a ++ be 2 b ++ be 2 m) := rfl
  have hl : (be 8 c ++ be 2 a ++ be 2 b ++ be 2 m).length = 14 := by simp [be_length]
  have U1 := Lib.hid (fun w' x h => u64_any x c (some []) w' h (by simp [wlen]))
  have U2 := Lib.hid (fun w' x h => u16_any x a (some (be 8 c)) w' h (by simp [wlen, be_length]))
  have U3 := Lib.hid (fun w' x h => u16_any x b (some (be 8 c ++ be 2 a)) w' h (by simp [wlen, be_length]))
  have U4 := Lib.hid (fun w' x h => u16_any x m (some (be 8 c ++ be 2 a ++ be 2 b)) w' h (by simp [wlen, be_length]))
  have U5 := Lib.hid (fun w' x h => bytes_any x (some (be 8 c ++ be 2 a ++ be 2 b ++ be 2 m)) w' h (by simp [wlen, be_length]))
  have hst := stamp_fits g 0 (bs (be 8 c ++ be 2 a ++ be 2 b ++ be 2 m)) 88 (by rw [bs_size, hl]; omega)
  rw [bs_size, hl, bs_list] at hst
  have U6 := Lib.hid hst
  rw [e1] at U1
  rw [e2] at U2
  rw [e3] at U3
  rw [e4] at U4
  clear e1 e2 e3 e4 hst hl
  have t1 : (told (some (be 8 c ++ be 2 a ++ be 2 b ++ be 2 m))).1 = be 8 c ++ be 2 a ++ be 2 b ++ be 2 m := rfl
  have t2 : (told (some (be 8 c ++ be 2 a ++ be 2 b ++ be 2 m))).2 = 0 := rfl
  rw [t1, t2] at U5
  clear t1 t2 h1 h2 h3 h4 h5 h6
  generalize be 8 c ++ be 2 a ++ be 2 b ++ be 2 m = y4 at *
  generalize be 8 c ++ be 2 a ++ be 2 b = y3 at *
  generalize be 8 c ++ be 2 a = y2 at *
  generalize be 8 c = y1 at *
  obtain ⟨w0, ew0⟩ : ∃ w0, w.alloc (.cells #[.int .u64 g, .int .u64 c, .int .i64 (a : Nat), .int .i64 (b : Nat), .int .i64 (m : Nat)] 28) = w0 := ⟨_, rfl⟩
  rw [ew0] at HI HB
  obtain ⟨c0, c1, c2, c3, c4⟩ := is5 HI.out
  clear i0 b0
  go_enter Tryz.func35, Tryz.ntmps35
  go_wp2_with fail
  refine (H1.out _).mono ?_; rintro e w1 ⟨rfl, hb1⟩
  clear c0 c1 c2 c3 c4
  have i1 := (is_below HI.out hb1).alloc (.cells #[.pointer none, .int .i64 0, .int .i64 0] 122)
  have lt1 := (is_below HI.out hb1).lt
  have n1 : some w.heap.size ≠ some w1.heap.size := fun h => by injection h with h; omega
  have W1 := Lib.hid (U1.out _ _ (Wr.new w1))
  have B1 := Lib.hid ((HB.out.trans (hb1.mono HB.out.size)).trans ((below_box w1 (.cells #[.pointer none, .int .i64 0, .int .i64 0] 122)).mono (Nat.le_trans HB.out.size hb1.size)))
  have Z1 : w.heap.size ≤ w1.heap.size := Nat.le_of_lt lt1
  have I1 := Lib.hid i1
  have c1 := (is5 I1.out).2.1
  clear i1 lt1 hb1 HI HB H1 U1
  go_wp2_with fail
  refine W1.out.mono ?_; rintro e w2 ⟨rfl, a2, g2⟩
  have I2 := Lib.hid (I1.out.kept g2 n1)
  have B2 := Lib.hid (B1.out.trans (below_of_grow g2 B1.out.size Z1))
  have W2 := Lib.hid (U2.out _ _ a2)
  have c2 := (is5 I2.out).2.2.1
  clear c1 a2 g2 I1 B1 W1 U2
  go_wp2_with fail
  refine W2.out.mono ?_; rintro e w3 ⟨rfl, a2, g2⟩
  have I3 := Lib.hid (I2.out.kept g2 n1)
  have B3 := Lib.hid (B2.out.trans (below_of_grow g2 B2.out.size Z1))
  have W3 := Lib.hid (U3.out _ _ a2)
  have c3 := (is5 I3.out).2.2.2.1
  clear c2 a2 g2 I2 B2 W2 U3
  go_wp2_with fail
  refine W3.out.mono ?_; rintro e w4 ⟨rfl, a2, g2⟩
  have I4 := Lib.hid (I3.out.kept g2 n1)
  have B4 := Lib.hid (B3.out.trans (below_of_grow g2 B3.out.size Z1))
  have W4 := Lib.hid (U4.out _ _ a2)
  have c4 := (is5 I4.out).2.2.2.2
  clear c3 a2 g2 I3 B3 W3 U4
  go_wp2_with fail
  refine W4.out.mono ?_; rintro e w5 ⟨rfl, a2, g2⟩
  have I5 := Lib.hid (I4.out.kept g2 n1)
  have B5 := Lib.hid (B4.out.trans (below_of_grow g2 B4.out.size Z1))
  have W5 := Lib.hid (U5.out _ _ a2)
  clear c4 a2 g2 I4 B4 W4 U5
  go_wp2_with fail
  refine W5.out.mono ?_; rintro e w6 ⟨rfl, b6⟩
  have I6 := Lib.hid (is_below I5.out b6)
  have B6 := Lib.hid (B5.out.trans (b6.mono B5.out.size))
  have c0 := (is5 I6.out).1
  clear b6 I5 B5 W5
  go_wp2_with fail
  refine (U6.out _).mono ?_; rintro e w7 ⟨rfl, b7⟩
  have B7 := Lib.hid (B6.out.trans (b7.mono B6.out.size))
  clear b7 I6 B6 U6 c0
  go_wp2
  go_ret2
  exact ⟨rfl, B7.out⟩
theorem put_c (s : S) (w : World) : Calls Tryz.prog 35 #[.agg #[.int .u64 s.gen, .int .u64 s.calls, .int .i64 s.root, .int .i64 s.table, .int .i64 s.secs]] w fun e w' => e = .returned (.tuple #[.string (bs (put s).1), .int .i64 (put s).2]) ∧ Below w.heap.size w w' := by
  obtain ⟨g, c, r, t, n⟩ := s
  by_cases h : S.Ok ⟨g, c, r, t, n⟩
  · obtain ⟨a, rfl⟩ : ∃ a : Nat, r = a := ⟨r.toNat, by have := h.2.2.2.1; simp only at this; omega⟩
    obtain ⟨b, rfl⟩ : ∃ a : Nat, t = a := ⟨t.toNat, by have := h.2.2.2.2.2.1; simp only at this; omega⟩
    obtain ⟨m, rfl⟩ : ∃ a : Nat, n = a := ⟨n.toNat, by have := h.2.1; simp only at this; omega⟩
    have e : put ⟨g, c, (a : Nat), (b : Nat), (m : Nat)⟩ = (Seal.sheet g 0 (be 8 c ++ be 2 a ++ be 2 b ++ be 2 m) 88, 0) := by
      unfold put txt
      rw [if_pos h]
      simp
    rw [e]
    exact put_yes g c a b m h w
  · have e : put ⟨g, c, r, t, n⟩ = ([], 4) := if_neg h
    rw [e]
    exact put_no g c r t n h w
end Go.Proofs.YtlidieffaaicaaaGreat
