/- The chapter's examples: SpansKnown. Conditions: none. -/
import Derived.Test.YtfccdalhmmddlaaSpX
namespace Go.Proofs.Ytfccdalhmmddlaa
open Go.ChangeShapes Go.WideShapes Go.RowKit Go.Spans
set_option maxRecDepth 100000
set_option maxHeartbeats 8000000 in
theorem known_c (w : World) : Calls Try.prog 5 #[] w fun e w' => e = .returned (.bool true) ∧ Below w.heap.size w w' := by
  have hV := given_c w
  have hW := works_c
  have c2 := fun (W : World) (S : Nat) (v : Value) (x : Ow w.heap.size w W S v 10 [(2, 4), (8, 1)]) => x.give 10 2 [(2, 4), (8, 1)] (by decide) (by decide) (by decide +kernel) (by decide +kernel)
  have c3 := fun (W : World) (S : Nat) (v : Value) (x : Ow w.heap.size w W S v 10 [(2, 4), (8, 1)]) => x.give (-1) 2 [(2, 4), (8, 1)] (by decide) (by decide) (by decide +kernel) (by decide +kernel)
  have c4 := fun (W : World) (S : Nat) (v : Value) (x : Ow w.heap.size w W S v 10 [(2, 4), (8, 1)]) => x.fill 5 9 6 [(2, 4), (8, 1)] (by decide +kernel) (by decide +kernel)
  have c5 := fun (W : World) (S : Nat) (v : Value) (x : Ow w.heap.size w W S v 10 [(2, 4), (8, 1)]) => x.fill 6 8 0 [(2, 7)] (by decide +kernel) (by decide +kernel)
  have c6 := fun (W : World) (S : Nat) (v : Value) (x : Ow w.heap.size w W S v 10 [(2, 7)]) => x.fill 9 11 2 [(2, 7)] (by decide +kernel) (by decide +kernel)
  have c7 := fun (W : World) (S : Nat) (v : Value) (x : Ow w.heap.size w W S v 10 [(2, 7)]) => x.fill 3 2 2 [(2, 7)] (by decide +kernel) (by decide +kernel)
  have c8 := fun (W : World) (S : Nat) (v : Value) (x : Ow w.heap.size w W S v 10 [(2, 7)]) => x.fill 10 10 0 [(2, 7)] (by decide +kernel) (by decide +kernel)
  have c9 := fun (W : World) (S : Nat) (v : Value) (x : Ow w.heap.size w W S v 10 [(2, 7)]) => x.give 9223372036854775807 2 [(2, 7)] (by decide) (by decide) (by decide +kernel) (by decide +kernel)
  have c10 := fun (W : World) (S : Nat) (v : Value) (x : Ow w.heap.size w W S v 10 [(2, 7)]) => (show Calls Try.prog 15 #[.pointer (some ⟨S, 0, none⟩)] W (fun e w' => ∃ p c, e = .returned (.slice p 1 c) ∧ w'.ownsRow 0 63 2 (.slice p 1 c) 1 (ecs [(2, 7)]) ∧ Ow w.heap.size w w' S v 10 [(2, 7)]) from x.list)
  have c11 := fun (W : World) (p : Option Addr) (c : Nat) (hr : W.ownsRow 0 63 2 (.slice p 1 c) 1 (ecs [(2, 7)])) => same_c (xs := [(2, 7)]) (row_later hr ((Below.refl _ W).alloc (Nat.le_refl _) _)) (lit_row W 50 2 1 (ecs [(2, 7)]) rfl (by omega)) (by decide)
  have c12 := fun (W : World) (S : Nat) (v : Value) (x : Ow w.heap.size w W S v 10 [(2, 7)]) => (show Calls Try.prog 19 #[.pointer (some ⟨S, 0, none⟩), .int .i64 8] W (fun e w' => ∃ p c, e = .returned (.tuple #[.slice p 0 c, .int .i64 7]) ∧ (∃ v', Ow w.heap.size w w' S v' 10 [(2, 7)]) ∧ w'.ownsRow 0 3 1 (.slice p 0 c) 0 (ints ([] : List Nat))) from x.take 8 7 [(2, 7)] ([] : List Nat) (by decide +kernel) (by decide +kernel) (by decide +kernel))
  have c13 := fun (W : World) (S : Nat) (v : Value) (x : Ow w.heap.size w W S v 10 [(2, 7)]) => (show Calls Try.prog 19 #[.pointer (some ⟨S, 0, none⟩), .int .i64 0] W (fun e w' => ∃ p c, e = .returned (.tuple #[.slice p 0 c, .int .i64 2]) ∧ (∃ v', Ow w.heap.size w w' S v' 10 [(2, 7)]) ∧ w'.ownsRow 0 3 1 (.slice p 0 c) 0 (ints ([] : List Nat))) from x.take 0 2 [(2, 7)] ([] : List Nat) (by decide +kernel) (by decide +kernel) (by decide +kernel))
  have c14 := fun (W : World) (S : Nat) (v : Value) (x : Ow w.heap.size w W S v 10 [(2, 7)]) => (show Calls Try.prog 19 #[.pointer (some ⟨S, 0, none⟩), .int .i64 7] W (fun e w' => ∃ p c, e = .returned (.tuple #[.slice p 7 c, .int .i64 0]) ∧ (∃ v', Ow w.heap.size w w' S v' 10 ([] : List Sp)) ∧ w'.ownsRow 0 3 1 (.slice p 7 c) 7 (ints [2, 3, 4, 5, 6, 7, 8])) from x.take 7 0 ([] : List Sp) [2, 3, 4, 5, 6, 7, 8] (by decide +kernel) (by decide +kernel) (by decide +kernel))
  have c15 := fun (W : World) (p : Option Addr) (c : Nat) (hr : W.ownsRow 0 3 1 (.slice p 7 c) 7 (ints [2, 3, 4, 5, 6, 7, 8])) => is_c (L := [2, 3, 4, 5, 6, 7, 8]) (row_later hr ((Below.refl _ W).alloc (Nat.le_refl _) _)) (lit_row W 3 1 7 (ints [2, 3, 4, 5, 6, 7, 8]) rfl (by omega)) (by decide)
  have c16 := fun (W : World) (S : Nat) (v : Value) (x : Ow w.heap.size w W S v 10 ([] : List Sp)) => (show Calls Try.prog 12 #[.pointer (some ⟨S, 0, none⟩)] W (fun e w' => e = .returned (.int .i64 0) ∧ Below W.heap.size W w' ∧ Ow w.heap.size w w' S v 10 ([] : List Sp)) from x.count 0 (by decide +kernel))
  have c17 := fun (W : World) (S : Nat) (v : Value) (x : Ow w.heap.size w W S v 10 ([] : List Sp)) => (show Calls Try.prog 15 #[.pointer (some ⟨S, 0, none⟩)] W (fun e w' => ∃ p c, e = .returned (.slice p 0 c) ∧ w'.ownsRow 0 63 2 (.slice p 0 c) 0 (ecs ([] : List Sp)) ∧ Ow w.heap.size w w' S v 10 ([] : List Sp)) from x.list)
  have c18 := fun (W : World) (S : Nat) (v : Value) (x : Ow w.heap.size w W S v 10 ([] : List Sp)) => x.give 3 0 [(3, 1)] (by decide) (by decide) (by decide +kernel) (by decide +kernel)
  have c19 := fun (W : World) (S : Nat) (v : Value) (x : Ow w.heap.size w W S v 10 [(3, 1)]) => (show Calls Try.prog 10 #[.pointer (some ⟨S, 0, none⟩), .int .i64 (3)] W (fun e w' => e = .returned (.bool true) ∧ Below W.heap.size W w') from has_c x.st (3))
  have c20 := fun (W : World) (S : Nat) (v : Value) (x : Ow w.heap.size w W S v 10 [(3, 1)]) => (show Calls Try.prog 10 #[.pointer (some ⟨S, 0, none⟩), .int .i64 (10)] W (fun e w' => e = .returned (.bool false) ∧ Below W.heap.size W w') from has_c x.st (10))
  have c21 := fun (W : World) (S : Nat) (v : Value) (x : Ow w.heap.size w W S v 10 [(3, 1)]) => (show Calls Try.prog 10 #[.pointer (some ⟨S, 0, none⟩), .int .i64 (-1)] W (fun e w' => e = .returned (.bool false) ∧ Below W.heap.size W w') from has_c x.st (-1))
  have n1 := fun (W : World) => (take_nil 1 W).mono (R' := fun e w' => e = .returned (.tuple #[.slice none 0 0, .int .i64 1]) ∧ Below W.heap.size W w') (fun e w' ⟨h1, h2⟩ => ⟨h1, by rw [h2]; exact Below.refl _ _⟩)
  have n2 := fun (W : World) => (new_c W 0).mono (R' := fun e w' => e = .returned (.pointer none) ∧ Below W.heap.size W w') (fun e w' h => by rcases h with ⟨h1, _⟩ | ⟨_, h1, h2⟩; omega; exact ⟨h1, by rw [h2]; exact Below.refl _ _⟩)
  have n3 := fun (W : World) => (new_c W 4097).mono (R' := fun e w' => e = .returned (.pointer none) ∧ Below W.heap.size W w') (fun e w' h => by rcases h with ⟨_, h1, _⟩ | ⟨_, h1, h2⟩; omega; exact ⟨h1, by rw [h2]; exact Below.refl _ _⟩)
  have n4 := fun (W : World) => (new_c W 4096).mono (R' := fun e w' => (∃ q, e = .returned (.pointer (some ⟨q, 0, none⟩))) ∧ Below W.heap.size W w') (fun e w' h => by rcases h with ⟨_, _, h1, h2⟩ | ⟨h1, _⟩; exact ⟨⟨_, h1⟩, by rw [h2]; exact (Below.refl _ W).alloc (Nat.le_refl _) _⟩; omega)
  have n5 := fun (W : World) => (give_nil 0 W).mono (R' := fun e w' => e = .returned (.int .i64 1) ∧ Below W.heap.size W w') (fun e w' ⟨h1, h2⟩ => ⟨h1, by rw [h2]; exact Below.refl _ _⟩)
  have n6 := fun (W : World) (z : Nat) (hz : Is W z 53 #[.int .i64 0, .slice none 0 0]) => (fill_zero hz 0 0).mono (R' := fun e w' => e = .returned (.int .i64 1) ∧ Below W.heap.size W w') (fun e w' ⟨h1, h2⟩ => ⟨h1, by rw [h2]; exact Below.refl _ _⟩)
  have n7 := fun (W : World) => (has_nil W 0).mono (R' := fun e w' => e = .returned (.bool false) ∧ Below W.heap.size W w') (fun e w' ⟨h1, h2⟩ => ⟨h1, by rw [h2]; exact Below.refl _ _⟩)
  have n8 := fun (W : World) (z : Nat) (hz : Is W z 53 #[.int .i64 0, .slice none 0 0]) => count_zero hz
  have n9 := fun (W : World) => (list_nil W).mono (R' := fun e w' => (∃ p c, e = .returned (.slice p 0 c)) ∧ Below W.heap.size W w') (fun e w' ⟨u, h1, h2, _, h3⟩ => by obtain ⟨p, c, rfl⟩ := h2.len; exact ⟨⟨p, c, h1⟩, h3⟩)
  have n10 := fun (W : World) (z : Nat) (hz : Is W z 53 #[.int .i64 0, .slice none 0 0]) => (copy_zero hz).mono (R' := fun e w' => e = .returned (.pointer none) ∧ Below W.heap.size W w') (fun e w' ⟨h1, h2⟩ => ⟨h1, by rw [h2]; exact Below.refl _ _⟩)
  go_enter Try.func5, Try.ntmps5
  go_wp2_with (first
    | (go_at_call 22; refine hV.mono ?_; clear hV; rintro e w0 ⟨S, rfl, v0, x0⟩)
    | (go_at_call 8; refine (hW w0).mono ?_; rintro e w1 ⟨rfl, b1⟩; have x1 := x0.later b1)
    | (go_at_call 17; with_reducible refine (c2 _ _ _ x1).mono ?_; clear c2; rintro e w2 ⟨rfl, v2, x2⟩)
    | (go_at_call 17; with_reducible refine (c3 _ _ _ x2).mono ?_; clear c3; rintro e w3 ⟨rfl, v3, x3⟩)
    | (go_at_call 18; with_reducible refine (c4 _ _ _ x3).mono ?_; clear c4; rintro e w4 ⟨rfl, v4, x4⟩)
    | (go_at_call 18; with_reducible refine (c5 _ _ _ x4).mono ?_; clear c5; rintro e w5 ⟨rfl, v5, x5⟩)
    | (go_at_call 18; with_reducible refine (c6 _ _ _ x5).mono ?_; clear c6; rintro e w6 ⟨rfl, v6, x6⟩)
    | (go_at_call 18; with_reducible refine (c7 _ _ _ x6).mono ?_; clear c7; rintro e w7 ⟨rfl, v7, x7⟩)
    | (go_at_call 18; with_reducible refine (c8 _ _ _ x7).mono ?_; clear c8; rintro e w8 ⟨rfl, v8, x8⟩)
    | (go_at_call 17; with_reducible refine (c9 _ _ _ x8).mono ?_; clear c9; rintro e w9 ⟨rfl, v9, x9⟩)
    | (go_at_call 15; with_reducible refine (c10 _ _ _ x9).mono ?_; clear c10; rintro e w10 ⟨p10, q10, rfl, r10, x10⟩)
    | (go_at_call 14; refine (c11 _ _ _ r10).mono ?_; clear c11; rintro e w11 ⟨rfl, b11⟩; have x11 := x10.later (((Below.refl _ w10).alloc (Nat.le_refl _) _).trans (b11.mono (by simp))))
    | (go_at_call 19; with_reducible refine (c12 _ _ _ x11).mono ?_; clear c12; rintro e w12 ⟨p12, q12, rfl, ⟨v12, x12⟩, r12⟩)
    | (go_at_call 19; with_reducible refine (c13 _ _ _ x12).mono ?_; clear c13; rintro e w13 ⟨p13, q13, rfl, ⟨v13, x13⟩, r13⟩)
    | (go_at_call 19; with_reducible refine (c14 _ _ _ x13).mono ?_; clear c14; rintro e w14 ⟨p14, q14, rfl, ⟨v14, x14⟩, r14⟩)
    | (go_at_call 23; refine (c15 _ _ _ r14).mono ?_; clear c15; rintro e w15 ⟨rfl, b15⟩; have x15 := x14.later (((Below.refl _ w14).alloc (Nat.le_refl _) _).trans (b15.mono (by simp))))
    | (go_at_call 12; with_reducible refine (c16 _ _ _ x15).mono ?_; clear c16; rintro e w16 ⟨rfl, b16, x16⟩)
    | (go_at_call 15; with_reducible refine (c17 _ _ _ x16).mono ?_; clear c17; rintro e w17 ⟨p17, q17, rfl, r17, x17⟩)
    | (go_at_call 17; with_reducible refine (c18 _ _ _ x17).mono ?_; clear c18; rintro e w18 ⟨rfl, v18, x18⟩)
    | (go_at_call 10; with_reducible refine (c19 _ _ _ x18).mono ?_; clear c19; rintro e w19 ⟨rfl, b19⟩; have x19 := x18.later b19)
    | (go_at_call 10; with_reducible refine (c20 _ _ _ x19).mono ?_; clear c20; rintro e w20 ⟨rfl, b20⟩; have x20 := x19.later b20)
    | (go_at_call 10; with_reducible refine (c21 _ _ _ x20).mono ?_; clear c21; rintro e w21 ⟨rfl, b21⟩; have x21 := x20.later b21)
    | (go_at_call 19; with_reducible refine (n1 _).mono ?_; clear n1; rintro e y1 ⟨rfl, f1⟩; have z1 := (Kp.of_below f1 []).is (Is.new w21 53 #[.int .i64 0, .slice none 0 0]) (by simp); have o0 := x21.sz; have g1 := (x21.be.alloc o0 (.cells #[.int .i64 0, .slice none 0 0] 53)).trans (f1.mono (by simp; omega)); have o1 : w.heap.size ≤ y1.heap.size := Nat.le_trans (by simp; omega) f1.size)
    | (go_at_call 6; with_reducible refine (n2 _).mono ?_; clear n2; rintro e y2 ⟨rfl, f2⟩; have z2 := (Kp.of_below f2 []).is z1 (by simp); have g2 := g1.trans (f2.mono o1); have o2 := Nat.le_trans o1 f2.size)
    | (go_at_call 6; with_reducible refine (n3 _).mono ?_; clear n3; rintro e y3 ⟨rfl, f3⟩; have z3 := (Kp.of_below f3 []).is z2 (by simp); have g3 := g2.trans (f3.mono o2); have o3 := Nat.le_trans o2 f3.size)
    | (go_at_call 6; with_reducible refine (n4 _).mono ?_; clear n4; rintro e y4 ⟨⟨k4, rfl⟩, f4⟩; have z4 := (Kp.of_below f4 []).is z3 (by simp); have g4 := g3.trans (f4.mono o3); have o4 := Nat.le_trans o3 f4.size)
    | (go_at_call 17; with_reducible refine (n5 _).mono ?_; clear n5; rintro e y5 ⟨rfl, f5⟩; have z5 := (Kp.of_below f5 []).is z4 (by simp); have g5 := g4.trans (f5.mono o4); have o5 := Nat.le_trans o4 f5.size)
    | (go_at_call 18; with_reducible refine (n6 _ _ z5).mono ?_; clear n6; rintro e y6 ⟨rfl, f6⟩; have z6 := (Kp.of_below f6 []).is z5 (by simp); have g6 := g5.trans (f6.mono o5); have o6 := Nat.le_trans o5 f6.size)
    | (go_at_call 10; with_reducible refine (n7 _).mono ?_; clear n7; rintro e y7 ⟨rfl, f7⟩; have z7 := (Kp.of_below f7 []).is z6 (by simp); have g7 := g6.trans (f7.mono o6); have o7 := Nat.le_trans o6 f7.size)
    | (go_at_call 12; with_reducible refine (n8 _ _ z7).mono ?_; clear n8; rintro e y8 ⟨rfl, f8⟩; have z8 := (Kp.of_below f8 []).is z7 (by simp); have g8 := g7.trans (f8.mono o7); have o8 := Nat.le_trans o7 f8.size)
    | (go_at_call 15; with_reducible refine (n9 _).mono ?_; clear n9; rintro e y9 ⟨⟨p9, q9, rfl⟩, f9⟩; have z9 := (Kp.of_below f9 []).is z8 (by simp); have g9 := g8.trans (f9.mono o8); have o9 := Nat.le_trans o8 f9.size)
    | (go_at_call 20; with_reducible refine (n10 _ _ z9).mono ?_; clear n10; rintro e y10 ⟨rfl, f10⟩; have z10 := (Kp.of_below f10 []).is z9 (by simp); have g10 := g9.trans (f10.mono o9); have o10 := Nat.le_trans o9 f10.size)
    | (go_at_call 8; refine (hW _).mono ?_; clear hW; rintro e y11 ⟨rfl, f11⟩; have g11 := g10.trans (f11.mono o10)))
  go_ret
  exact ⟨rfl, g11⟩
end Go.Proofs.Ytfccdalhmmddlaa
