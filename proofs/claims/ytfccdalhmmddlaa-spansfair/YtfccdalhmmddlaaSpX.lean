/- A set of the call's own through several calls; given, works. Conditions: none. -/
import Derived.Test.YtfccdalhmmddlaaSpV
namespace Go.Proofs.Ytfccdalhmmddlaa
open Go.ChangeShapes Go.WideShapes Go.RowKit Go.Spans
set_option maxRecDepth 100000
/-- A set in blocks of the call's own; what lay below B lies as it lay. -/
structure Ow (B : Nat) (wB w : World) (S : Nat) (v : Value) (n : Nat) (xs : List Sp) : Prop where
  st : St w S v n xs
  lS : B ≤ S
  lv : ∀ g ∈ ob v, B ≤ g
  be : Below B wB w
  sz : B ≤ w.heap.size
section
variable {B : Nat} {wB w w' : World} {S n : Nat} {v v' : Value} {xs ys : List Sp}
theorem Ow.later (x : Ow B wB w S v n xs) (hb : Below w.heap.size w w') : Ow B wB w' S v n xs :=
  ⟨x.st.below hb, x.lS, x.lv, x.be.trans (hb.mono x.sz), Nat.le_trans x.sz hb.size⟩
theorem Ow.to (x : Ow B wB w S v n xs) (t : To w w' S v v' n ys) : Ow B wB w' S v' n ys := by
  refine ⟨t.st, x.lS, fun g hg => ?_, x.be.trans (t.kp.below x.sz fun y hy => ?_), Nat.le_trans x.sz t.kp.size⟩
  · rcases t.lies _ hg with e | e
    · exact x.lv _ e
    · have := x.sz; omega
  · rcases List.mem_cons.1 hy with rfl | hy
    · exact x.lS
    · exact x.lv _ hy
theorem Ow.fill (x : Ow B wB w S v n xs) (f t E : Int) (ys : List Sp) (hE : fillE n xs f t = E) (hX : fillX n xs f t = ys) :
    Calls Try.prog 18 #[.pointer (some ⟨S, 0, none⟩), .int .i64 f, .int .i64 t] w fun e w' => e = .returned (.int .i64 E) ∧ ∃ v', Ow B wB w' S v' n ys :=
  (fill_c x.st f t).mono fun e w' ⟨he, v', ht⟩ => ⟨by rw [he, hE], v', x.to (hX ▸ ht)⟩
theorem Ow.give (x : Ow B wB w S v n xs) (a E : Int) (ys : List Sp) (h1 : -9223372036854775808 ≤ a) (h2 : a ≤ 9223372036854775807) (hE : fillE n xs a (a + 1) = E) (hX : fillX n xs a (a + 1) = ys) :
    Calls Try.prog 17 #[.pointer (some ⟨S, 0, none⟩), .int .i64 a] w fun e w' => e = .returned (.int .i64 E) ∧ ∃ v', Ow B wB w' S v' n ys :=
  (give_c x.st a h1 h2).mono fun e w' ⟨he, v', ht⟩ => ⟨by rw [he, hE], v', x.to (hX ▸ ht)⟩
theorem Ow.take (x : Ow B wB w S v n xs) (k E : Int) (ys : List Sp) (L : List Nat) (hE : takeE xs k = E) (hX : takeX xs k = ys) (hL : takeL xs k = L) :
    Calls Try.prog 19 #[.pointer (some ⟨S, 0, none⟩), .int .i64 k] w fun e w' => ∃ p c, e = .returned (.tuple #[.slice p L.length c, .int .i64 E]) ∧ (∃ v', Ow B wB w' S v' n ys) ∧ w'.ownsRow 0 3 1 (.slice p L.length c) L.length (ints L) :=
  (take_c x.st k).mono fun e w' ⟨r, v', he, ht, hr⟩ => by
    rw [hL] at hr
    rw [hE] at he
    obtain ⟨p, c, rfl⟩ := own_slice hr
    refine ⟨p, c, he, ⟨v', x.to (hX ▸ ht)⟩, ?_⟩
    rcases hr.2 with ⟨q1, q2⟩ | ⟨g, kp, cur, q1, q2, q3, q4⟩
    · exact ⟨hr.1, .inl ⟨q1, q2⟩⟩
    · exact ⟨hr.1, .inr ⟨g, kp, cur, q1, Nat.zero_le _, q3, q4⟩⟩
theorem Ow.count (x : Ow B wB w S v n xs) (c : Nat) (hc : cnt xs = c) : Calls Try.prog 12 #[.pointer (some ⟨S, 0, none⟩)] w fun e w' => e = .returned (.int .i64 (c : Nat)) ∧ Below w.heap.size w w' ∧ Ow B wB w' S v n xs :=
  (count_c x.st).mono fun e w' ⟨he, hb⟩ => ⟨by rw [he, hc], hb, x.later hb⟩
theorem Ow.list (x : Ow B wB w S v n xs) : Calls Try.prog 15 #[.pointer (some ⟨S, 0, none⟩)] w fun e w' => ∃ p c, e = .returned (.slice p xs.length c) ∧ w'.ownsRow 0 63 2 (.slice p xs.length c) xs.length (ecs xs) ∧ Ow B wB w' S v n xs :=
  (list_c x.st).mono fun e w' ⟨u, he, hr, _, hb⟩ => by
    obtain ⟨p, c, rfl⟩ := hr.len
    exact ⟨p, c, he, hr.low (Nat.zero_le _), x.later hb⟩
end
theorem row_later {w w' : World} {base e size n : Nat} {v : Value} {cs : List Value} (h : w.ownsRow base e size v n cs) (hb : Below w.heap.size w w') : w'.ownsRow base e size v n cs := by
  rcases h.2 with ⟨q1, q2⟩ | ⟨g, kp, cur, q1, q2, q3, q4⟩
  · exact ⟨h.1, .inl ⟨q1, q2⟩⟩
  · exact ⟨h.1, .inr ⟨g, kp, cur, q1, q2, (Kp.of_below hb []).is (show Is w g e cur from q3) (by simp), q4⟩⟩
/-- A row that is written out. -/
theorem lit_row (W : World) (e size : Nat) (k : Nat) (cs : List Value) (hl : cs.length = k * size) (hk : k ≤ 4096) : (W.alloc (.cells cs.toArray e)).ownsRow 0 e size (.slice (some ⟨W.heap.size, 0, none⟩) k k) k cs :=
  ⟨hl, .inr ⟨W.heap.size, k, cs.toArray, rfl, Nat.zero_le _, Is.new W e cs.toArray, Nat.le_refl _, by unfold maxLen; omega, by simpa using hl, by rw [← hl]; exact List.take_length⟩⟩
theorem given_c (w : World) : Calls Try.prog 22 #[] w fun e w' => ∃ S, e = .returned (.pointer (some ⟨S, 0, none⟩)) ∧ ∃ v, Ow w.heap.size w w' S v 10 [(2, 4), (8, 1)] := by
  have hN := new_c w 10
  have h0 : Ow w.heap.size w (w.alloc (.cells #[.int .i64 10, .slice none 0 0] 53)) w.heap.size (.slice none 0 0) 10 [] :=
    ⟨⟨Is.new _ _ _, Rw.nil _ _, ok_nil _, by omega, by omega⟩, Nat.le_refl _, (fun g hg => by cases hg), (Below.refl _ w).alloc (Nat.le_refl _) _, by simp⟩
  have hF := h0.fill 2 6 0 [(2, 4)] (by decide +kernel) (by decide +kernel)
  have hG := fun (W : World) (S : Nat) (v : Value) (x : Ow w.heap.size w W S v 10 [(2, 4)]) => x.give 8 0 [(2, 4), (8, 1)] (by omega) (by omega) (by decide +kernel) (by decide +kernel)
  clear h0
  go_enter Try.func22, Try.ntmps22
  go_wp2_with (first
    | (go_at_call 6; refine hN.mono ?_; clear hN; rintro e w' (⟨_, _, rfl, rfl⟩ | ⟨hbad, _⟩))
    | (go_at_call 18; refine hF.mono ?_; clear hF; rintro e w1 ⟨rfl, v1, x1⟩)
    | (go_at_call 17; refine (hG _ _ _ x1).mono ?_; clear hG; rintro e w2 ⟨rfl, v2, x2⟩))
  go_ret
  exact ⟨_, rfl, _, x2⟩
set_option maxHeartbeats 2000000 in
theorem works_c (w : World) : Calls Try.prog 8 #[] w fun e w' => e = .returned (.bool true) ∧ Below w.heap.size w w' := by
  have hV := given_c w
  have hT := fun (W : World) (S : Nat) (v : Value) (x : Ow w.heap.size w W S v 10 [(2, 4), (8, 1)]) => x.take 2 0 [(4, 2), (8, 1)] [2, 3] (by decide +kernel) (by decide +kernel) (by decide +kernel)
  have hC := fun (W : World) (S : Nat) (v : Value) (x : Ow w.heap.size w W S v 10 [(4, 2), (8, 1)]) => x.count 3 (by decide +kernel)
  have hI := fun (W : World) (p : Option Addr) (c : Nat) (hr : W.ownsRow 0 3 1 (.slice p 2 c) 2 (ints [2, 3])) => is_c (L := [2, 3]) (row_later hr ((Below.refl _ W).alloc (Nat.le_refl _) _)) (lit_row W 3 1 2 (ints [2, 3]) rfl (by omega)) (by decide)
  have hG := fun (W : World) (S : Nat) (v : Value) (x : Ow w.heap.size w W S v 10 [(4, 2), (8, 1)]) => x.give 8 6 [(4, 2), (8, 1)] (by omega) (by omega) (by decide +kernel) (by decide +kernel)
  have hL := fun (W : World) (S : Nat) (v : Value) (x : Ow w.heap.size w W S v 10 [(4, 2), (8, 1)]) => x.list
  have hS := fun (W : World) (p : Option Addr) (c : Nat) (hr : W.ownsRow 0 63 2 (.slice p 2 c) 2 (ecs [(4, 2), (8, 1)])) => same_c (xs := [(4, 2), (8, 1)]) (row_later hr ((Below.refl _ W).alloc (Nat.le_refl _) _)) (lit_row W 50 2 2 (ecs [(4, 2), (8, 1)]) rfl (by omega)) (by decide)
  simp only [List.length_cons, List.length_nil] at hT hL
  go_enter Try.func8, Try.ntmps8
  go_wp2_with (first
    | (go_at_call 22; refine hV.mono ?_; clear hV; rintro e w1 ⟨S, rfl, v1, x1⟩)
    | (go_at_call 19; refine (hT _ _ _ x1).mono ?_; clear hT; rintro e w2 ⟨p, c, rfl, ⟨v2, x2⟩, r2⟩)
    | (go_at_call 12; refine (hC _ _ _ x2).mono ?_; clear hC; rintro e w3 ⟨rfl, b3, x3⟩; have r3 := row_later r2 b3)
    | (go_at_call 23; refine (hI _ _ _ r3).mono ?_; clear hI; rintro e w4 ⟨rfl, b4⟩; have x4 := x3.later (((Below.refl _ w3).alloc (Nat.le_refl _) _).trans (b4.mono (by simp))))
    | (go_at_call 17; refine (hG _ _ _ x4).mono ?_; clear hG; rintro e w5 ⟨rfl, v5, x5⟩)
    | (go_at_call 15; refine (hL _ _ _ x5).mono ?_; clear hL; rintro e w6 ⟨p6, c6, rfl, r6, x6⟩)
    | (go_at_call 14; refine (hS _ _ _ r6).mono ?_; clear hS; rintro e w7 ⟨rfl, b7⟩; have x7 := x6.later (((Below.refl _ w6).alloc (Nat.le_refl _) _).trans (b7.mono (by simp)))))
  go_ret
  exact ⟨rfl, x7.be⟩
end Go.Proofs.Ytfccdalhmmddlaa
