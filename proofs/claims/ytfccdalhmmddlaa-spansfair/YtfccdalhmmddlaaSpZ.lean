/- Acts that come in; SpansPlays. Conditions: none. -/
import Derived.Test.YtfccdalhmmddlaaSpW
import Derived.Test.YtfccdalhmmddlaaSpX
namespace Go.Proofs.Ytfccdalhmmddlaa
open Go.ChangeShapes Go.WideShapes Go.RowKit Go.Spans
set_option maxRecDepth 100000
structure Ac where
  what : Nat
  a : Int
  b : Int
  ask : Int
/-- The acts lie from A on, below block B. -/
def Acts (w : World) (B : Nat) (A : Option Addr) (l : List Ac) : Prop := ∀ i x, l[i]? = some x →
  ∃ ad, A = some ad ∧ (ad.add (i * 4)).block < B ∧ w.cell? (ad.add (i * 4)) = some (.int .u8 (x.what : Nat)) ∧ w.cell? ⟨(ad.add (i * 4)).block, (ad.add (i * 4)).off + 1, none⟩ = some (.int .i64 x.a) ∧
    w.cell? ⟨(ad.add (i * 4)).block, (ad.add (i * 4)).off + 2, none⟩ = some (.int .i64 x.b) ∧ w.cell? ⟨(ad.add (i * 4)).block, (ad.add (i * 4)).off + 3, none⟩ = some (.int .i64 x.ask) ∧ -9223372036854775808 ≤ x.a ∧ x.a ≤ 9223372036854775807
theorem Acts.at {W : World} {A : Option Addr} {l : List Ac} (h : Acts W W.heap.size A l) {k : Nat} {x : Ac} (hx : l[k]? = some x) : ∃ ad, A = some ad ∧ (-9223372036854775808 ≤ x.a ∧ x.a ≤ 9223372036854775807) ∧ ∀ w, Below W.heap.size W w →
    w.cell? (ad.add (k * 4)) = some (.int .u8 (x.what : Nat)) ∧ w.cell? ⟨(ad.add (k * 4)).block, (ad.add (k * 4)).off + 1, none⟩ = some (.int .i64 x.a) ∧
    w.cell? ⟨(ad.add (k * 4)).block, (ad.add (k * 4)).off + 2, none⟩ = some (.int .i64 x.b) ∧ w.cell? ⟨(ad.add (k * 4)).block, (ad.add (k * 4)).off + 3, none⟩ = some (.int .i64 x.ask) := by
  obtain ⟨ad, e, hB, c0, c1, c2, c3, h1, h2⟩ := h k x hx
  exact ⟨ad, e, ⟨h1, h2⟩, fun w hb => ⟨(hb.cell (p := ad.add (k * 4)) hB).trans c0, (hb.cell (p := ⟨(ad.add (k * 4)).block, (ad.add (k * 4)).off + 1, none⟩) hB).trans c1, (hb.cell (p := ⟨(ad.add (k * 4)).block, (ad.add (k * 4)).off + 2, none⟩) hB).trans c2, (hb.cell (p := ⟨(ad.add (k * 4)).block, (ad.add (k * 4)).off + 3, none⟩) hB).trans c3⟩⟩
/-- Both sets in a world that keeps what lay below B. -/
structure Bo (B : Nat) (W w : World) (S : Nat) (v : Value) (n : Nat) (xs : List Sp) (R b cap : Nat) : Prop where
  two : Two B B w S v n xs R b cap (hasB xs)
  be : Below B W w
section
variable {B : Nat} {W w w' : World} {S n R b cap : Nat} {v : Value} {xs : List Sp}
theorem Bo.later (x : Bo B W w S v n xs R b cap) (hb : Below w.heap.size w w') : Bo B W w' S v n xs R b cap := ⟨x.two.below hb, x.be.trans (hb.mono x.two.sz)⟩
theorem Bo.drew (x : Bo B W w S v n xs R b cap) : Bo B W w.drew S v n xs R b cap := x.later (below_drew (Below.refl _ w))
theorem Bo.has (x : Bo B W w S v n xs R b cap) (q : Int) : Calls Try.prog 10 #[.pointer (some ⟨S, 0, none⟩), .int .i64 q] w fun e w' => e = .returned (.bool (decide (0 ≤ q) && hasB xs q.toNat)) ∧ Bo B W w' S v n xs R b cap :=
  (has_c x.two.st q).mono fun _ _ ⟨he, hb⟩ => ⟨he, x.later hb⟩
theorem Bo.rhas (x : Bo B W w S v n xs R b cap) (q : Int) : Calls Try.prog 11 #[.pointer (some ⟨R, 0, none⟩), .int .i64 q] w fun e w' => e = .returned (.bool (decide (0 ≤ q) && hasB xs q.toNat)) ∧ Bo B W w' S v n xs R b cap :=
  (rhas_c x.two.rf q).mono fun _ _ ⟨he, hw⟩ => by
    subst hw
    refine ⟨?_, x⟩
    rw [he]
    congr 2
    by_cases h0 : 0 ≤ q
    · simp only [h0, decide_true, Bool.true_and]
      cases hh : hasB xs q.toNat with
      | false => simp
      | true => have := hasB_lt x.two.st.ok hh; simp; omega
    · simp [h0]
theorem Bo.count (x : Bo B W w S v n xs R b cap) : Calls Try.prog 12 #[.pointer (some ⟨S, 0, none⟩)] w fun e w' => e = .returned (.int .i64 (cnt xs : Nat)) ∧ Bo B W w' S v n xs R b cap :=
  (count_c x.two.st).mono fun _ _ ⟨he, hb⟩ => ⟨he, x.later hb⟩
theorem Bo.rcount (x : Bo B W w S v n xs R b cap) : Calls Try.prog 13 #[.pointer (some ⟨R, 0, none⟩)] w fun e w' => e = .returned (.int .i64 (cnt xs : Nat)) ∧ Bo B W w' S v n xs R b cap :=
  (rcount_c x.two.rf).mono fun _ _ ⟨he, hw⟩ => by
    subst hw
    have e : Fl (hasB xs) n = elems xs := elems_eq x.two.st.ok
    rw [e, elems_len] at he
    exact ⟨he, x⟩
theorem Bo.lists (x : Bo B W w S v n xs R b cap) : Calls Try.prog 15 #[.pointer (some ⟨S, 0, none⟩)] w fun e w1 => ∃ p k, e = .returned (.slice p xs.length k) ∧ Bo B W w1 S v n xs R b cap ∧ Calls Try.prog 16 #[.pointer (some ⟨R, 0, none⟩)] w1 fun e w2 => ∃ p' k', e = .returned (.slice p' xs.length k') ∧ Bo B W w2 S v n xs R b cap ∧ Calls Try.prog 14 #[.slice p xs.length k, .slice p' xs.length k'] w2 fun e w3 => e = .returned (.bool true) ∧ Bo B W w3 S v n xs R b cap :=
  (list_c x.two.st).mono fun e w1 ⟨u, he, hr, _, hb⟩ => by
    obtain ⟨p, k, rfl⟩ := hr.len
    have x1 := x.later hb
    refine ⟨p, k, he, x1, (rlist_c x1.two.rf x1.two.st.ok).mono fun e2 w2 ⟨u2, he2, hr2, hb2⟩ => ?_⟩
    obtain ⟨p', k', rfl⟩ := own_slice hr2
    have x2 := x1.later hb2
    refine ⟨p', k', he2, x2, (same_c (row_later hr hb2) hr2 ?_).mono fun e3 w3 ⟨he3, hb3⟩ => ⟨he3, x2.later hb3⟩⟩
    have := len_le x.two.st.ok
    have := x.two.st.hi
    omega
end
set_option maxHeartbeats 8000000 in
theorem plays_c (n : Int) (A : Option Addr) (l : List Ac) (cap : Nat) (hl : l.length ≤ maxLen) (W : World) (h : Acts W W.heap.size A l) :
    Calls Try.prog 3 #[.int .i64 n, .slice A l.length cap] W fun e w' => e = .returned (.bool true) ∧ Below W.heap.size W w' := by
  unfold maxLen at hl
  have hWk := works_c
  have hb0 := Below.refl W.heap.size W
  by_cases hn : 1 ≤ n ∧ n ≤ 4096
  · obtain ⟨n', rfl⟩ := Int.eq_ofNat_of_zero_le (a := n) (by omega)
    have hN := (new_c W (n' : Int)).mono (R' := fun e w' => e = .returned (.pointer (some ⟨W.heap.size, 0, none⟩)) ∧ w' = W.alloc (.cells #[.int .i64 (n' : Int), .slice none 0 0] 53)) (fun e w' hh => by rcases hh with ⟨_, _, h1, h2⟩ | ⟨h1, _⟩; exact ⟨h1, h2⟩; omega)
    have hst : St (W.alloc (.cells #[.int .i64 (n' : Int), .slice none 0 0] 53)) W.heap.size (.slice none 0 0) n' [] := ⟨Is.new _ _ _, Rw.nil _ _, ok_nil _, by omega, by omega⟩
    have hal : Below W.heap.size W (W.alloc (.cells #[.int .i64 (n' : Int), .slice none 0 0] 53)) := hb0.alloc (Nat.le_refl _) _
    have hR := (rnew_ok (W.alloc (.cells #[.int .i64 (n' : Int), .slice none 0 0] 53)) n' (by omega) (by omega)).mono (R' := fun e w' => ∃ R b, e = .returned (.pointer (some ⟨R, 0, none⟩)) ∧ Bo W.heap.size W w' W.heap.size (.slice none 0 0) n' [] R b n') (fun e w' ⟨R, he, b, hr, h1, h2, h3⟩ => by
      simp at h1 h2
      refine ⟨R, b, he, ⟨hst.below h3, hr, ?_, ?_, Nat.le_refl _, (fun g hg => by cases hg), by omega, by omega, ?_⟩, hal.trans (h3.mono (by simp))⟩
      · simp [ob, Value.ownBlock]; omega
      · simp [ob, Value.ownBlock]; omega
      · have := h3.size; simp at this; omega)
    clear hst hal
    have h' := Lib.hid h
    clear h
    by_cases h80 : 80 < l.length
    · have hz : (80 : Int) < (l.length : Int) := by omega
      generalize l.length = len at *
      go_enter Try.func3, Try.ntmps3
      go_wp2_with (first
        | (go_at_call 6; refine hN.mono ?_; clear hN; rintro e w1 ⟨rfl, rfl⟩)
        | (go_at_call 7; refine hR.mono ?_; clear hR; rintro e w2 ⟨R, b, rfl, x0⟩)
        | (go_at_call 8; refine (hWk _).mono ?_; clear hWk; rintro e w3 ⟨rfl, b3⟩))
      go_ret
      exact ⟨rfl, x0.be.trans (b3.mono x0.two.sz)⟩
    · have hz : ¬ ((80 : Int) < (l.length : Int)) := by omega
      obtain ⟨len, hlen⟩ : ∃ len, len = l.length := ⟨_, rfl⟩
      rw [← hlen] at hz hl h80 ⊢
      have hlen' := Lib.hid hlen
      clear hlen
      go_enter Try.func3, Try.ntmps3
      go_wp2_with (first
        | (go_at_call 6; refine hN.mono ?_; clear hN; rintro e w1 ⟨rfl, rfl⟩)
        | (go_at_call 7; refine hR.mono ?_; clear hR; rintro e w2 ⟨R, b, rfl, x0⟩))
      go_loopw [5, 6, 7] (fun s r i wr => ∃ (k S R b c : Nat) (v : Value) (xs : List Sp), i = .int .i64 k ∧ k ≤ len ∧ s = .pointer (some ⟨S, 0, none⟩) ∧ r = .pointer (some ⟨R, 0, none⟩) ∧ Bo W.heap.size W wr S v n' xs R b c) (fun _ _ i _ => len - (Lib.intOf i).toNat)
      case atStart => exact ⟨0, _, _, _, _, _, _, rfl, Nat.zero_le _, rfl, rfl, x0⟩
      case round =>
        obtain ⟨k, S, R, b, c, v, xs, rfl, hk, rfl, rfl, x⟩ := hrel
        clear x0
        have xh := Lib.hid x
        clear x
        by_cases hlt : k < len
        · have hkz : (k : Int) < (len : Int) := by omega
          obtain ⟨y, hy⟩ : ∃ y, l[k]? = some y := ⟨_, List.getElem?_eq_getElem (by rw [← hlen'.out]; exact hlt)⟩
          obtain ⟨ad, rfl, ⟨hy1, hy2⟩, hac⟩ := h'.out.at hy
          obtain ⟨a0, a1, a2, a3⟩ := hac wr xh.out.be
          have hO := one_c xh.out.two xh.out.be (y.what : Int) y.a y.b y.ask (by omega) hy1 hy2
          clear hy
          go_wp2_with (go_at_call 9; refine hO.mono ?_; clear hO; rintro e w3 ⟨⟨S3, R3, v3, xs3, b3, c3, rfl, x3⟩, be3⟩)
          have X := (Bo.mk x3 be3).drew
          have C10 := Lib.hid (fun (w : World) (x : Bo W.heap.size W w S3 v3 n' xs3 R3 b3 c3) => x.has y.ask)
          have C11 := Lib.hid (fun (w : World) (x : Bo W.heap.size W w S3 v3 n' xs3 R3 b3 c3) => x.rhas y.ask)
          have C12 := Lib.hid (fun (w : World) (x : Bo W.heap.size W w S3 v3 n' xs3 R3 b3 c3) => x.count)
          have C13 := Lib.hid (fun (w : World) (x : Bo W.heap.size W w S3 v3 n' xs3 R3 b3 c3) => x.rcount)
          have C15 := Lib.hid (fun (w : World) (x : Bo W.heap.size W w S3 v3 n' xs3 R3 b3 c3) => x.lists)
          have HC := Lib.hid (fun (w : World) (x : Bo W.heap.size W w S3 v3 n' xs3 R3 b3 c3) => (hac w x.be).2.2.2)
          generalize (decide (0 ≤ y.ask) && hasB xs3 y.ask.toNat) = E at C10 C11
          clear a0 a1 a2 a3 x3 be3 hac xh
          generalize cnt xs3 = cn at *
          generalize xs3.length = ln at *
          go_region_held3 (fun wx => wx.cell? ⟨(ad.add (k * 4)).block, (ad.add (k * 4)).off + 3, none⟩ = some (.int .i64 y.ask)) (first | exact HC.out _ (by assumption))
            (first
              | (go_at_call 10; with_reducible refine (C10.out _ (by assumption)).mono ?_; clear X; rintro e w4 ⟨rfl, X⟩)
              | (go_at_call 11; with_reducible refine (C11.out _ (by assumption)).mono ?_; clear X; rintro e w5 ⟨rfl, X⟩)
              | (go_at_call 12; with_reducible refine (C12.out _ (by assumption)).mono ?_; clear X; rintro e w6 ⟨rfl, X⟩)
              | (go_at_call 13; with_reducible refine (C13.out _ (by assumption)).mono ?_; clear X; rintro e w7 ⟨rfl, X⟩)
              | (go_at_call 15; with_reducible refine (C15.out _ (by assumption)).mono ?_; clear X; rintro e w8 ⟨p8, k8, rfl, X, hnext⟩)
              | (go_at_call 16; refine hnext.mono ?_; clear hnext X; rintro e w9 ⟨p9, k9, rfl, X, hsame⟩)
              | (go_at_call 14; refine hsame.mono ?_; clear hsame X; rintro e w10 ⟨rfl, X⟩))
          go_wp2
          go_roundw
          case rel => exact ⟨k + 1, S3, R3, b3, c3, v3, xs3, rfl, hlt, rfl, rfl, X⟩
          case measure => simp [Lib.intOf]; omega
        · have hke : k = len := by omega
          subst hke
          go_wp2_with (go_at_call 8; refine (hWk _).mono ?_; clear hWk; rintro e w3 ⟨rfl, b3⟩)
          go_ret
          exact ⟨rfl, xh.out.be.trans (b3.mono xh.out.two.sz)⟩
  · have hN := (new_c W n).mono (R' := fun e w' => e = .returned (.pointer none) ∧ w' = W) (fun e w' hh => by rcases hh with ⟨h1, h2, _⟩ | ⟨_, h1, h2⟩; omega; exact ⟨h1, h2⟩)
    have hR := rnew_bad W n hn
    clear h
    generalize l.length = len at *
    go_enter Try.func3, Try.ntmps3
    go_wp2_with (first
      | (go_at_call 6; refine hN.mono ?_; clear hN; rintro e w1 ⟨rfl, h1⟩; cases h1.symm)
      | (go_at_call 7; refine hR.mono ?_; clear hR; rintro e w2 ⟨rfl, h1⟩; cases h1.symm)
      | (go_at_call 8; refine (hWk _).mono ?_; clear hWk; rintro e w3 ⟨rfl, b3⟩))
    go_ret
    exact ⟨rfl, b3⟩
end Go.Proofs.Ytfccdalhmmddlaa
