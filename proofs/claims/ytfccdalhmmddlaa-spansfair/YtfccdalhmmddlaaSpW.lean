/- One act on both sets. Conditions: none. -/
import Derived.Test.YtfccdalhmmddlaaSpV
namespace Go.Proofs.Ytfccdalhmmddlaa
open Go.ChangeShapes Go.WideShapes Go.RowKit Go.Spans
set_option maxRecDepth 100000
/-- Both sets, apart from each other, in blocks of the call's own; they have the same sectors. -/
structure Two (B w0 : Nat) (w : World) (S : Nat) (v : Value) (n : Nat) (xs : List Sp) (R b cap : Nat) (h : Nat → Bool) : Prop where
  st : St w S v n xs
  rf : Rf w R b n cap h
  nR : R ∉ S :: ob v
  nb : b ∉ S :: ob v
  lS : B ≤ S
  lv : ∀ g ∈ ob v, B ≤ g
  lR : B ≤ R
  lb : B ≤ b
  sz : w0 ≤ w.heap.size
section
variable {B w0 : Nat} {w w' : World} {S n R b cap : Nat} {v v' : Value} {xs ys : List Sp} {h h' : Nat → Bool}
theorem Two.below (x : Two B w0 w S v n xs R b cap h) (hb : Below w.heap.size w w') : Two B w0 w' S v n xs R b cap h :=
  ⟨x.st.below hb, x.rf.below hb, x.nR, x.nb, x.lS, x.lv, x.lR, x.lb, Nat.le_trans x.sz hb.size⟩
theorem Two.to (x : Two B w0 w S v n xs R b cap h) (t : To w w' S v v' n ys) : Two B w0 w' S v' n ys R b cap h := by
  obtain ⟨r1, r2, r3⟩ := x.rf.lt
  have hlow : B ≤ w.heap.size := Nat.le_of_lt (Nat.lt_of_le_of_lt x.lR r1)
  refine ⟨t.st, x.rf.kept t.kp x.nR x.nb, fun hm => ?_, fun hm => ?_, x.lS, fun g hg => ?_, x.lR, x.lb, Nat.le_trans x.sz t.kp.size⟩
  · rcases List.mem_cons.1 hm with rfl | hm
    · exact x.nR (by simp)
    · rcases t.lies _ hm with e | e
      · exact x.nR (by simp [e])
      · omega
  · rcases List.mem_cons.1 hm with rfl | hm
    · exact x.nb (by simp)
    · rcases t.lies _ hm with e | e
      · exact x.nb (by simp [e])
      · omega
  · rcases t.lies _ hg with e | e
    · exact x.lv _ e
    · omega
theorem Two.ref (x : Two B w0 w S v n xs R b cap h) (r : Rf w' R b n cap h') (k : Kp w w' [b]) : Two B w0 w' S v n xs R b cap h' := by
  have hnb := x.nb
  exact ⟨x.st.kept k (fun hm => hnb (by simp at hm; simp [hm])) (fun g hg hm => hnb (by simp at hm; subst hm; simp [hg])), r, x.nR, x.nb, x.lS, x.lv, x.lR, x.lb, Nat.le_trans x.sz k.size⟩
theorem Two.kpS (x : Two B w0 w S v n xs R b cap h) : ∀ y ∈ S :: ob v, B ≤ y := fun y hy => by
  rcases List.mem_cons.1 hy with rfl | hy
  · exact x.lS
  · exact x.lv _ hy
end
/-- Behind an act: both sets again, and what lay below B as it lay. -/
def OneP (B w0 n : Nat) (e : Ending) (w' : World) : Prop :=
  ∃ S' R' v' xs' b' cap', e = .returned (.tuple #[.pointer (some ⟨S', 0, none⟩), .pointer (some ⟨R', 0, none⟩), .bool true]) ∧ Two B w0 w' S' v' n xs' R' b' cap' (hasB xs')
set_option maxHeartbeats 4000000 in
theorem one_c {B w0 : Nat} {w wB : World} {S n R b cap : Nat} {v : Value} {xs : List Sp} (x : Two B w0 w S v n xs R b cap (hasB xs)) (hB : Below B wB w) (t a c q : Int) (ht0 : 0 ≤ t) (ha0 : -9223372036854775808 ≤ a) (ha1 : a ≤ 9223372036854775807) :
    Calls Try.prog 9 #[.pointer (some ⟨S, 0, none⟩), .pointer (some ⟨R, 0, none⟩), .agg #[.int .u8 t, .int .i64 a, .int .i64 c, .int .i64 q]] w fun e w' => OneP B w0 n e w' ∧ Below B wB w' := by
  have hx : Is (w.alloc (.cells #[.int .u8 t, .int .i64 a, .int .i64 c, .int .i64 q] 31)) w.heap.size 31 #[.int .u8 t, .int .i64 a, .int .i64 c, .int .i64 q] := Is.new _ _ _
  have hB1 : Below B wB (w.alloc (.cells #[.int .u8 t, .int .i64 a, .int .i64 c, .int .i64 q] 31)) := hB.alloc (Nat.le_trans (Nat.le_of_lt (Nat.lt_of_le_of_lt x.lR x.rf.lt.1)) (Nat.le_refl _)) _
  have hal : Below w.heap.size w (w.alloc (.cells #[.int .u8 t, .int .i64 a, .int .i64 c, .int .i64 q] 31)) := (Below.refl _ w).alloc (Nat.le_refl _) _
  have x1 := x.below hal
  have hSw := x.st.one.lt
  have hvw : ∀ g ∈ ob v, g < w.heap.size := fun g hg => (x.st.row.lt g hg).2
  have hRw := x.rf.lt
  have hBw : B ≤ w.heap.size := Nat.le_of_lt (Nat.lt_of_le_of_lt x.lR x.rf.lt.1)
  obtain ⟨w1, hw1⟩ : ∃ w1, w.alloc (.cells #[.int .u8 t, .int .i64 a, .int .i64 c, .int .i64 q] 31) = w1 := ⟨_, rfl⟩
  rw [hw1] at hx hB1 x1 hal
  have hcell : ∀ W, Is W w.heap.size 31 #[.int .u8 t, .int .i64 a, .int .i64 c, .int .i64 q] → W.cell? ⟨w.heap.size, 0, none⟩ = some (.int .u8 t) ∧ W.cell? ⟨w.heap.size, 1, none⟩ = some (.int .i64 a) ∧ W.cell? ⟨w.heap.size, 2, none⟩ = some (.int .i64 c) := fun W hW => by
    have e0 := hW.cell 0
    have e1 := hW.cell 1
    have e2 := hW.cell 2
    simp at e0 e1 e2
    exact ⟨e0, e1, e2⟩
  have hnS : w.heap.size ∉ S :: ob v := fun hm => by
    rcases List.mem_cons.1 hm with e | e
    · omega
    · have := hvw _ e; omega
  obtain ⟨c0, c1, c2⟩ := hcell w1 hx
  have x1' := Lib.hid x1
  have hm : t.tmod 5 = 0 ∨ t.tmod 5 = 1 ∨ t.tmod 5 = 2 ∨ t.tmod 5 = 3 ∨ t.tmod 5 = 4 := by
    rw [Int.tmod_eq_emod_of_nonneg ht0]
    omega
  have hgive : (Calls Try.prog 17 #[.pointer (some ⟨S, 0, none⟩), .int .i64 a] w1 fun e w2 => e = .returned (.int .i64 (rgiveE n (hasB xs) a)) ∧ (w2.cell? ⟨w.heap.size, 1, none⟩ = some (.int .i64 a)) ∧ Calls Try.prog 24 #[.pointer (some ⟨R, 0, none⟩), .int .i64 a] w2 fun e w3 => e = .returned (.int .i64 (rgiveE n (hasB xs) a)) ∧ OneP B w0 n (.returned (.tuple #[.pointer (some ⟨S, 0, none⟩), .pointer (some ⟨R, 0, none⟩), .bool true])) w3 ∧ Below B wB w3) := by
    obtain ⟨g1, g2, g3⟩ := give_eq x1'.out.st.ok a
    refine (give_c x1'.out.st a ha0 ha1).mono ?_
    rintro e w2 ⟨rfl, v', hto⟩
    have x2 := x1'.out.to hto
    have hb2 := hB1.trans (hto.kp.below (Nat.le_trans hBw hal.size) x1'.out.kpS)
    refine ⟨by rw [g1], (hcell w2 (hto.kp.is hx hnS)).2.1, (rgive_c x2.rf a).mono ?_⟩
    rintro e w3 ⟨rfl, hr, hk⟩
    have x3 := (x2.ref hr hk)
    exact ⟨rfl, ⟨S, R, v', fillX n xs a (a + 1), b, cap, rfl, x3.st, x3.rf.ext (fun k _ => (g3 k).symm), x3.nR, x3.nb, x3.lS, x3.lv, x3.lR, x3.lb, x3.sz⟩, hb2.trans (hk.below (by have := hto.kp.size; have := hal.size; omega) (fun y hy => by simp at hy; subst hy; exact x3.lb))⟩
  have hfill : (Calls Try.prog 18 #[.pointer (some ⟨S, 0, none⟩), .int .i64 a, .int .i64 c] w1 fun e w2 => e = .returned (.int .i64 (rfillE n (hasB xs) a c)) ∧ (w2.cell? ⟨w.heap.size, 1, none⟩ = some (.int .i64 a)) ∧ (w2.cell? ⟨w.heap.size, 2, none⟩ = some (.int .i64 c)) ∧ Calls Try.prog 25 #[.pointer (some ⟨R, 0, none⟩), .int .i64 a, .int .i64 c] w2 fun e w3 => e = .returned (.int .i64 (rfillE n (hasB xs) a c)) ∧ OneP B w0 n (.returned (.tuple #[.pointer (some ⟨S, 0, none⟩), .pointer (some ⟨R, 0, none⟩), .bool true])) w3 ∧ Below B wB w3) := by
    obtain ⟨g1, g2, g3⟩ := fill_eq x1'.out.st.ok a c
    refine (fill_c x1'.out.st a c).mono ?_
    rintro e w2 ⟨rfl, v', hto⟩
    have x2 := x1'.out.to hto
    have hb2 := hB1.trans (hto.kp.below (Nat.le_trans hBw hal.size) x1'.out.kpS)
    obtain ⟨_, e1, e2⟩ := hcell w2 (hto.kp.is hx hnS)
    refine ⟨by rw [g1], e1, e2, (rfill_c x2.rf a c).mono ?_⟩
    rintro e w3 ⟨rfl, hr, hk⟩
    have x3 := (x2.ref hr hk)
    exact ⟨rfl, ⟨S, R, v', fillX n xs a c, b, cap, rfl, x3.st, x3.rf.ext (fun k _ => (g3 k).symm), x3.nR, x3.nb, x3.lS, x3.lv, x3.lR, x3.lb, x3.sz⟩, hb2.trans (hk.below (by have := hto.kp.size; have := hal.size; omega) (fun y hy => by simp at hy; subst hy; exact x3.lb))⟩
  have htake : (Calls Try.prog 19 #[.pointer (some ⟨S, 0, none⟩), .int .i64 a] w1 fun e w2 => ∃ p1 l1 k1, e = .returned (.tuple #[.slice p1 l1 k1, .int .i64 (rtakeE n (hasB xs) a)]) ∧ (w2.cell? ⟨w.heap.size, 1, none⟩ = some (.int .i64 a)) ∧ Calls Try.prog 26 #[.pointer (some ⟨R, 0, none⟩), .int .i64 a] w2 fun e w3 => ∃ p2 l2 k2, e = .returned (.tuple #[.slice p2 l2 k2, .int .i64 (rtakeE n (hasB xs) a)]) ∧ Calls Try.prog 27 #[.slice p1 l1 k1, .slice p2 l2 k2] w3 fun e w4 => e = .returned (.bool true) ∧ OneP B w0 n (.returned (.tuple #[.pointer (some ⟨S, 0, none⟩), .pointer (some ⟨R, 0, none⟩), .bool true])) w4 ∧ Below B wB w4) := by
    obtain ⟨g1, g4, g2, g3⟩ := take_eq x1'.out.st.ok a
    refine (take_c x1'.out.st a).mono ?_
    rintro e w2 ⟨r, v', rfl, hto, hrow⟩
    obtain ⟨p1, k1, rfl⟩ := own_slice hrow
    have x2 := x1'.out.to hto
    have hb2 := hB1.trans (hto.kp.below (Nat.le_trans hBw hal.size) x1'.out.kpS)
    refine ⟨p1, _, k1, by rw [g1], (hcell w2 (hto.kp.is hx hnS)).2.1, (rtake_c x2.rf a).mono ?_⟩
    rintro e w3 ⟨r2, rfl, hr, hrow2, hk⟩
    obtain ⟨p2, k2, rfl⟩ := own_slice hrow2
    have x3 := (x2.ref hr hk)
    have hl := takeL_len x1'.out.st.ok a
    have hn := x1'.out.st.hi
    have hs1 := hal.size
    have hs2 := hto.kp.size
    have hrow' : w3.ownsRow w1.heap.size 3 1 (.slice p1 (takeL xs a).length k1) (takeL xs a).length (ints (takeL xs a)) := by
      rcases hrow.2 with ⟨q1, q2⟩ | ⟨g, kp, cur, q1, q2, q3, q4⟩
      · exact ⟨hrow.1, .inl ⟨q1, q2⟩⟩
      · exact ⟨hrow.1, .inr ⟨g, kp, cur, q1, q2, hk.is (show Is w2 g 3 cur from q3) (by simp; omega), q4⟩⟩
    refine ⟨p2, _, k2, rfl, (Same_c hrow' (by rw [g4]; exact hrow2) (by omega)).mono ?_⟩
    rintro e w4 ⟨rfl, hb4⟩
    have x4 := x3.below hb4
    have hb3 := hb2.trans (hk.below (by omega) (fun y hy => by simp at hy; subst hy; exact x3.lb))
    exact ⟨rfl, ⟨S, R, v', takeX xs a, b, cap, rfl, x4.st, x4.rf.ext (fun k _ => (g3 k).symm), x4.nR, x4.nb, x4.lS, x4.lv, x4.lR, x4.lb, x4.sz⟩, hb3.trans (hb4.mono (by have := hk.size; omega))⟩
  have hcopy : (Calls Try.prog 20 #[.pointer (some ⟨S, 0, none⟩)] w1 fun e w2 => ∃ S', e = .returned (.pointer (some ⟨S', 0, none⟩)) ∧ Calls Try.prog 28 #[.pointer (some ⟨R, 0, none⟩)] w2 fun e w3 => ∃ R', e = .returned (.pointer (some ⟨R', 0, none⟩)) ∧ OneP B w0 n (.returned (.tuple #[.pointer (some ⟨S', 0, none⟩), .pointer (some ⟨R', 0, none⟩), .bool true])) w3 ∧ Below B wB w3) := by
    refine (copy_c x1'.out.st).mono ?_
    rintro e w2 ⟨S', v', rfl, hst, hS', hv', hb2⟩
    refine ⟨S', rfl, (rcopy_c (x1'.out.rf.below hb2)).mono ?_⟩
    rintro e w3 ⟨R', rfl, b', cap', hr, hR', hb', hb3⟩
    have hs1 := hal.size
    have hs2 := hb2.size
    have hSl := hst.one.lt
    have hvl : ∀ g ∈ ob v', g < w2.heap.size := fun g hg => (hst.row.lt g hg).2
    refine ⟨R', rfl, ⟨S', R', v', xs, b', cap', rfl, hst.below hb3, hr, fun hm => ?_, fun hm => ?_, by omega, fun g hg => by have := hv' g hg; omega, by omega, by omega, ?_⟩, (hB1.trans (hb2.mono (by omega))).trans (hb3.mono (by omega))⟩
    · rcases List.mem_cons.1 hm with e | e
      · omega
      · have := hvl _ e; omega
    · rcases List.mem_cons.1 hm with e | e
      · omega
      · have := hvl _ e; omega
    · have := x1'.out.sz
      have := hb3.size
      omega
  clear x x1 hx hcell hnS hvw x1' hal
  rcases hm with hm | hm | hm | hm | hm
  · clear hfill htake hcopy
    go_enter Try.func9, Try.ntmps9
    go_wp2_with (first
      | (go_at_call 17; refine hgive.mono ?_; clear hgive; rintro e w2 ⟨rfl, d1, hnext⟩)
      | (go_at_call 24; refine hnext.mono ?_; clear hnext; rintro e w3 ⟨rfl, hfin⟩))
    go_ret3
    exact hfin
  · clear hfill htake hcopy
    go_enter Try.func9, Try.ntmps9
    go_wp2_with (first
      | (go_at_call 17; refine hgive.mono ?_; clear hgive; rintro e w2 ⟨rfl, d1, hnext⟩)
      | (go_at_call 24; refine hnext.mono ?_; clear hnext; rintro e w3 ⟨rfl, hfin⟩))
    go_ret3
    exact hfin
  · clear hgive htake hcopy
    go_enter Try.func9, Try.ntmps9
    go_wp2_with (first
      | (go_at_call 18; refine hfill.mono ?_; clear hfill; rintro e w2 ⟨rfl, d1, d2, hnext⟩)
      | (go_at_call 25; refine hnext.mono ?_; clear hnext; rintro e w3 ⟨rfl, hfin⟩))
    go_ret3
    exact hfin
  · clear hgive hfill hcopy
    go_enter Try.func9, Try.ntmps9
    go_wp2_with (first
      | (go_at_call 19; refine htake.mono ?_; clear htake; rintro e w2 ⟨p1, l1, k1, rfl, d1, hnext⟩)
      | (go_at_call 26; refine hnext.mono ?_; clear hnext; rintro e w3 ⟨p2, l2, k2, rfl, hsame⟩)
      | (go_at_call 27; refine hsame.mono ?_; clear hsame; rintro e w4 ⟨rfl, hfin⟩))
    go_ret3
    exact hfin
  · clear hgive hfill htake
    go_enter Try.func9, Try.ntmps9
    go_wp2_with (first
      | (go_at_call 20; refine hcopy.mono ?_; clear hcopy; rintro e w2 ⟨S', rfl, hnext⟩)
      | (go_at_call 28; refine hnext.mono ?_; clear hnext; rintro e w3 ⟨R', rfl, hfin⟩))
    go_ret3
    exact hfin
end Go.Proofs.Ytfccdalhmmddlaa
