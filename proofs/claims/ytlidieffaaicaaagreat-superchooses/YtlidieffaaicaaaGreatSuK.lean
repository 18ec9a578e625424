/- What the slots tell. Conditions: none. -/
import Derived.Test.YtlidieffaaicaaaGreatSuH
namespace Go.Proofs.YtlidieffaaicaaaGreat
open Go.ChangeShapes Go.WideShapes Go.RowKit Go.Codec Go.Super
set_option maxRecDepth 100000
set_option linter.unusedSimpArgs false
/-- The superblock of one slot that counts, or none. -/
noncomputable def one (i : Nat) (n : Int) (r : List UInt8) : S := if (tk r).2 = 0 ∧ (tk r).1.gen % 2 = i ∧ (tk r).1.secs = n then (tk r).1 else S.none
theorem Box.put {w wx : World} {t : TypeId} {arr : Array Value} (h : Box w t arr wx) (i : Nat) (u : Value) : Box w t (arr.setIfInBounds i u) (wx.setCell ⟨w.heap.size, i, none⟩ u) := ⟨h.one.put i u, h.below.setCell (Nat.le_refl _) u⟩
theorem Box.off {w wx : World} {t : TypeId} {arr : Array Value} (h : Box w t arr wx) {X : Nat} (hX : w.heap.size < X) (i : Nat) (u : Value) : Box w t arr (wx.setCell ⟨X, i, none⟩ u) := ⟨h.one.other (by simp only; omega) u, h.below.setCell (Nat.le_of_lt hX) u⟩
/-- Two superblocks of the call's own, and what it will answer ahead of them. -/
structure T2 (w : World) (arr : Array Value) (wx : World) : Prop where
  box : Box w 93 #[.int .u64 0, .int .u64 0, .int .i64 0, .int .i64 0, .int .i64 0, .int .u64 0, .int .u64 0, .int .i64 0, .int .i64 0, .int .i64 0] wx
  two : Is wx (w.heap.size + 1) 93 arr
section
variable {w wx wy : World} {arr : Array Value}
theorem T2.later (h : T2 w arr wx) (hb : Below wx.heap.size wx wy) : T2 w arr wy := ⟨h.box.later hb, is_below h.two hb⟩
theorem T2.alloc (h : T2 w arr wx) (o : Obj) : T2 w arr (wx.alloc o) := ⟨h.box.alloc o, h.two.alloc o⟩
theorem T2.put (h : T2 w arr wx) (i : Nat) (u : Value) : T2 w (arr.setIfInBounds i u) (wx.setCell ⟨w.heap.size + 1, i, none⟩ u) := ⟨h.box.off (Nat.lt_succ_self _) i u, h.two.put i u⟩
end
theorem is10 {w : World} {k : Nat} {t : TypeId} {a b c d e a' b' c' d' e' : Value} (h : Is w k t #[a, b, c, d, e, a', b', c', d', e']) : (w.cell? ⟨k, 0, none⟩ = some a ∧ w.cell? ⟨k, 1, none⟩ = some b ∧ w.cell? ⟨k, 2, none⟩ = some c ∧ w.cell? ⟨k, 3, none⟩ = some d ∧ w.cell? ⟨k, 4, none⟩ = some e)
    ∧ (w.cell? ⟨k, 5, none⟩ = some a' ∧ w.cell? ⟨k, 6, none⟩ = some b' ∧ w.cell? ⟨k, 7, none⟩ = some c' ∧ w.cell? ⟨k, 8, none⟩ = some d' ∧ w.cell? ⟨k, 9, none⟩ = some e') :=
  ⟨⟨h.cell 0, h.cell 1, h.cell 2, h.cell 3, h.cell 4⟩, h.cell 5, h.cell 6, h.cell 7, h.cell 8, h.cell 9⟩
theorem slot_par (g : Nat) (m : Int) (hm : ((g % 2 : Nat) : Int) = m) (w : World) : Calls Tryz.prog 28 #[.int .u64 g] w fun e w' => e = .returned (.int .i64 m) ∧ w = w' := by
  have h1 : (g : Int).tmod 2 = m := by rw [← hm, Int.tmod_eq_emod_of_nonneg (by omega)]; omega
  have h2 : 0 ≤ m ∧ m < 2 := by omega
  clear hm
  go_enter Tryz.func28, Tryz.ntmps28
  go_wp2
  go_ret
  exact ⟨by go_num, rfl⟩
set_option maxHeartbeats 8000000 in
theorem tell_c (v : Value) (n : Int) (r0 r1 : List UInt8) (h0 : r0.length = 128) (h1 : r1.length = 128) (w : World)
    (R0 : ∀ wx, Below w.heap.size w wx → Calls Tryz.prog 47 #[v, .int .i64 0] wx fun e w' => e = .returned (.tuple #[.string (bs r0), .int .i64 0]) ∧ Below wx.heap.size wx w')
    (R1 : ∀ wx, Below w.heap.size w wx → Calls Tryz.prog 47 #[v, .int .i64 1] wx fun e w' => e = .returned (.tuple #[.string (bs r1), .int .i64 0]) ∧ Below wx.heap.size wx w') :
    Calls Tryz.prog 46 #[.func (.func 47) #[v] #[], .int .i64 n] w fun e w' => e = .returned (.tuple #[.agg #[.int .u64 (one 0 n r0).gen, .int .u64 (one 0 n r0).calls, .int .i64 (one 0 n r0).root, .int .i64 (one 0 n r0).table, .int .i64 (one 0 n r0).secs, .int .u64 (one 1 n r1).gen, .int .u64 (one 1 n r1).calls, .int .i64 (one 1 n r1).root, .int .i64 (one 1 n r1).table, .int .i64 (one 1 n r1).secs], .int .i64 0]) ∧ Below w.heap.size w w' := by
  have HR0 := Lib.hid R0
  have HR1 := Lib.hid R1
  have HT0 := Lib.hid (fun w' => take_c (bs r0) (by rw [bs_size]; omega) w')
  have HT1 := Lib.hid (fun w' => take_c (bs r1) (by rw [bs_size]; omega) w')
  rw [bs_list] at HT0 HT1
  obtain ⟨a, ha⟩ : ∃ a, one 0 n r0 = a := ⟨_, rfl⟩
  obtain ⟨b, hb⟩ : ∃ b, one 1 n r1 = b := ⟨_, rfl⟩
  rw [ha, hb]
  unfold one at ha hb
  obtain ⟨⟨q0, q1, q2, q3, q4⟩, x, hq⟩ : ∃ (q : S) (x : Int), tk r0 = (q, x) := ⟨_, _, rfl⟩
  obtain ⟨⟨p0, p1, p2, p3, p4⟩, y, hp⟩ : ∃ (q : S) (x : Int), tk r1 = (q, x) := ⟨_, _, rfl⟩
  rw [hq] at HT0 ha
  rw [hp] at HT1 hb
  simp only at HT0 HT1 ha hb
  have HA := Lib.hid ha
  have HB := Lib.hid hb
  clear ha hb hq hp R0 R1 h0 h1
  obtain ⟨a0, a1, a2, a3, a4⟩ := a
  obtain ⟨b0, b1, b2, b3, b4⟩ := b
  simp only
  generalize bs r0 = s0 at *
  generalize bs r1 = s1 at *
  have HX := Lib.hid (Box.new w 93 #[.int .u64 0, .int .u64 0, .int .i64 0, .int .i64 0, .int .i64 0, .int .u64 0, .int .u64 0, .int .i64 0, .int .i64 0, .int .i64 0])
  go_enter Tryz.func46, Tryz.ntmps46
  go_wp2_with fail
  go_loopw [11] (fun i wr => ∃ k : Nat, k ≤ 2 ∧ i = .int .i64 k ∧ (k = 0 → T2 w #[.int .u64 0, .int .u64 0, .int .i64 0, .int .i64 0, .int .i64 0, .int .u64 0, .int .u64 0, .int .i64 0, .int .i64 0, .int .i64 0] wr)
      ∧ (k = 1 → T2 w #[.int .u64 a0, .int .u64 a1, .int .i64 a2, .int .i64 a3, .int .i64 a4, .int .u64 0, .int .u64 0, .int .i64 0, .int .i64 0, .int .i64 0] wr)
      ∧ (k = 2 → T2 w #[.int .u64 a0, .int .u64 a1, .int .i64 a2, .int .i64 a3, .int .i64 a4, .int .u64 b0, .int .u64 b1, .int .i64 b2, .int .i64 b3, .int .i64 b4] wr)) (fun i _ => 2 - (intOf i).toNat)
  case atStart => exact ⟨0, by omega, rfl, fun _ => ⟨HX.out.alloc _, by have := Is.new (w.alloc (.cells #[.int .u64 0, .int .u64 0, .int .i64 0, .int .i64 0, .int .i64 0, .int .u64 0, .int .u64 0, .int .i64 0, .int .i64 0, .int .i64 0] 93)) 93 #[.int .u64 0, .int .u64 0, .int .i64 0, .int .i64 0, .int .i64 0, .int .u64 0, .int .u64 0, .int .i64 0, .int .i64 0, .int .i64 0]; rw [show (w.alloc (.cells #[.int .u64 0, .int .u64 0, .int .i64 0, .int .i64 0, .int .i64 0, .int .u64 0, .int .u64 0, .int .i64 0, .int .i64 0, .int .i64 0] 93)).heap.size = w.heap.size + 1 by simp] at this; exact this⟩, by omega, by omega⟩
  case round =>
    obtain ⟨k, hk, rfl, hn0, hn1, hn2⟩ := hrel
    obtain rfl | rfl | rfl : k = 0 ∨ k = 1 ∨ k = 2 := by omega
    · have HP := Lib.hid (hn0 rfl)
      clear hn0 hn1 hn2
      by_cases hx : x = 0
      · by_cases hs : q0 % 2 = 0
        · by_cases hn : q4 = n
          · obtain rfl := hn
            obtain rfl := hx
            have e := HA.out
            rw [if_pos ⟨rfl, hs, rfl⟩] at e
            simp only [S.mk.injEq] at e
            obtain ⟨rfl, rfl, rfl, rfl, rfl⟩ := e
            have HS := Lib.hid (fun w' => slot_par q0 0 (by omega) w')
            go_wp2_with fail
            refine (HR0.out _ HP.out.box.below).mono ?_; rintro e w1 ⟨rfl, hb⟩
            have HP1 := Lib.hid (HP.out.later hb)
            clear hb HP
            go_wp2_with fail
            refine (HT0.out _).mono ?_; rintro e w2 ⟨rfl, hb⟩
            have HF := Lib.hid ((HP1.out.later hb).alloc (.cells #[.int .u64 q0, .int .u64 q1, .int .i64 q2, .int .i64 q3, .int .i64 q4] 28))
            obtain ⟨c0, c1, c2, c3, c4⟩ := is5 (Is.new w2 28 #[.int .u64 q0, .int .u64 q1, .int .i64 q2, .int .i64 q3, .int .i64 q4])
            clear hb HP1
            go_wp2_with fail
            refine (HS.out _).mono ?_; rintro e w3 ⟨rfl, rfl⟩
            have f0 := HF.out.two.frozen 0; have f1 := HF.out.two.frozen 1; have f2 := HF.out.two.frozen 2; have f3 := HF.out.two.frozen 3; have f4 := HF.out.two.frozen 4
            obtain ⟨⟨d0, d1, d2, d3, d4⟩, d5, d6, d7, d8, d9⟩ := is10 HF.out.two
            have hlt := HF.out.two.lt
            go_wp2_with fail
            have HG : T2 w #[.int .u64 q0, .int .u64 q1, .int .i64 q2, .int .i64 q3, .int .i64 q4, .int .u64 0, .int .u64 0, .int .i64 0, .int .i64 0, .int .i64 0] _ := (((((HF.out).put 0 (.int .u64 q0)).put 1 (.int .u64 q1)).put 2 (.int .i64 q2)).put 3 (.int .i64 q3)).put 4 (.int .i64 q4)
            have HF := Lib.hid HG
            exact ⟨⟨1, by omega, rfl, by omega, fun _ => HF.out, by omega⟩, by simp [intOf]⟩
          · have e := HA.out
            rw [if_neg (by intro h; exact hn h.2.2)] at e
            simp only [S.none, S.mk.injEq] at e
            obtain ⟨rfl, rfl, rfl, rfl, rfl⟩ := e
            obtain rfl := hx
            have HS := Lib.hid (fun w' => slot_par q0 0 (by omega) w')
            go_wp2_with fail
            refine (HR0.out _ HP.out.box.below).mono ?_; rintro e w1 ⟨rfl, hb⟩
            have HP1 := Lib.hid (HP.out.later hb)
            clear hb HP
            go_wp2_with fail
            refine (HT0.out _).mono ?_; rintro e w2 ⟨rfl, hb⟩
            have HF := Lib.hid ((HP1.out.later hb).alloc (.cells #[.int .u64 q0, .int .u64 q1, .int .i64 q2, .int .i64 q3, .int .i64 q4] 28))
            obtain ⟨c0, c1, c2, c3, c4⟩ := is5 (Is.new w2 28 #[.int .u64 q0, .int .u64 q1, .int .i64 q2, .int .i64 q3, .int .i64 q4])
            clear hb HP1
            go_wp2_with fail
            refine (HS.out _).mono ?_; rintro e w3 ⟨rfl, rfl⟩
            go_wp2_with fail
            exact ⟨⟨1, by omega, rfl, by omega, fun _ => HF.out, by omega⟩, by simp [intOf]⟩
        · have e := HA.out
          rw [if_neg (by intro h; exact hs h.2.1)] at e
          simp only [S.none, S.mk.injEq] at e
          obtain ⟨rfl, rfl, rfl, rfl, rfl⟩ := e
          obtain rfl := hx
          have HS := Lib.hid (fun w' => slot_par q0 _ rfl w')
          have hs' : ¬ ((q0 % 2 : Nat) : Int) = 0 := by omega
          generalize ((q0 % 2 : Nat) : Int) = m at *
          go_wp2_with fail
          refine (HR0.out _ HP.out.box.below).mono ?_; rintro e w1 ⟨rfl, hb⟩
          have HP1 := Lib.hid (HP.out.later hb)
          clear hb HP
          go_wp2_with fail
          refine (HT0.out _).mono ?_; rintro e w2 ⟨rfl, hb⟩
          have HF := Lib.hid ((HP1.out.later hb).alloc (.cells #[.int .u64 q0, .int .u64 q1, .int .i64 q2, .int .i64 q3, .int .i64 q4] 28))
          obtain ⟨c0, c1, c2, c3, c4⟩ := is5 (Is.new w2 28 #[.int .u64 q0, .int .u64 q1, .int .i64 q2, .int .i64 q3, .int .i64 q4])
          clear hb HP1
          go_wp2_with fail
          refine (HS.out _).mono ?_; rintro e w3 ⟨rfl, rfl⟩
          go_wp2_with fail
          exact ⟨⟨1, by omega, rfl, by omega, fun _ => HF.out, by omega⟩, by simp [intOf]⟩
      · have e := HA.out
        rw [if_neg (by intro h; exact hx h.1)] at e
        simp only [S.none, S.mk.injEq] at e
        obtain ⟨rfl, rfl, rfl, rfl, rfl⟩ := e
        go_wp2_with fail
        refine (HR0.out _ HP.out.box.below).mono ?_; rintro e w1 ⟨rfl, hb⟩
        have HP1 := Lib.hid (HP.out.later hb)
        clear hb HP
        go_wp2_with fail
        refine (HT0.out _).mono ?_; rintro e w2 ⟨rfl, hb⟩
        have HF := Lib.hid ((HP1.out.later hb).alloc (.cells #[.int .u64 q0, .int .u64 q1, .int .i64 q2, .int .i64 q3, .int .i64 q4] 28))
        obtain ⟨c0, c1, c2, c3, c4⟩ := is5 (Is.new w2 28 #[.int .u64 q0, .int .u64 q1, .int .i64 q2, .int .i64 q3, .int .i64 q4])
        clear hb HP1
        go_wp2_with fail
        exact ⟨⟨1, by omega, rfl, by omega, fun _ => HF.out, by omega⟩, by simp [intOf]⟩
    · have HP := Lib.hid (hn1 rfl)
      clear hn0 hn1 hn2
      by_cases hx : y = 0
      · by_cases hs : p0 % 2 = 1
        · by_cases hn : p4 = n
          · obtain rfl := hn
            obtain rfl := hx
            have e := HB.out
            rw [if_pos ⟨rfl, hs, rfl⟩] at e
            simp only [S.mk.injEq] at e
            obtain ⟨rfl, rfl, rfl, rfl, rfl⟩ := e
            have HS := Lib.hid (fun w' => slot_par p0 1 (by omega) w')
            go_wp2_with fail
            refine (HR1.out _ HP.out.box.below).mono ?_; rintro e w1 ⟨rfl, hb⟩
            have HP1 := Lib.hid (HP.out.later hb)
            clear hb HP
            go_wp2_with fail
            refine (HT1.out _).mono ?_; rintro e w2 ⟨rfl, hb⟩
            have HF := Lib.hid ((HP1.out.later hb).alloc (.cells #[.int .u64 p0, .int .u64 p1, .int .i64 p2, .int .i64 p3, .int .i64 p4] 28))
            obtain ⟨c0, c1, c2, c3, c4⟩ := is5 (Is.new w2 28 #[.int .u64 p0, .int .u64 p1, .int .i64 p2, .int .i64 p3, .int .i64 p4])
            clear hb HP1
            go_wp2_with fail
            refine (HS.out _).mono ?_; rintro e w3 ⟨rfl, rfl⟩
            have f0 := HF.out.two.frozen 5; have f1 := HF.out.two.frozen 6; have f2 := HF.out.two.frozen 7; have f3 := HF.out.two.frozen 8; have f4 := HF.out.two.frozen 9
            obtain ⟨⟨d0, d1, d2, d3, d4⟩, d5, d6, d7, d8, d9⟩ := is10 HF.out.two
            have hlt := HF.out.two.lt
            go_wp2_with fail
            have HG : T2 w #[.int .u64 a0, .int .u64 a1, .int .i64 a2, .int .i64 a3, .int .i64 a4, .int .u64 p0, .int .u64 p1, .int .i64 p2, .int .i64 p3, .int .i64 p4] _ := (((((HF.out).put 5 (.int .u64 p0)).put 6 (.int .u64 p1)).put 7 (.int .i64 p2)).put 8 (.int .i64 p3)).put 9 (.int .i64 p4)
            have HF := Lib.hid HG
            exact ⟨⟨2, by omega, rfl, by omega, by omega, fun _ => HF.out⟩, by simp [intOf]⟩
          · have e := HB.out
            rw [if_neg (by intro h; exact hn h.2.2)] at e
            simp only [S.none, S.mk.injEq] at e
            obtain ⟨rfl, rfl, rfl, rfl, rfl⟩ := e
            obtain rfl := hx
            have HS := Lib.hid (fun w' => slot_par p0 1 (by omega) w')
            go_wp2_with fail
            refine (HR1.out _ HP.out.box.below).mono ?_; rintro e w1 ⟨rfl, hb⟩
            have HP1 := Lib.hid (HP.out.later hb)
            clear hb HP
            go_wp2_with fail
            refine (HT1.out _).mono ?_; rintro e w2 ⟨rfl, hb⟩
            have HF := Lib.hid ((HP1.out.later hb).alloc (.cells #[.int .u64 p0, .int .u64 p1, .int .i64 p2, .int .i64 p3, .int .i64 p4] 28))
            obtain ⟨c0, c1, c2, c3, c4⟩ := is5 (Is.new w2 28 #[.int .u64 p0, .int .u64 p1, .int .i64 p2, .int .i64 p3, .int .i64 p4])
            clear hb HP1
            go_wp2_with fail
            refine (HS.out _).mono ?_; rintro e w3 ⟨rfl, rfl⟩
            go_wp2_with fail
            exact ⟨⟨2, by omega, rfl, by omega, by omega, fun _ => HF.out⟩, by simp [intOf]⟩
        · have e := HB.out
          rw [if_neg (by intro h; exact hs h.2.1)] at e
          simp only [S.none, S.mk.injEq] at e
          obtain ⟨rfl, rfl, rfl, rfl, rfl⟩ := e
          obtain rfl := hx
          have HS := Lib.hid (fun w' => slot_par p0 _ rfl w')
          have hs' : ¬ ((p0 % 2 : Nat) : Int) = 1 := by omega
          generalize ((p0 % 2 : Nat) : Int) = m at *
          go_wp2_with fail
          refine (HR1.out _ HP.out.box.below).mono ?_; rintro e w1 ⟨rfl, hb⟩
          have HP1 := Lib.hid (HP.out.later hb)
          clear hb HP
          go_wp2_with fail
          refine (HT1.out _).mono ?_; rintro e w2 ⟨rfl, hb⟩
          have HF := Lib.hid ((HP1.out.later hb).alloc (.cells #[.int .u64 p0, .int .u64 p1, .int .i64 p2, .int .i64 p3, .int .i64 p4] 28))
          obtain ⟨c0, c1, c2, c3, c4⟩ := is5 (Is.new w2 28 #[.int .u64 p0, .int .u64 p1, .int .i64 p2, .int .i64 p3, .int .i64 p4])
          clear hb HP1
          go_wp2_with fail
          refine (HS.out _).mono ?_; rintro e w3 ⟨rfl, rfl⟩
          go_wp2_with fail
          exact ⟨⟨2, by omega, rfl, by omega, by omega, fun _ => HF.out⟩, by simp [intOf]⟩
      · have e := HB.out
        rw [if_neg (by intro h; exact hx h.1)] at e
        simp only [S.none, S.mk.injEq] at e
        obtain ⟨rfl, rfl, rfl, rfl, rfl⟩ := e
        go_wp2_with fail
        refine (HR1.out _ HP.out.box.below).mono ?_; rintro e w1 ⟨rfl, hb⟩
        have HP1 := Lib.hid (HP.out.later hb)
        clear hb HP
        go_wp2_with fail
        refine (HT1.out _).mono ?_; rintro e w2 ⟨rfl, hb⟩
        have HF := Lib.hid ((HP1.out.later hb).alloc (.cells #[.int .u64 p0, .int .u64 p1, .int .i64 p2, .int .i64 p3, .int .i64 p4] 28))
        obtain ⟨c0, c1, c2, c3, c4⟩ := is5 (Is.new w2 28 #[.int .u64 p0, .int .u64 p1, .int .i64 p2, .int .i64 p3, .int .i64 p4])
        clear hb HP1
        go_wp2_with fail
        exact ⟨⟨2, by omega, rfl, by omega, by omega, fun _ => HF.out⟩, by simp [intOf]⟩
    · have HP := Lib.hid (hn2 rfl)
      clear hn0 hn1 hn2 HX
      obtain ⟨⟨d0, d1, d2, d3, d4⟩, d5, d6, d7, d8, d9⟩ := is10 HP.out.two
      obtain ⟨⟨c0, c1, c2, c3, c4⟩, c5, c6, c7, c8, c9⟩ := is10 HP.out.box.one
      have f0 := HP.out.box.one.frozen 0; have f1 := HP.out.box.one.frozen 1; have f2 := HP.out.box.one.frozen 2; have f3 := HP.out.box.one.frozen 3; have f4 := HP.out.box.one.frozen 4; have f5 := HP.out.box.one.frozen 5; have f6 := HP.out.box.one.frozen 6; have f7 := HP.out.box.one.frozen 7; have f8 := HP.out.box.one.frozen 8; have f9 := HP.out.box.one.frozen 9
      have hlt := HP.out.box.one.lt
      go_wp2_with fail
      have g0 : Box w 93 #[.int .u64 a0, .int .u64 0, .int .i64 0, .int .i64 0, .int .i64 0, .int .u64 0, .int .u64 0, .int .i64 0, .int .i64 0, .int .i64 0] _ := HP.out.box.put 0 (.int .u64 a0)
      have g1 : Box w 93 #[.int .u64 a0, .int .u64 a1, .int .i64 0, .int .i64 0, .int .i64 0, .int .u64 0, .int .u64 0, .int .i64 0, .int .i64 0, .int .i64 0] _ := g0.put 1 (.int .u64 a1)
      have g2 : Box w 93 #[.int .u64 a0, .int .u64 a1, .int .i64 a2, .int .i64 0, .int .i64 0, .int .u64 0, .int .u64 0, .int .i64 0, .int .i64 0, .int .i64 0] _ := g1.put 2 (.int .i64 a2)
      have g3 : Box w 93 #[.int .u64 a0, .int .u64 a1, .int .i64 a2, .int .i64 a3, .int .i64 0, .int .u64 0, .int .u64 0, .int .i64 0, .int .i64 0, .int .i64 0] _ := g2.put 3 (.int .i64 a3)
      have g4 : Box w 93 #[.int .u64 a0, .int .u64 a1, .int .i64 a2, .int .i64 a3, .int .i64 a4, .int .u64 0, .int .u64 0, .int .i64 0, .int .i64 0, .int .i64 0] _ := g3.put 4 (.int .i64 a4)
      have g5 : Box w 93 #[.int .u64 a0, .int .u64 a1, .int .i64 a2, .int .i64 a3, .int .i64 a4, .int .u64 b0, .int .u64 0, .int .i64 0, .int .i64 0, .int .i64 0] _ := g4.put 5 (.int .u64 b0)
      have g6 : Box w 93 #[.int .u64 a0, .int .u64 a1, .int .i64 a2, .int .i64 a3, .int .i64 a4, .int .u64 b0, .int .u64 b1, .int .i64 0, .int .i64 0, .int .i64 0] _ := g5.put 6 (.int .u64 b1)
      have g7 : Box w 93 #[.int .u64 a0, .int .u64 a1, .int .i64 a2, .int .i64 a3, .int .i64 a4, .int .u64 b0, .int .u64 b1, .int .i64 b2, .int .i64 0, .int .i64 0] _ := g6.put 7 (.int .i64 b2)
      have g8 : Box w 93 #[.int .u64 a0, .int .u64 a1, .int .i64 a2, .int .i64 a3, .int .i64 a4, .int .u64 b0, .int .u64 b1, .int .i64 b2, .int .i64 b3, .int .i64 0] _ := g7.put 8 (.int .i64 b3)
      have g9 : Box w 93 #[.int .u64 a0, .int .u64 a1, .int .i64 a2, .int .i64 a3, .int .i64 a4, .int .u64 b0, .int .u64 b1, .int .i64 b2, .int .i64 b3, .int .i64 b4] _ := g8.put 9 (.int .i64 b4)
      have HG : Box w 93 #[.int .u64 a0, .int .u64 a1, .int .i64 a2, .int .i64 a3, .int .i64 a4, .int .u64 b0, .int .u64 b1, .int .i64 b2, .int .i64 b3, .int .i64 b4] ((((((((((wr.setCell ⟨w.heap.size, 0, none⟩ (.int .u64 a0)).setCell ⟨w.heap.size, 1, none⟩ (.int .u64 a1)).setCell ⟨w.heap.size, 2, none⟩ (.int .i64 a2)).setCell ⟨w.heap.size, 3, none⟩ (.int .i64 a3)).setCell ⟨w.heap.size, 4, none⟩ (.int .i64 a4)).setCell ⟨w.heap.size, 5, none⟩ (.int .u64 b0)).setCell ⟨w.heap.size, 6, none⟩ (.int .u64 b1)).setCell ⟨w.heap.size, 7, none⟩ (.int .i64 b2)).setCell ⟨w.heap.size, 8, none⟩ (.int .i64 b3)).setCell ⟨w.heap.size, 9, none⟩ (.int .i64 b4)) := g9
      clear g0 g1 g2 g3 g4 g5 g6 g7 g8 g9
      generalize ((((((((((wr.setCell ⟨w.heap.size, 0, none⟩ (.int .u64 a0)).setCell ⟨w.heap.size, 1, none⟩ (.int .u64 a1)).setCell ⟨w.heap.size, 2, none⟩ (.int .i64 a2)).setCell ⟨w.heap.size, 3, none⟩ (.int .i64 a3)).setCell ⟨w.heap.size, 4, none⟩ (.int .i64 a4)).setCell ⟨w.heap.size, 5, none⟩ (.int .u64 b0)).setCell ⟨w.heap.size, 6, none⟩ (.int .u64 b1)).setCell ⟨w.heap.size, 7, none⟩ (.int .i64 b2)).setCell ⟨w.heap.size, 8, none⟩ (.int .i64 b3)).setCell ⟨w.heap.size, 9, none⟩ (.int .i64 b4)) = W at HG ⊢
      obtain ⟨⟨m0, m1, m2, m3, m4⟩, m5, m6, m7, m8, m9⟩ := is10 HG.one
      have hlt := HG.one.lt
      exact bodyPost_ret (v := .tuple #[.agg #[.int .u64 a0, .int .u64 a1, .int .i64 a2, .int .i64 a3, .int .i64 a4, .int .u64 b0, .int .u64 b1, .int .i64 b2, .int .i64 b3, .int .i64 b4], .int .i64 0]) (by simp [results, Tryz.results46, go_sem, m0, m1, m2, m3, m4, m5, m6, m7, m8, m9, hlt]) rfl ⟨rfl, HG.below⟩
end Go.Proofs.YtlidieffaaicaaaGreat
