/- The law on sealed texts, and on what is spoilt in them, walked. Conditions: the program's table as it is laid. -/
import Derived.Test.YtmjgbafoemdlpaaDoorSealM
import Derived.Test.YtmjgbafoemdlpaaDoorSealR
import Derived.Test.YtmjgbafoemdlpaaDoorSpoil
import Derived.BigRegion
import Derived.StillTailTactics
namespace Go.Proofs.YtmjgbafoemdlpaaDoor
open Go.ChangeShapes Go.WideShapes Go.RowKit Go.Codec
set_option maxRecDepth 100000
set_option linter.unusedVariables false
/-- The row, the box, and nothing old turned. -/
structure Torn (w : World) (box : Array Value) (g : Nat) (bs : List Nat) (wx : World) : Prop where
  below : Below w.heap.size w wx
  box : Is wx w.heap.size 50 box
  row : Row g bs wx
  lt : w.heap.size < g
theorem Torn.next {w wx : World} {box : Array Value} {g : Nat} {s : List Nat} {f x k j r p v : Nat} (h : Torn w box g (Crc.flips s f x k) wx) (ho : x / 2 ^ k % 2 = 1) (hj : j = (f + k) / 8) (hr : r = (f + k) % 8) (hp : p = 2 ^ r) (hv : v = (Crc.flips s f x k).getD j 0) (hjl : j < (Crc.flips s f x k).length) :
    Torn w box g (Crc.flips s f x (k + 1)) (wx.setCell ⟨g, j, none⟩ (.int .u8 (v ^^^ p : Nat))).drew :=
  ⟨(h.below.setCell (Nat.le_of_lt h.lt) _).drew, h.box.other (p := ⟨g, j, none⟩) (Nat.ne_of_lt h.lt) _, h.row.next ho hj hr hp hv hjl, h.lt⟩
theorem Torn.same {w wx : World} {box : Array Value} {g : Nat} {s : List Nat} {f x k : Nat} (h : Torn w box g (Crc.flips s f x k) wx) (ho : ¬ x / 2 ^ k % 2 = 1) : Torn w box g (Crc.flips s f x (k + 1)) wx :=
  ⟨h.below, h.box, h.row.same ho, h.lt⟩
theorem back_big (s more : ByteArray) (cut at_ x : Nat) (sm : Bool) (hst : (3000 : Int) < (s.size : Int) ∨ ¬ (3000 : Int) < (s.size : Int) ∧ (3000 : Int) < (more.size : Int)) (w : World) (ht : Laid w) (hs : s.size ≤ maxLen) (hs' : more.size ≤ maxLen) :
    Calls Tryd.prog 6 #[.string s, .string more, .agg #[.int .u16 cut, .int .u16 at_, .int .u32 x, .bool sm]] w fun e w' => e = .returned (.bool true) ∧ Below w.heap.size w w' := by
  unfold maxLen at hs hs'
  have HB := Lib.hid ((Below.refl w.heap.size w).alloc (Nat.le_refl _) (.cells #[.int .u16 cut, .int .u16 at_, .int .u32 x, .bool sm] 50))
  have HW := Lib.hid (fun w' (hb : Below w.heap.size w w') => works_later ht hb)
  clear ht
  rcases hst with h | ⟨h, h'⟩
  · go_enter Tryd.func6, Tryd.ntmps6
    go_wp2_with fail
    refine (HW.out _ HB.out).mono ?_; rintro e w1 ⟨rfl, b1⟩
    go_wp2
    go_ret
    exact ⟨rfl, b1⟩
  · go_enter Tryd.func6, Tryd.ntmps6
    go_wp2_with fail
    refine (HW.out _ HB.out).mono ?_; rintro e w1 ⟨rfl, b1⟩
    go_wp2
    go_ret
    exact ⟨rfl, b1⟩
set_option maxHeartbeats 4000000 in
theorem back_sum (s more T : ByteArray) (cut at_ x : Nat) (c F E D a f : Nat) (hs : ¬ (3000 : Int) < (s.size : Int)) (hmo : ¬ (3000 : Int) < (more.size : Int)) (hcut : cut < 65536) (hat : at_ < 65536) (hx : x < 4294967296)
    (hT : ((T.size : Int) != (s.size : Int) + 6) = false) (hTl : T.size ≤ 3006) (w : World) (HT : Hid (Laid w)) (TM : ByteArray) (hTM : T ++ more = TM) (hc : (cut : Int).tmod (T.size : Int) = (c : Int)) (hcT : (c : Int) ≤ (T.size : Int)) (hT0 : ¬ (T.size : Int) = 0)
    (H1 : Hid (∀ w, Laid w → Calls Tryd.prog 21 #[.string s] w fun e w' => e = .returned (.string T) ∧ Below w.heap.size w w'))
    (H2 : Hid (∀ w, Laid w → Calls Tryd.prog 13 #[.string TM] w fun e w' => e = .returned (.tuple #[.string s, .string more, .int .i64 0]) ∧ Below w.heap.size w w'))
    (H3 : Hid (∀ w, Laid w → Calls Tryd.prog 22 #[.string (T.extract 0 c), .int .i64 10] w fun e w' => e = .returned (.bool true) ∧ Below w.heap.size w w'))
    (hF : (16 : Int) + 8 * (s.size : Int) = (F : Int)) (hE : (48 : Int) + 8 * (s.size : Int) = (E : Int)) (hD : (E : Int) - (F : Int) = (D : Int)) (hD0 : ¬ (D : Int) = 0) (ha : (at_ : Int).tmod (D : Int) = (a : Int)) (hf : (F : Int) + (a : Int) = (f : Int)) (hfE : f < E) (hE8 : E ≤ 8 * T.size)
    (H4 : Hid (∀ (k : Nat) (t : ByteArray), k ≤ 32 → f + k ≤ E → bl t = Crc.flips (bl T) f x k → ¬ t = T → ∀ w, Laid w → Calls Tryd.prog 22 #[.string (t ++ more), .int .i64 9] w fun e w' => e = .returned (.bool true) ∧ Below w.heap.size w w')) :
    Calls Tryd.prog 6 #[.string s, .string more, .agg #[.int .u16 cut, .int .u16 at_, .int .u32 x, .bool true]] w fun e w' => e = .returned (.bool true) ∧ Below w.heap.size w w' := by
  have HB := Lib.hid ((Below.refl w.heap.size w).alloc (Nat.le_refl _) (.cells #[.int .u16 cut, .int .u16 at_, .int .u32 x, .bool true] 50))
  have HI := Lib.hid (Is.new w 50 #[.int .u16 cut, .int .u16 at_, .int .u32 x, .bool true])
  have HW := Lib.hid (fun w' (hb : Below w.heap.size w w') => works_later HT.out hb)
  have hu : IntKind.i64.wrap (cut : Int) = (cut : Int) := by rw [IntKind.wrap_i64]; omega
  have hua : IntKind.i64.wrap (at_ : Int) = (at_ : Int) := by rw [IntKind.wrap_i64]; omega
  have HE8 := Lib.hid hE8; clear hE8
  have HFE := Lib.hid hfE; clear hfE
  have HEl : Hid (E ≤ 24048) := Lib.hid (by have := HE8.out; omega)
  have hfL : f ≤ 24048 := by have := HE8.out; have := HFE.out; omega
  go_enter Tryd.func6, Tryd.ntmps6
  go_wp2_with fail
  refine (H1.out _ (HT.out.later HB.out)).mono ?_; rintro e w1 ⟨rfl, b⟩
  have I1 := Lib.hid (HI.out.kept (grow_below b none) (by simp))
  have B1 := Lib.hid (HB.out.trans (b.mono HB.out.size)); clear b
  go_wp2_with fail
  refine (H2.out _ (HT.out.later B1.out)).mono ?_; rintro e w2 ⟨rfl, b⟩
  have hI := I1.out.kept (grow_below b none) (by simp)
  have I2 := Lib.hid hI
  have c0 := hI.cell 0
  simp at c0
  have B2 := Lib.hid (B1.out.trans (b.mono B1.out.size)); clear b hI
  go_wp2_with fail
  refine (H3.out _ (HT.out.later B2.out)).mono ?_; rintro e w3 ⟨rfl, b⟩
  have hI := I2.out.kept (grow_below b none) (by simp)
  have B3 := Lib.hid (B2.out.trans (b.mono B2.out.size)); clear b c0
  obtain ⟨cap, w4, hcv, hrow, hbel⟩ := bytes_row w3 T
  have HX : Hid (Torn w #[.int .u16 cut, .int .u16 at_, .int .u32 x, .bool true] w3.heap.size (bl T) w4) := Lib.hid ⟨B3.out.trans (hbel.mono B3.out.size), hI.kept (grow_below hbel none) (by simp), hrow, hI.lt⟩
  clear hI hrow hbel
  obtain ⟨g, hg⟩ : ∃ g, g = w3.heap.size := ⟨_, rfl⟩
  rw [← hg] at hcv HX
  have HG := Lib.hid hg; clear hg
  have d1 := HX.out.box.cell 1
  have d3 := HX.out.box.cell 3
  simp at d1 d3
  have hlen : (bl T).length = T.size := bl_length T
  have HLen := Lib.hid hlen; clear hlen
  go_wp2
  go_loopw [15] (fun i wr => ∃ k : Nat, k ≤ 32 ∧ f + k ≤ E ∧ i = .int .i64 k ∧ Torn w #[.int .u16 cut, .int .u16 at_, .int .u32 x, .bool true] g (Crc.flips (bl T) f x k) wr) (fun i _ => 32 - (intOf i).toNat)
  case atStart => exact ⟨0, by omega, Nat.le_of_lt HFE.out, rfl, HX.out⟩
  case round =>
    obtain ⟨k, hk, hfk, rfl, hR⟩ := hrel
    clear hcv d1 d3 HX
    have hlen := HLen.out
    have hE8 := HE8.out
    by_cases hc : k < 32 ∧ f + k < E
    · obtain ⟨c1, c2⟩ := hc
      have e1 : ((k : Int) < 32) := by omega
      have e2 : (f : Int) + (k : Int) < (E : Int) := by omega
      have hcx := hR.box.cell 2
      simp at hcx
      by_cases hodd : x / 2 ^ k % 2 = 1
      · have e3 : (((x : Int) / 2 ^ k).tmod 2 == 1) = true := bit_odd hodd
        obtain ⟨j, hj⟩ : ∃ j, j = (f + k) / 8 := ⟨_, rfl⟩
        obtain ⟨r, hr⟩ : ∃ r, r = (f + k) % 8 := ⟨_, rfl⟩
        have hjl : j < (Crc.flips (bl T) f x k).length := by rw [Crc.flips_length, hlen]; omega
        have hcell := hR.row.cell j hjl
        have hfree := hR.row.free j hjl
        have hq : ((f : Int) + (k : Int)).tdiv 8 = (j : Int) := by rw [Int.tdiv_eq_ediv_of_nonneg (by omega)]; omega
        have hm : ((f : Int) + (k : Int)).tmod 8 = (r : Int) := by rw [Int.tmod_eq_emod_of_nonneg (by omega)]; omega
        obtain ⟨hp, hp8⟩ := pow_mod8 (show r < 8 by omega)
        obtain ⟨p, ep⟩ : ∃ p, p = 2 ^ r := ⟨_, rfl⟩
        rw [← ep] at hp hp8
        obtain ⟨v, ev⟩ : ∃ v, v = (Crc.flips (bl T) f x k).getD j 0 := ⟨_, rfl⟩
        have hv : v < 256 := by rw [ev]; exact hR.row.at_lt j hjl
        rw [← ev] at hcell
        have hxor := u8_xor_nat v p hv hp8
        have hj8 : j < T.size := by rw [Crc.flips_length, hlen] at hjl; exact hjl
        have hfl : f + k ≤ 24048 := by have := HEl.out; omega
        have hrz := hR.row.size
        have HR := Lib.hid hR; clear hR
        have HO := Lib.hid hodd; clear hodd
        have HJ := Lib.hid hj; have HRR := Lib.hid hr; have HP := Lib.hid ep; have HV := Lib.hid ev; have HJL := Lib.hid hjl; clear hj hr ep ev hjl hlen hE8
        go_wp2
        go_region
        go_wp2
        exact ⟨⟨k + 1, by omega, by omega, rfl, HR.out.next HO.out HJ.out HRR.out HP.out HV.out HJL.out⟩, by simp [intOf]; omega⟩
      · have e3 : (((x : Int) / 2 ^ k).tmod 2 == 1) = false := bit_even hodd
        have HR := Lib.hid hR; clear hR
        have HO := Lib.hid hodd; clear hodd hlen hE8
        go_wp2
        exact ⟨⟨k + 1, by omega, by omega, rfl, HR.out.same HO.out⟩, by simp [intOf]; omega⟩
    · have hL : (Crc.flips (bl T) f x k).length = T.size := by rw [Crc.flips_length, hlen]
      have hcv := text_of hR.row cap
      rw [hL] at hcv
      have hbt := bl_text hR.row
      obtain ⟨t, et⟩ : ∃ t, t = textOf (Crc.flips (bl T) f x k) := ⟨_, rfl⟩
      rw [← et] at hcv hbt
      have hts : t.size = T.size := by rw [et, textOf_size, hL]
      have hsz : ¬ 9223372036854775807 < t.size + more.size := by omega
      have H5 := Lib.hid (H4.out k t hk hfk hbt)
      have HR := Lib.hid hR; clear hR
      have HC := Lib.hid hc; have HTS := Lib.hid hts; clear hc hts hbt et hL hlen hE8
      by_cases htT : t = T
      · subst htT
        by_cases h1 : k < 32
        · have h2 : ¬ (f : Int) + (k : Int) < (E : Int) := by have := HC.out; omega
          have h3 : (k : Int) < 32 := by omega
          go_wp2_with fail
          refine (HW.out _ HR.out.below).mono ?_; rintro e w5 ⟨rfl, b5⟩
          go_wp2
          go_ret
          exact ⟨rfl, b5⟩
        · have h3 : ¬ (k : Int) < 32 := by omega
          go_wp2_with fail
          refine (HW.out _ HR.out.below).mono ?_; rintro e w5 ⟨rfl, b5⟩
          go_wp2
          go_ret
          exact ⟨rfl, b5⟩
      · have hne : (t.toList == T.toList) = false := other_text.2 (fun hh => htT (by rw [← list_bs t, ← list_bs T, hh]))
        have H6 := Lib.hid (H5.out htT); clear H5
        by_cases h1 : k < 32
        · have h2 : ¬ (f : Int) + (k : Int) < (E : Int) := by have := HC.out; omega
          have h3 : (k : Int) < 32 := by omega
          go_wp2_with fail
          refine (H6.out _ (HT.out.later HR.out.below)).mono ?_; rintro e w5 ⟨rfl, b⟩
          have B5 := Lib.hid (HR.out.below.trans (b.mono HR.out.below.size)); clear b
          go_wp2_with fail
          refine (HW.out _ B5.out).mono ?_; rintro e w6 ⟨rfl, b6⟩
          go_wp2
          go_ret
          exact ⟨rfl, b6⟩
        · have h3 : ¬ (k : Int) < 32 := by omega
          go_wp2_with fail
          refine (H6.out _ (HT.out.later HR.out.below)).mono ?_; rintro e w5 ⟨rfl, b⟩
          have B5 := Lib.hid (HR.out.below.trans (b.mono HR.out.below.size)); clear b
          go_wp2_with fail
          refine (HW.out _ B5.out).mono ?_; rintro e w6 ⟨rfl, b6⟩
          go_wp2
          go_ret
          exact ⟨rfl, b6⟩
set_option maxHeartbeats 4000000 in
theorem back_none (s more T : ByteArray) (cut at_ x : Nat) (c F E D a f : Nat) (hs : ¬ (3000 : Int) < (s.size : Int)) (hmo : ¬ (3000 : Int) < (more.size : Int)) (hcut : cut < 65536) (hat : at_ < 65536) (hx : x < 4294967296)
    (hT : ((T.size : Int) != (s.size : Int) + 6) = false) (hTl : T.size ≤ 3006) (w : World) (HT : Hid (Laid w)) (TM : ByteArray) (hTM : T ++ more = TM) (hc : (cut : Int).tmod (T.size : Int) = (c : Int)) (hcT : (c : Int) ≤ (T.size : Int)) (hT0 : ¬ (T.size : Int) = 0)
    (H1 : Hid (∀ w, Laid w → Calls Tryd.prog 21 #[.string s] w fun e w' => e = .returned (.string T) ∧ Below w.heap.size w w'))
    (H2 : Hid (∀ w, Laid w → Calls Tryd.prog 13 #[.string TM] w fun e w' => e = .returned (.tuple #[.string s, .string more, .int .i64 0]) ∧ Below w.heap.size w w'))
    (H3 : Hid (∀ w, Laid w → Calls Tryd.prog 22 #[.string (T.extract 0 c), .int .i64 10] w fun e w' => e = .returned (.bool true) ∧ Below w.heap.size w w'))
    (h0 : ((s.size : Int) == 0) = true) (hF : (16 : Int) + 8 * (s.size : Int) = (F : Int)) (hE : (48 : Int) + 8 * (s.size : Int) = (E : Int)) (hD : (E : Int) - (F : Int) = (D : Int)) (hD0 : ¬ (D : Int) = 0) (ha : (at_ : Int).tmod (D : Int) = (a : Int)) (hf : (F : Int) + (a : Int) = (f : Int)) (hfE : f < E) (hE8 : E ≤ 8 * T.size)
    (H4 : Hid (∀ (k : Nat) (t : ByteArray), k ≤ 32 → f + k ≤ E → bl t = Crc.flips (bl T) f x k → ¬ t = T → ∀ w, Laid w → Calls Tryd.prog 22 #[.string (t ++ more), .int .i64 9] w fun e w' => e = .returned (.bool true) ∧ Below w.heap.size w w')) :
    Calls Tryd.prog 6 #[.string s, .string more, .agg #[.int .u16 cut, .int .u16 at_, .int .u32 x, .bool false]] w fun e w' => e = .returned (.bool true) ∧ Below w.heap.size w w' := by
  have HB := Lib.hid ((Below.refl w.heap.size w).alloc (Nat.le_refl _) (.cells #[.int .u16 cut, .int .u16 at_, .int .u32 x, .bool false] 50))
  have HI := Lib.hid (Is.new w 50 #[.int .u16 cut, .int .u16 at_, .int .u32 x, .bool false])
  have HW := Lib.hid (fun w' (hb : Below w.heap.size w w') => works_later HT.out hb)
  have hu : IntKind.i64.wrap (cut : Int) = (cut : Int) := by rw [IntKind.wrap_i64]; omega
  have hua : IntKind.i64.wrap (at_ : Int) = (at_ : Int) := by rw [IntKind.wrap_i64]; omega
  have HE8 := Lib.hid hE8; clear hE8
  have HFE := Lib.hid hfE; clear hfE
  have HEl : Hid (E ≤ 24048) := Lib.hid (by have := HE8.out; omega)
  have hfL : f ≤ 24048 := by have := HE8.out; have := HFE.out; omega
  go_enter Tryd.func6, Tryd.ntmps6
  go_wp2_with fail
  refine (H1.out _ (HT.out.later HB.out)).mono ?_; rintro e w1 ⟨rfl, b⟩
  have I1 := Lib.hid (HI.out.kept (grow_below b none) (by simp))
  have B1 := Lib.hid (HB.out.trans (b.mono HB.out.size)); clear b
  go_wp2_with fail
  refine (H2.out _ (HT.out.later B1.out)).mono ?_; rintro e w2 ⟨rfl, b⟩
  have hI := I1.out.kept (grow_below b none) (by simp)
  have I2 := Lib.hid hI
  have c0 := hI.cell 0
  simp at c0
  have B2 := Lib.hid (B1.out.trans (b.mono B1.out.size)); clear b hI
  go_wp2_with fail
  refine (H3.out _ (HT.out.later B2.out)).mono ?_; rintro e w3 ⟨rfl, b⟩
  have hI := I2.out.kept (grow_below b none) (by simp)
  have B3 := Lib.hid (B2.out.trans (b.mono B2.out.size)); clear b c0
  obtain ⟨cap, w4, hcv, hrow, hbel⟩ := bytes_row w3 T
  have HX : Hid (Torn w #[.int .u16 cut, .int .u16 at_, .int .u32 x, .bool false] w3.heap.size (bl T) w4) := Lib.hid ⟨B3.out.trans (hbel.mono B3.out.size), hI.kept (grow_below hbel none) (by simp), hrow, hI.lt⟩
  clear hI hrow hbel
  obtain ⟨g, hg⟩ : ∃ g, g = w3.heap.size := ⟨_, rfl⟩
  rw [← hg] at hcv HX
  have HG := Lib.hid hg; clear hg
  have d1 := HX.out.box.cell 1
  have d3 := HX.out.box.cell 3
  simp at d1 d3
  have hlen : (bl T).length = T.size := bl_length T
  have HLen := Lib.hid hlen; clear hlen
  go_wp2
  go_loopw [15] (fun i wr => ∃ k : Nat, k ≤ 32 ∧ f + k ≤ E ∧ i = .int .i64 k ∧ Torn w #[.int .u16 cut, .int .u16 at_, .int .u32 x, .bool false] g (Crc.flips (bl T) f x k) wr) (fun i _ => 32 - (intOf i).toNat)
  case atStart => exact ⟨0, by omega, Nat.le_of_lt HFE.out, rfl, HX.out⟩
  case round =>
    obtain ⟨k, hk, hfk, rfl, hR⟩ := hrel
    clear hcv d1 d3 HX
    have hlen := HLen.out
    have hE8 := HE8.out
    by_cases hc : k < 32 ∧ f + k < E
    · obtain ⟨c1, c2⟩ := hc
      have e1 : ((k : Int) < 32) := by omega
      have e2 : (f : Int) + (k : Int) < (E : Int) := by omega
      have hcx := hR.box.cell 2
      simp at hcx
      by_cases hodd : x / 2 ^ k % 2 = 1
      · have e3 : (((x : Int) / 2 ^ k).tmod 2 == 1) = true := bit_odd hodd
        obtain ⟨j, hj⟩ : ∃ j, j = (f + k) / 8 := ⟨_, rfl⟩
        obtain ⟨r, hr⟩ : ∃ r, r = (f + k) % 8 := ⟨_, rfl⟩
        have hjl : j < (Crc.flips (bl T) f x k).length := by rw [Crc.flips_length, hlen]; omega
        have hcell := hR.row.cell j hjl
        have hfree := hR.row.free j hjl
        have hq : ((f : Int) + (k : Int)).tdiv 8 = (j : Int) := by rw [Int.tdiv_eq_ediv_of_nonneg (by omega)]; omega
        have hm : ((f : Int) + (k : Int)).tmod 8 = (r : Int) := by rw [Int.tmod_eq_emod_of_nonneg (by omega)]; omega
        obtain ⟨hp, hp8⟩ := pow_mod8 (show r < 8 by omega)
        obtain ⟨p, ep⟩ : ∃ p, p = 2 ^ r := ⟨_, rfl⟩
        rw [← ep] at hp hp8
        obtain ⟨v, ev⟩ : ∃ v, v = (Crc.flips (bl T) f x k).getD j 0 := ⟨_, rfl⟩
        have hv : v < 256 := by rw [ev]; exact hR.row.at_lt j hjl
        rw [← ev] at hcell
        have hxor := u8_xor_nat v p hv hp8
        have hj8 : j < T.size := by rw [Crc.flips_length, hlen] at hjl; exact hjl
        have hfl : f + k ≤ 24048 := by have := HEl.out; omega
        have hrz := hR.row.size
        have HR := Lib.hid hR; clear hR
        have HO := Lib.hid hodd; clear hodd
        have HJ := Lib.hid hj; have HRR := Lib.hid hr; have HP := Lib.hid ep; have HV := Lib.hid ev; have HJL := Lib.hid hjl; clear hj hr ep ev hjl hlen hE8
        go_wp2
        go_region
        go_wp2
        exact ⟨⟨k + 1, by omega, by omega, rfl, HR.out.next HO.out HJ.out HRR.out HP.out HV.out HJL.out⟩, by simp [intOf]; omega⟩
      · have e3 : (((x : Int) / 2 ^ k).tmod 2 == 1) = false := bit_even hodd
        have HR := Lib.hid hR; clear hR
        have HO := Lib.hid hodd; clear hodd hlen hE8
        go_wp2
        exact ⟨⟨k + 1, by omega, by omega, rfl, HR.out.same HO.out⟩, by simp [intOf]; omega⟩
    · have hL : (Crc.flips (bl T) f x k).length = T.size := by rw [Crc.flips_length, hlen]
      have hcv := text_of hR.row cap
      rw [hL] at hcv
      have hbt := bl_text hR.row
      obtain ⟨t, et⟩ : ∃ t, t = textOf (Crc.flips (bl T) f x k) := ⟨_, rfl⟩
      rw [← et] at hcv hbt
      have hts : t.size = T.size := by rw [et, textOf_size, hL]
      have hsz : ¬ 9223372036854775807 < t.size + more.size := by omega
      have H5 := Lib.hid (H4.out k t hk hfk hbt)
      have HR := Lib.hid hR; clear hR
      have HC := Lib.hid hc; have HTS := Lib.hid hts; clear hc hts hbt et hL hlen hE8
      by_cases htT : t = T
      · subst htT
        by_cases h1 : k < 32
        · have h2 : ¬ (f : Int) + (k : Int) < (E : Int) := by have := HC.out; omega
          have h3 : (k : Int) < 32 := by omega
          go_wp2_with fail
          refine (HW.out _ HR.out.below).mono ?_; rintro e w5 ⟨rfl, b5⟩
          go_wp2
          go_ret
          exact ⟨rfl, b5⟩
        · have h3 : ¬ (k : Int) < 32 := by omega
          go_wp2_with fail
          refine (HW.out _ HR.out.below).mono ?_; rintro e w5 ⟨rfl, b5⟩
          go_wp2
          go_ret
          exact ⟨rfl, b5⟩
      · have hne : (t.toList == T.toList) = false := other_text.2 (fun hh => htT (by rw [← list_bs t, ← list_bs T, hh]))
        have H6 := Lib.hid (H5.out htT); clear H5
        by_cases h1 : k < 32
        · have h2 : ¬ (f : Int) + (k : Int) < (E : Int) := by have := HC.out; omega
          have h3 : (k : Int) < 32 := by omega
          go_wp2_with fail
          refine (H6.out _ (HT.out.later HR.out.below)).mono ?_; rintro e w5 ⟨rfl, b⟩
          have B5 := Lib.hid (HR.out.below.trans (b.mono HR.out.below.size)); clear b
          go_wp2_with fail
          refine (HW.out _ B5.out).mono ?_; rintro e w6 ⟨rfl, b6⟩
          go_wp2
          go_ret
          exact ⟨rfl, b6⟩
        · have h3 : ¬ (k : Int) < 32 := by omega
          go_wp2_with fail
          refine (H6.out _ (HT.out.later HR.out.below)).mono ?_; rintro e w5 ⟨rfl, b⟩
          have B5 := Lib.hid (HR.out.below.trans (b.mono HR.out.below.size)); clear b
          go_wp2_with fail
          refine (HW.out _ B5.out).mono ?_; rintro e w6 ⟨rfl, b6⟩
          go_wp2
          go_ret
          exact ⟨rfl, b6⟩
set_option maxHeartbeats 4000000 in
theorem back_text (s more T : ByteArray) (cut at_ x : Nat) (c F E D a f : Nat) (hs : ¬ (3000 : Int) < (s.size : Int)) (hmo : ¬ (3000 : Int) < (more.size : Int)) (hcut : cut < 65536) (hat : at_ < 65536) (hx : x < 4294967296)
    (hT : ((T.size : Int) != (s.size : Int) + 6) = false) (hTl : T.size ≤ 3006) (w : World) (HT : Hid (Laid w)) (TM : ByteArray) (hTM : T ++ more = TM) (hc : (cut : Int).tmod (T.size : Int) = (c : Int)) (hcT : (c : Int) ≤ (T.size : Int)) (hT0 : ¬ (T.size : Int) = 0)
    (H1 : Hid (∀ w, Laid w → Calls Tryd.prog 21 #[.string s] w fun e w' => e = .returned (.string T) ∧ Below w.heap.size w w'))
    (H2 : Hid (∀ w, Laid w → Calls Tryd.prog 13 #[.string TM] w fun e w' => e = .returned (.tuple #[.string s, .string more, .int .i64 0]) ∧ Below w.heap.size w w'))
    (H3 : Hid (∀ w, Laid w → Calls Tryd.prog 22 #[.string (T.extract 0 c), .int .i64 10] w fun e w' => e = .returned (.bool true) ∧ Below w.heap.size w w'))
    (h0 : ((s.size : Int) == 0) = false)  (hE : (16 : Int) + 8 * (s.size : Int) = (E : Int)) (hD : (E : Int) - 16 = (D : Int)) (hD0 : ¬ (D : Int) = 0) (ha : (at_ : Int).tmod (D : Int) = (a : Int)) (hf : 16 + (a : Int) = (f : Int)) (hfE : f < E) (hE8 : E ≤ 8 * T.size)
    (H4 : Hid (∀ (k : Nat) (t : ByteArray), k ≤ 32 → f + k ≤ E → bl t = Crc.flips (bl T) f x k → ¬ t = T → ∀ w, Laid w → Calls Tryd.prog 22 #[.string (t ++ more), .int .i64 9] w fun e w' => e = .returned (.bool true) ∧ Below w.heap.size w w')) :
    Calls Tryd.prog 6 #[.string s, .string more, .agg #[.int .u16 cut, .int .u16 at_, .int .u32 x, .bool false]] w fun e w' => e = .returned (.bool true) ∧ Below w.heap.size w w' := by
  have HB := Lib.hid ((Below.refl w.heap.size w).alloc (Nat.le_refl _) (.cells #[.int .u16 cut, .int .u16 at_, .int .u32 x, .bool false] 50))
  have HI := Lib.hid (Is.new w 50 #[.int .u16 cut, .int .u16 at_, .int .u32 x, .bool false])
  have HW := Lib.hid (fun w' (hb : Below w.heap.size w w') => works_later HT.out hb)
  have hu : IntKind.i64.wrap (cut : Int) = (cut : Int) := by rw [IntKind.wrap_i64]; omega
  have hua : IntKind.i64.wrap (at_ : Int) = (at_ : Int) := by rw [IntKind.wrap_i64]; omega
  have HE8 := Lib.hid hE8; clear hE8
  have HFE := Lib.hid hfE; clear hfE
  have HEl : Hid (E ≤ 24048) := Lib.hid (by have := HE8.out; omega)
  have hfL : f ≤ 24048 := by have := HE8.out; have := HFE.out; omega
  go_enter Tryd.func6, Tryd.ntmps6
  go_wp2_with fail
  refine (H1.out _ (HT.out.later HB.out)).mono ?_; rintro e w1 ⟨rfl, b⟩
  have I1 := Lib.hid (HI.out.kept (grow_below b none) (by simp))
  have B1 := Lib.hid (HB.out.trans (b.mono HB.out.size)); clear b
  go_wp2_with fail
  refine (H2.out _ (HT.out.later B1.out)).mono ?_; rintro e w2 ⟨rfl, b⟩
  have hI := I1.out.kept (grow_below b none) (by simp)
  have I2 := Lib.hid hI
  have c0 := hI.cell 0
  simp at c0
  have B2 := Lib.hid (B1.out.trans (b.mono B1.out.size)); clear b hI
  go_wp2_with fail
  refine (H3.out _ (HT.out.later B2.out)).mono ?_; rintro e w3 ⟨rfl, b⟩
  have hI := I2.out.kept (grow_below b none) (by simp)
  have B3 := Lib.hid (B2.out.trans (b.mono B2.out.size)); clear b c0
  obtain ⟨cap, w4, hcv, hrow, hbel⟩ := bytes_row w3 T
  have HX : Hid (Torn w #[.int .u16 cut, .int .u16 at_, .int .u32 x, .bool false] w3.heap.size (bl T) w4) := Lib.hid ⟨B3.out.trans (hbel.mono B3.out.size), hI.kept (grow_below hbel none) (by simp), hrow, hI.lt⟩
  clear hI hrow hbel
  obtain ⟨g, hg⟩ : ∃ g, g = w3.heap.size := ⟨_, rfl⟩
  rw [← hg] at hcv HX
  have HG := Lib.hid hg; clear hg
  have d1 := HX.out.box.cell 1
  have d3 := HX.out.box.cell 3
  simp at d1 d3
  have hlen : (bl T).length = T.size := bl_length T
  have HLen := Lib.hid hlen; clear hlen
  go_wp2
  go_loopw [15] (fun i wr => ∃ k : Nat, k ≤ 32 ∧ f + k ≤ E ∧ i = .int .i64 k ∧ Torn w #[.int .u16 cut, .int .u16 at_, .int .u32 x, .bool false] g (Crc.flips (bl T) f x k) wr) (fun i _ => 32 - (intOf i).toNat)
  case atStart => exact ⟨0, by omega, Nat.le_of_lt HFE.out, rfl, HX.out⟩
  case round =>
    obtain ⟨k, hk, hfk, rfl, hR⟩ := hrel
    clear hcv d1 d3 HX
    have hlen := HLen.out
    have hE8 := HE8.out
    by_cases hc : k < 32 ∧ f + k < E
    · obtain ⟨c1, c2⟩ := hc
      have e1 : ((k : Int) < 32) := by omega
      have e2 : (f : Int) + (k : Int) < (E : Int) := by omega
      have hcx := hR.box.cell 2
      simp at hcx
      by_cases hodd : x / 2 ^ k % 2 = 1
      · have e3 : (((x : Int) / 2 ^ k).tmod 2 == 1) = true := bit_odd hodd
        obtain ⟨j, hj⟩ : ∃ j, j = (f + k) / 8 := ⟨_, rfl⟩
        obtain ⟨r, hr⟩ : ∃ r, r = (f + k) % 8 := ⟨_, rfl⟩
        have hjl : j < (Crc.flips (bl T) f x k).length := by rw [Crc.flips_length, hlen]; omega
        have hcell := hR.row.cell j hjl
        have hfree := hR.row.free j hjl
        have hq : ((f : Int) + (k : Int)).tdiv 8 = (j : Int) := by rw [Int.tdiv_eq_ediv_of_nonneg (by omega)]; omega
        have hm : ((f : Int) + (k : Int)).tmod 8 = (r : Int) := by rw [Int.tmod_eq_emod_of_nonneg (by omega)]; omega
        obtain ⟨hp, hp8⟩ := pow_mod8 (show r < 8 by omega)
        obtain ⟨p, ep⟩ : ∃ p, p = 2 ^ r := ⟨_, rfl⟩
        rw [← ep] at hp hp8
        obtain ⟨v, ev⟩ : ∃ v, v = (Crc.flips (bl T) f x k).getD j 0 := ⟨_, rfl⟩
        have hv : v < 256 := by rw [ev]; exact hR.row.at_lt j hjl
        rw [← ev] at hcell
        have hxor := u8_xor_nat v p hv hp8
        have hj8 : j < T.size := by rw [Crc.flips_length, hlen] at hjl; exact hjl
        have hfl : f + k ≤ 24048 := by have := HEl.out; omega
        have hrz := hR.row.size
        have HR := Lib.hid hR; clear hR
        have HO := Lib.hid hodd; clear hodd
        have HJ := Lib.hid hj; have HRR := Lib.hid hr; have HP := Lib.hid ep; have HV := Lib.hid ev; have HJL := Lib.hid hjl; clear hj hr ep ev hjl hlen hE8
        go_wp2
        go_region
        go_wp2
        exact ⟨⟨k + 1, by omega, by omega, rfl, HR.out.next HO.out HJ.out HRR.out HP.out HV.out HJL.out⟩, by simp [intOf]; omega⟩
      · have e3 : (((x : Int) / 2 ^ k).tmod 2 == 1) = false := bit_even hodd
        have HR := Lib.hid hR; clear hR
        have HO := Lib.hid hodd; clear hodd hlen hE8
        go_wp2
        exact ⟨⟨k + 1, by omega, by omega, rfl, HR.out.same HO.out⟩, by simp [intOf]; omega⟩
    · have hL : (Crc.flips (bl T) f x k).length = T.size := by rw [Crc.flips_length, hlen]
      have hcv := text_of hR.row cap
      rw [hL] at hcv
      have hbt := bl_text hR.row
      obtain ⟨t, et⟩ : ∃ t, t = textOf (Crc.flips (bl T) f x k) := ⟨_, rfl⟩
      rw [← et] at hcv hbt
      have hts : t.size = T.size := by rw [et, textOf_size, hL]
      have hsz : ¬ 9223372036854775807 < t.size + more.size := by omega
      have H5 := Lib.hid (H4.out k t hk hfk hbt)
      have HR := Lib.hid hR; clear hR
      have HC := Lib.hid hc; have HTS := Lib.hid hts; clear hc hts hbt et hL hlen hE8
      by_cases htT : t = T
      · subst htT
        by_cases h1 : k < 32
        · have h2 : ¬ (f : Int) + (k : Int) < (E : Int) := by have := HC.out; omega
          have h3 : (k : Int) < 32 := by omega
          go_wp2_with fail
          refine (HW.out _ HR.out.below).mono ?_; rintro e w5 ⟨rfl, b5⟩
          go_wp2
          go_ret
          exact ⟨rfl, b5⟩
        · have h3 : ¬ (k : Int) < 32 := by omega
          go_wp2_with fail
          refine (HW.out _ HR.out.below).mono ?_; rintro e w5 ⟨rfl, b5⟩
          go_wp2
          go_ret
          exact ⟨rfl, b5⟩
      · have hne : (t.toList == T.toList) = false := other_text.2 (fun hh => htT (by rw [← list_bs t, ← list_bs T, hh]))
        have H6 := Lib.hid (H5.out htT); clear H5
        by_cases h1 : k < 32
        · have h2 : ¬ (f : Int) + (k : Int) < (E : Int) := by have := HC.out; omega
          have h3 : (k : Int) < 32 := by omega
          go_wp2_with fail
          refine (H6.out _ (HT.out.later HR.out.below)).mono ?_; rintro e w5 ⟨rfl, b⟩
          have B5 := Lib.hid (HR.out.below.trans (b.mono HR.out.below.size)); clear b
          go_wp2_with fail
          refine (HW.out _ B5.out).mono ?_; rintro e w6 ⟨rfl, b6⟩
          go_wp2
          go_ret
          exact ⟨rfl, b6⟩
        · have h3 : ¬ (k : Int) < 32 := by omega
          go_wp2_with fail
          refine (H6.out _ (HT.out.later HR.out.below)).mono ?_; rintro e w5 ⟨rfl, b⟩
          have B5 := Lib.hid (HR.out.below.trans (b.mono HR.out.below.size)); clear b
          go_wp2_with fail
          refine (HW.out _ B5.out).mono ?_; rintro e w6 ⟨rfl, b6⟩
          go_wp2
          go_ret
          exact ⟨rfl, b6⟩
end Go.Proofs.YtmjgbafoemdlpaaDoor
