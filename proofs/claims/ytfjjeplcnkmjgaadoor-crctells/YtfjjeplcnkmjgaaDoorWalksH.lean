/- The law on turned bits, walked. Conditions: numbers of 32 bits; texts as long as may be; the tables as they are laid. -/
import Derived.Test.YtfjjeplcnkmjgaaDoorWalksG
import Derived.BigRegion
import Derived.StillTailTactics
namespace Go.Proofs.YtfjjeplcnkmjgaaDoor
open Go.ChangeShapes Go.WideShapes Go.RowKit
/-- The row b holds the bytes bs, and may be written. -/
structure Row (b : Nat) (bs : List Nat) (w : World) : Prop where
  size : b < w.heap.size
  cell : ∀ j, j < bs.length → w.cell? ⟨b, j, none⟩ = some (.int .u8 (bs.getD j 0 : Nat))
  free : ∀ j, j < bs.length → w.frozen? ⟨b, j, none⟩ = false
  byte : ∀ x ∈ bs, x < 256
theorem Row.at_lt {b : Nat} {bs : List Nat} {w : World} (h : Row b bs w) (j : Nat) (hj : j < bs.length) : bs.getD j 0 < 256 := by
  have e : bs.getD j 0 = bs[j] := by simp [List.getD, hj]
  rw [e]
  exact h.byte _ (List.getElem_mem hj)
theorem bit_odd {x k : Nat} (h : x / 2 ^ k % 2 = 1) : (((x : Int) / 2 ^ k).tmod 2 == 1) = true := by
  have e : (x : Int) / 2 ^ k = ((x / 2 ^ k : Nat) : Int) := by simp
  rw [e]
  generalize x / 2 ^ k = q at h
  rw [Int.tmod_eq_emod_of_nonneg (by omega), beq_iff_eq]; omega
theorem bit_even {x k : Nat} (h : ¬ x / 2 ^ k % 2 = 1) : (((x : Int) / 2 ^ k).tmod 2 == 1) = false := by
  have e : (x : Int) / 2 ^ k = ((x / 2 ^ k : Nat) : Int) := by simp
  rw [e]
  generalize x / 2 ^ k = q at h
  rw [Int.tmod_eq_emod_of_nonneg (by omega), beq_eq_false_iff_ne]; omega
theorem pow_mod8 {k : Nat} (h : k < 8) : (2 : Int) ^ (min k 8) % 256 = ((2 ^ k : Nat) : Int) ∧ 2 ^ k < 256 := by
  rw [Nat.min_eq_left (by omega)]
  have h1 : (2 : Nat) ^ k < 2 ^ 8 := Nat.pow_lt_pow_right (by decide) h
  have e : (2 : Int) ^ k = ((2 ^ k : Nat) : Int) := by simp
  rw [e]
  generalize 2 ^ k = p at *
  omega
theorem setCell_other (w : World) (b i j : Nat) (v : Value) (h : i ≠ j) : (w.setCell ⟨b, i, none⟩ v).cell? ⟨b, j, none⟩ = w.cell? ⟨b, j, none⟩ := World.cell?_setCell_other _ _ _ _ (by intro e; injection e with _ e2 _; omega)
theorem Row.next {b : Nat} {s : List Nat} {w : World} {f x k j r p v : Nat} (h : Row b (Crc.flips s f x k) w) (ho : x / 2 ^ k % 2 = 1) (hj : j = (f + k) / 8) (hr : r = (f + k) % 8) (hp : p = 2 ^ r) (hv : v = (Crc.flips s f x k).getD j 0) (hjl : j < (Crc.flips s f x k).length) :
    Row b (Crc.flips s f x (k + 1)) (w.setCell ⟨b, j, none⟩ (.int .u8 (v ^^^ p : Nat))).drew := by
  have e : Crc.flips s f x (k + 1) = (Crc.flips s f x k).modify j (· ^^^ p) := by
    show (if _ then _ else _) = _
    rw [if_pos ho, Crc.flip, hp, hr, hj]
  have hat := h.at_lt j hjl
  rw [e]
  generalize Crc.flips s f x k = bs at *
  refine ⟨?_, fun i hi => ?_, fun i hi => ?_, fun y hy => ?_⟩
  · show _ < (World.setCell _ _ _).heap.size
    simpa [World.setCell] using h.size
  · rw [List.length_modify] at hi
    show (World.setCell _ _ _).cell? _ = _
    by_cases hij : j = i
    · subst hij
      rw [World.cell?_setCell_same _ _ _ (h.cell j hi)]
      simp [List.getD, hi, hv]
    · rw [setCell_other _ _ _ _ _ hij, h.cell i hi]
      simp [List.getD, hij]
  · rw [List.length_modify] at hi
    show (World.setCell _ _ _).frozen? _ = _
    rw [World.frozen?_setCell]
    exact h.free i hi
  · obtain ⟨i, hi, rfl⟩ := List.getElem_of_mem hy
    rw [List.length_modify] at hi
    rw [List.getElem_modify]
    split
    · have h1 := h.byte _ (List.getElem_mem hi)
      have h2 : p < 256 := by
        rw [hp]
        have : (2 : Nat) ^ r < 2 ^ 8 := Nat.pow_lt_pow_right (by decide) (by omega)
        omega
      exact Nat.xor_lt_two_pow (n := 8) h1 h2
    · exact h.byte _ (List.getElem_mem hi)
theorem Row.same {b : Nat} {s : List Nat} {w : World} {f x k : Nat} (h : Row b (Crc.flips s f x k) w) (ho : ¬ x / 2 ^ k % 2 = 1) : Row b (Crc.flips s f x (k + 1)) w := by
  have e : Crc.flips s f x (k + 1) = Crc.flips s f x k := by
    show (if _ then _ else _) = _
    rw [if_neg ho]
  rw [e]; exact h
def textOf (bs : List Nat) : ByteArray := ⟨(bs.map UInt8.ofNat).toArray⟩
theorem textOf_size (bs : List Nat) : (textOf bs).size = bs.length := by
  show ((bs.map UInt8.ofNat).toArray).size = _
  simp
theorem bl_text {b : Nat} {bs : List Nat} {w : World} (h : Row b bs w) : bl (textOf bs) = bs := by
  show ((bs.map UInt8.ofNat).toArray.toList).map (·.toNat) = bs
  rw [List.map_map]
  conv => rhs; rw [← List.map_id bs]
  apply List.map_congr_left
  intro y hy
  have := h.byte y hy
  simp [Nat.mod_eq_of_lt this]
theorem bl_inj {a b : ByteArray} (h : bl a = bl b) : a = b := by
  apply ByteArray.ext
  apply Array.toList_inj.1
  have hinj : ∀ x y : UInt8, x.toNat = y.toNat → x = y := fun x y h => UInt8.toNat_inj.1 h
  exact (List.map_inj_right hinj).1 h
theorem eq_of_toList {a b : ByteArray} (h : a.toList = b.toList) : a = b := by
  rw [ByteArray.toList_eq, ByteArray.toList_eq] at h
  exact ByteArray.ext (Array.toList_inj.1 h)
theorem text_of {b : Nat} {bs : List Nat} {w : World} (h : Row b bs w) (cap : Nat) : (convert 30 9 (.slice (some ⟨b, 0, none⟩) bs.length cap)).run Tryd.prog w = .ok (.string (textOf bs)) w := by
  have hr := run_convert_bytes_back (P := Tryd.prog) w 30 9 5 ⟨b, 0, none⟩ cap (bs.map UInt8.ofNat) Tryd.underlying30 Tryd.underlying5 Tryd.underlying9 (fun j hj => by
    have hj' : j < bs.length := by simpa using hj
    have e : (⟨b, 0, none⟩ : Addr).add j = ⟨b, j, none⟩ := by unfold Addr.add; split <;> simp_all
    have hl := h.byte _ (List.getElem_mem hj')
    rw [e, h.cell j hj']
    simp [List.getD, hj', Nat.mod_eq_of_lt hl])
  simp only [List.length_map] at hr
  exact hr
set_option linter.unusedVariables false in
theorem loop_any {w : World} (s : ByteArray) (at_ x cap : Nat) (ht : Tab4 w) (ht5 : Tab5 w) (hB : 1 < w.heap.size) (hx : x < 4294967296) (hat : at_ < 4294967296) (hs0 : 0 < s.size) (hs : s.size ≤ 10000) (w1 : World)
    (hcv : (convert 9 30 (.string s)).run Tryd.prog w = .ok (.slice (some ⟨w.heap.size, 0, none⟩) s.size cap) w1) (hrow : Row w.heap.size (bl s) w1) (hbel : Below w.heap.size w w1) :
    Calls Tryd.prog 6 #[.string s, .int .u32 at_, .int .u32 x] w fun e w' => e = .returned (.bool true) ∧ Below w.heap.size w w' := by
  have e0 : ((s.size : Int) == 0) = false := by rw [beq_eq_false_iff_ne]; omega
  have e1 : ¬ (10000 : Int) < (s.size : Int) := by omega
  have ef : (at_ : Int) % (8 * (s.size : Int)) = ((at_ % (8 * s.size) : Nat) : Int) := by simp
  obtain ⟨f, hf⟩ : ∃ f, f = at_ % (8 * s.size) := ⟨_, rfl⟩
  rw [← hf] at ef
  have hf8 : f < 8 * s.size := by rw [hf]; exact Nat.mod_lt _ (by omega)
  have HF := Lib.hid hf; clear hf
  go_enter Tryd.func6, Tryd.ntmps6
  go_wp2
  have hlen : (bl s).length = s.size := bl_length s
  go_loopw [9] (fun i wr => ∃ k : Nat, k ≤ 32 ∧ f + k ≤ 8 * s.size ∧ i = .int .i64 k ∧ Row w.heap.size (Crc.flips (bl s) f x k) wr ∧ Below w.heap.size w wr) (fun i _ => 32 - (intOf i).toNat)
  case atStart => exact ⟨0, by omega, by omega, rfl, hrow, hbel⟩
  case round =>
    obtain ⟨k, hk, hfk, rfl, hR, hb⟩ := hrel
    by_cases hc : k < 32 ∧ f + k < 8 * s.size
    · obtain ⟨c1, c2⟩ := hc
      have d1 : ((k : Int) < 32) := by omega
      have d2 : (f : Int) + (k : Int) < 8 * (s.size : Int) := by omega
      by_cases hodd : x / 2 ^ k % 2 = 1
      · have d3 : (((x : Int) / 2 ^ k).tmod 2 == 1) = true := bit_odd hodd
        obtain ⟨j, hj⟩ : ∃ j, j = (f + k) / 8 := ⟨_, rfl⟩
        obtain ⟨r, hr⟩ : ∃ r, r = (f + k) % 8 := ⟨_, rfl⟩
        have hjl : j < (Crc.flips (bl s) f x k).length := by rw [Crc.flips_length, hlen]; omega
        have hcell := hR.cell j hjl
        have hfree := hR.free j hjl
        have hq : ((f : Int) + (k : Int)).tdiv 8 = (j : Int) := by rw [Int.tdiv_eq_ediv_of_nonneg (by omega)]; omega
        have hm : ((f : Int) + (k : Int)).tmod 8 = (r : Int) := by rw [Int.tmod_eq_emod_of_nonneg (by omega)]; omega
        obtain ⟨hp, hp8⟩ := pow_mod8 (show r < 8 by omega)
        obtain ⟨p, ep⟩ : ∃ p, p = 2 ^ r := ⟨_, rfl⟩
        rw [← ep] at hp hp8
        obtain ⟨v, ev⟩ : ∃ v, v = (Crc.flips (bl s) f x k).getD j 0 := ⟨_, rfl⟩
        have hv : v < 256 := by rw [ev]; exact hR.at_lt j hjl
        rw [← ev] at hcell
        have hxor := u8_xor_nat v p hv hp8
        have hj8 : j < s.size := by omega
        have HR := Lib.hid hR; clear hR
        have HO := Lib.hid hodd; clear hodd
        have HJ := Lib.hid hj; have HRR := Lib.hid hr; have HP := Lib.hid ep; have HV := Lib.hid ev; clear hj hr ep ev hjl
        have HB := Lib.hid hb; clear hb
        have HROW := Lib.hid hrow; have HBEL := Lib.hid hbel; clear hrow hbel hcv
        go_wp2
        go_region
        go_wp2
        exact ⟨⟨k + 1, by omega, by omega, rfl, Row.next HR.out HO.out HJ.out HRR.out HP.out HV.out (by rw [Crc.flips_length, hlen]; omega), (HB.out.setCell (Nat.le_refl _) _).drew⟩, by simp [intOf]; omega⟩
      · have d3 : (((x : Int) / 2 ^ k).tmod 2 == 1) = false := bit_even hodd
        have HR := Lib.hid hR; clear hR
        have HO := Lib.hid hodd; clear hodd
        have HB := Lib.hid hb; clear hb
        have HROW := Lib.hid hrow; have HBEL := Lib.hid hbel; clear hrow hbel hcv
        go_wp2
        exact ⟨⟨k + 1, by omega, by omega, rfl, Row.same HR.out HO.out, HB.out⟩, by simp [intOf]; omega⟩
    · have hw : Hid (Row w.heap.size (bl s) w1) := Lib.hid hrow
      clear hrow hbel hcv
      have hL : (Crc.flips (bl s) f x k).length = s.size := by rw [Crc.flips_length, hlen]
      have hcv := text_of hR cap
      rw [hL] at hcv
      have hbt := bl_text hR
      have htl := Crc.upd_flips (bl s) 0 f x k hk (by rw [hlen]; exact hfk)
      rw [← hbt] at htl
      obtain ⟨t, et⟩ : ∃ t, t = textOf (Crc.flips (bl s) f x k) := ⟨_, rfl⟩
      rw [← et] at hcv htl
      have htsz : t.size ≤ maxLen := by rw [et, textOf_size, hL]; unfold maxLen; omega
      have hsz : s.size ≤ maxLen := by unfold maxLen; omega
      have b1 := hb.size
      have s1 := sum_any t htsz wr (ht.below hB hb)
      have s2 := sum_any s hsz wr (ht.below hB hb)
      have s5 := works_later ht ht5 hB hb
      generalize Crc.upd 0 (bl t) = y at s1 htl
      generalize Crc.upd 0 (bl s) = z at s2 htl
      have HE : Hid (y = z ↔ bl t = bl s) := htl
      have S1 := Lib.hid s1; have S2 := Lib.hid s2; have S5 := Lib.hid s5
      have HC := Lib.hid hc
      clear s1 s2 s5 htl et hbt hR hc
      have hEq : ((((y : Nat) : Int) == ((z : Nat) : Int)) == (t.toList == s.toList)) = true := by
        by_cases hyz : y = z
        · have hts : t = s := bl_inj (HE.out.1 hyz)
          subst hts; subst hyz; simp
        · have e1 : (((y : Nat) : Int) == ((z : Nat) : Int)) = false := by rw [beq_eq_false_iff_ne]; omega
          have e2 : (t.toList == s.toList) = false := by
            rw [beq_eq_false_iff_ne]
            intro e
            apply hyz
            apply HE.out.2
            rw [eq_of_toList e]
          rw [e1, e2]; rfl
      by_cases h1 : k < 32
      · have h2 : ¬ (f : Int) + (k : Int) < 8 * (s.size : Int) := by have := HC.out; omega
        have h3 : (k : Int) < 32 := by omega
        go_wp2_with (first | (go_at_call_of 10 (Value.string t); refine S1.out.mono ?_; rintro e w' ⟨rfl, rfl⟩) | (go_at_call_of 10 (Value.string s); refine S2.out.mono ?_; rintro e w' ⟨rfl, rfl⟩) | (go_at_call 9; refine S5.out.mono ?_; rintro e w' ⟨rfl, hbel⟩))
        go_ret
        exact ⟨rfl, hbel⟩
      · have h3 : ¬ (k : Int) < 32 := by omega
        go_wp2_with (first | (go_at_call_of 10 (Value.string t); refine S1.out.mono ?_; rintro e w' ⟨rfl, rfl⟩) | (go_at_call_of 10 (Value.string s); refine S2.out.mono ?_; rintro e w' ⟨rfl, rfl⟩) | (go_at_call 9; refine S5.out.mono ?_; rintro e w' ⟨rfl, hbel⟩))
        go_ret
        exact ⟨rfl, hbel⟩
theorem bytesRow_at {s : ByteArray} {j cap : Nat} (hj : j < s.size) : (bytesRow s cap)[j]? = some (.int .u8 ((bl s).getD j 0 : Nat)) := by
  have hd : j < s.data.size := hj
  have hb : (bl s).getD j 0 = s.data[j].toNat := by
    unfold bl
    have hq := Array.getElem?_eq_getElem hd
    simp [List.getD, hq]
  rw [hb]
  unfold bytesRow
  rw [Array.getElem?_append_left (by rw [Array.size_map]; exact hd)]
  have hq := Array.getElem?_eq_getElem hd
  simp [hq]
theorem bytes_row (w : World) (s : ByteArray) : ∃ cap w1, (convert 9 30 (.string s)).run Tryd.prog w = .ok (.slice (some ⟨w.heap.size, 0, none⟩) s.size cap) w1 ∧ Row w.heap.size (bl s) w1 ∧ Below w.heap.size w w1 := by
  refine ⟨_, _, run_bytes_of_string (P := Tryd.prog) w 9 30 5 s Tryd.underlying9 Tryd.underlying30 Tryd.underlying5, ⟨?_, ?_, ?_, bl_lt s⟩, ?_⟩
  · show _ < (World.alloc _ _).heap.size
    simp
  · intro j hj
    rw [bl_length] at hj
    rw [show (w.heap.size) = w.drew.heap.size from rfl, World.cell?_alloc_mark, bytesRow_at hj]
  · intro j hj
    rw [bl_length] at hj
    have hsz : s.size ≤ (bytesRow s (grownCap w s.size 0 5)).size := by
      unfold bytesRow
      rw [Array.size_append, Array.size_map]
      exact Nat.le_add_right _ _
    rw [show (w.heap.size) = w.drew.heap.size from rfl, World.frozen?_alloc_mark]
    simp
    omega
  · exact ((Below.refl _ w).drew).alloc (Nat.le_refl _) _
set_option linter.unusedVariables false in
theorem crcTells_walk (s : ByteArray) (at_ x : Nat) (hs : s.size ≤ maxLen) (hat : at_ < 4294967296) (hx : x < 4294967296) (w : World) (ht : Tab4 w) (ht5 : Tab5 w) (hB : 1 < w.heap.size) :
    Calls Tryd.prog 6 #[.string s, .int .u32 at_, .int .u32 x] w fun e w' => e = .returned (.bool true) ∧ Below w.heap.size w w' := by
  by_cases h0 : s.size = 0
  · have e0 : ((s.size : Int) == 0) = true := by rw [beq_iff_eq]; omega
    have S5 := Lib.hid (works_any w ht ht5 hB)
    clear h0
    go_enter Tryd.func6, Tryd.ntmps6
    go_wp2_with (go_at_call 9; refine S5.out.mono ?_; rintro e w' ⟨rfl, hbel⟩)
    go_ret
    exact ⟨rfl, hbel⟩
  · by_cases hl : (10000 : Int) < (s.size : Int)
    · have e0 : ((s.size : Int) == 0) = false := by rw [beq_eq_false_iff_ne]; omega
      have S5 := Lib.hid (works_any w ht ht5 hB)
      clear h0
      go_enter Tryd.func6, Tryd.ntmps6
      go_wp2_with (go_at_call 9; refine S5.out.mono ?_; rintro e w' ⟨rfl, hbel⟩)
      go_ret
      exact ⟨rfl, hbel⟩
    · obtain ⟨cap, w1, hcv, hrow, hbel⟩ := bytes_row w s
      exact loop_any s at_ x cap ht ht5 hB hx hat (by omega) (by omega) w1 hcv hrow hbel
end Go.Proofs.YtfjjeplcnkmjgaaDoor
