/- The law that what was read, written anew, is what was read. Conditions: none. -/
import Derived.Test.YthgpffmgbooncaaBack
import Derived.Test.YthgpffmgbooncaaLiftB
namespace Go.Proofs.Ythgpffmgbooncaa
open Go.ChangeShapes Go.WideShapes Go.RowKit Go.Codec
/-- What is left behind an item, if it is whole; else it is torn. -/
def Alt (z : R) (y : It) (l : List UInt8) : Prop := (∃ l', z = ⟨l', 0⟩ ∧ enc y ++ l' = l) ∨ z = ⟨[], 10⟩
theorem alt_num (l : List UInt8) (k : Nat) (y : It) (hy : enc y = be k (val ((⟨l, 0⟩ : R).take k))) : Alt ((⟨l, 0⟩ : R).drop k) y l := by
  unfold Alt
  rw [hy]
  by_cases h : k ≤ l.length
  · left
    refine ⟨l.drop k, by unfold R.drop; rw [if_pos h], ?_⟩
    have e : (⟨l, 0⟩ : R).take k = l.take k := by unfold R.take; rw [if_pos h]
    rw [e, be_val' (by rw [List.length_take]; omega)]
    exact List.take_append_drop _ _
  · right
    unfold R.drop; rw [if_neg h]
theorem alt_raw (l : List UInt8) (k : Nat) (y : It) (hy : enc y = (⟨l, 0⟩ : R).take k) : Alt ((⟨l, 0⟩ : R).drop k) y l := by
  unfold Alt
  rw [hy]
  by_cases h : k ≤ l.length
  · left
    refine ⟨l.drop k, by unfold R.drop; rw [if_pos h], ?_⟩
    have e : (⟨l, 0⟩ : R).take k = l.take k := by unfold R.take; rw [if_pos h]
    rw [e]
    exact List.take_append_drop _ _
  · right
    unfold R.drop; rw [if_neg h]
theorem alt_text (l : List UInt8) (y : It) (hy : enc y = be 2 (⟨l, 0⟩ : R).text.length ++ (⟨l, 0⟩ : R).text) : Alt (⟨l, 0⟩ : R).behind y l := by
  unfold Alt
  rw [hy]
  unfold R.text R.behind
  by_cases h : 2 ≤ l.length
  · have e1 : (⟨l, 0⟩ : R).take 2 = l.take 2 := by unfold R.take; rw [if_pos h]
    have e2 : (⟨l, 0⟩ : R).drop 2 = ⟨l.drop 2, 0⟩ := by unfold R.drop; rw [if_pos h]
    rw [e1, e2]
    by_cases h2 : val (l.take 2) ≤ (l.drop 2).length
    · left
      refine ⟨(l.drop 2).drop (val (l.take 2)), by unfold R.drop; rw [if_pos h2], ?_⟩
      have e3 : (⟨l.drop 2, 0⟩ : R).take (val (l.take 2)) = (l.drop 2).take (val (l.take 2)) := by unfold R.take; rw [if_pos h2]
      rw [e3, List.length_take, Nat.min_eq_left h2, be_val' (by rw [List.length_take]; omega), List.append_assoc, List.take_append_drop, List.take_append_drop]
    · right
      unfold R.drop; rw [if_neg h2]
  · right
    have e2 : (⟨l, 0⟩ : R).drop 2 = ⟨[], 10⟩ := by unfold R.drop; rw [if_neg h]
    rw [e2, drop_torn]
/-- Behind a read, and a store into the item that is new. -/
structure Mid (B a r g : Nat) (st : Option (List UInt8)) (z : R) (cs : Array Value) (w W : World) : Prop where
  wr : Wr W a st
  rd : Rd W r z
  it : Is W g 36 cs
  below : Below B w W
theorem Mid.put {B a r g : Nat} {st : Option (List UInt8)} {z : R} {cs : Array Value} {w W : World} (h : Mid B a r g st z cs w W) (hg : B ≤ g) (i : Nat) (u : Value) : Mid B a r g st z (cs.setIfInBounds i u) w (W.setCell ⟨g, i, none⟩ u) := by
  have hgr : W.grownBy (W.setCell ⟨g, i, none⟩ u) (some g) := grow_set (World.grownBy.refl W _) i u
  exact ⟨h.wr.other h.it (by decide) (by decide) hgr, Is.kept h.rd hgr (by intro e; injection e with e; exact (Is.ne h.rd h.it (by decide)) e), h.it.put i u, h.below.setCell hg u⟩
theorem Mid.read {B a r g : Nat} {st : Option (List UInt8)} {x z : R} {cs : Array Value} {w W W' : World} (h : Mid B a r g st x cs w W) (hr : B ≤ r) (hB : B ≤ W.heap.size) (hz : Rd W' r z) (hg : W.grownBy W' (some r)) : Mid B a r g st z cs w W' := by
  refine ⟨h.wr.other h.rd (by decide) (by decide) hg, hz, h.it.kept hg (by intro e; injection e with e; exact (Is.ne h.it h.rd (by decide)) e), h.below.trans (below_of_grow hg hB hr)⟩
theorem Mid.write {B a r g : Nat} {st : Option (List UInt8)} {x : R} {cs : Array Value} {w W W' : World} (h : Mid B a r g st x cs w W) (ha : B ≤ a) (hB : B ≤ W.heap.size) (hg : W.grownBy W' (some a)) : Rd W' r x ∧ Below B w W' := by
  obtain ⟨cs', hi⟩ := h.wr.is
  exact ⟨Is.kept h.rd hg (by intro e; injection e with e; exact (Is.ne h.rd hi (by decide)) e), h.below.trans (below_of_grow hg hB ha)⟩
theorem Mid.begin {B a r : Nat} {st : Option (List UInt8)} {x : R} {w W : World} (h1 : Wr W a st) (h2 : Rd W r x) (h3 : Below B w W) (hB : B ≤ W.heap.size) (cs : Array Value) : Mid B a r W.heap.size st x cs w (W.alloc (.cells cs 36)) :=
  have hb : Below W.heap.size W (W.alloc (.cells cs 36)) := (Below.refl _ W).alloc (Nat.le_refl _) _
  ⟨h1.below hb, h2.below hb, Is.new _ _ _, h3.trans (hb.mono hB)⟩
set_option maxHeartbeats 8000000 in
set_option maxRecDepth 100000 in
theorem one_ (s : ByteArray) (hs : s.size ≤ maxLen) (A : Option Addr) (xs : List Nat) (cap : Nat) (hl : xs.length ≤ maxLen) (w : World) (h : Kinds w w.heap.size A xs) : Calls Try.prog 7 #[.string s, .slice A xs.length cap] w fun e w' => e = .returned (.bool true) ∧ Below w.heap.size w w' := by
  have HI := Lib.hid h; clear h
  have HA := Lib.hid awake_any
  unfold maxLen at hl hs
  obtain ⟨n, hn⟩ : ∃ n, n = xs.length := ⟨_, rfl⟩
  rw [← hn] at hl
  rw [← hn]
  have HN := Lib.hid hn; clear hn
  by_cases hbig : 3000 < s.size ∨ 100 < n
  · by_cases h1 : 3000 < s.size
    all_goals
      go_enter Try.func7, Try.ntmps7
      go_wp2_with (go_at_call 9; refine (HA.out _).mono ?_; rintro e w' ⟨rfl, hb⟩)
      go_ret
      exact ⟨rfl, hb⟩
  · have hs6 : s.size ≤ 3000 := by omega
    have hn1 : n ≤ 100 := by omega
    clear hbig
    have HNew := Lib.hid (new_any s (by omega) w)
    go_enter Try.func7, Try.ntmps7
    go_wp2_with fail
    refine HNew.out.mono ?_
    rintro e v ⟨r, rfl, hr, h1, h2⟩
    have HW := Lib.hid (Wr.new v)
    have HR := Lib.hid (h1.below ((Below.refl _ _).alloc (Nat.le_refl _) (.cells #[.pointer none, .int .i64 0, .int .i64 0] 29)))
    have HB0 := Lib.hid (h2.alloc h2.size (.cells #[.pointer none, .int .i64 0, .int .i64 0] 29))
    have hv := h2.size
    clear h1 h2 HNew
    go_wp2_with fail
    go_loopw [7] (fun i W => ∃ (k : Nat) (t l : List UInt8), k ≤ n ∧ i = .int .i64 k ∧ Wr W v.heap.size (some t) ∧ Rd W r ⟨l, 0⟩ ∧ Below w.heap.size w W ∧ t ++ l = s.data.toList) (fun i _ => n - (intOf i).toNat)
    case atStart => exact ⟨0, [], s.data.toList, by omega, rfl, HW.out, HR.out, HB0.out, by simp⟩
    case round =>
      obtain ⟨k, t, l, hk, rfl, hW, hR, hB, htl⟩ := hrel
      have hlen : t.length + l.length ≤ 3000 := by
        have := congrArg List.length htl
        rw [List.length_append, ← Lib.size_eq] at this
        omega
      have HW1 := Lib.hid hW; have HR1 := Lib.hid hR; have HB1 := Lib.hid hB; have HTL := Lib.hid htl
      clear hW hR hB htl HW HR HB0
      by_cases hlt : k < n
      · obtain ⟨q, hq⟩ : ∃ q, xs[k]? = some q := ⟨_, List.getElem?_eq_getElem (by rw [← HN.out]; exact hlt)⟩
        obtain ⟨hq8, ad, rfl, hadb, c0⟩ := HI.out.kept HB1.out k q hq
        have HAD := Lib.hid (Nat.lt_of_lt_of_le hadb HB1.out.size)
        clear hadb
        clear hq
        have HM0 := Lib.hid (Mid.begin HW1.out HR1.out HB1.out HB1.out.size #[.int .u8 q, .int .u64 0, .string ⟨#[]⟩])
        have hgB := HB1.out.size
        have hc6 : q % 6 = 0 ∨ q % 6 = 1 ∨ q % 6 = 2 ∨ q % 6 = 3 ∨ q % 6 = 4 ∨ q % 6 = 5 := by omega
        rcases hc6 with hc | hc | hc | hc | hc | hc
        · have hq' : (q : Int) % 6 = 0 := by omega
          have hyk : (⟨q, val ((⟨l, 0⟩ : R).take 1), (⟨#[]⟩ : ByteArray)⟩ : It).kind % 6 = 0 := hc
          have hal : Alt ((⟨l, 0⟩ : R).drop 1) ⟨q, val ((⟨l, 0⟩ : R).take 1), (⟨#[]⟩ : ByteArray)⟩ l := alt_num l 1 _ (by unfold enc; simp only [hyk]; rfl)
          have hV := val_bd (⟨l, 0⟩ : R) 1 256 (by decide)
          have hcall : Calls Try.prog 25 #[.pointer (some ⟨r, 0, none⟩)] (wr.alloc (.cells #[.int .u8 q, .int .u64 0, .string ⟨#[]⟩] 36)) (Got .u8 r (val ((⟨l, 0⟩ : R).take 1)) ((⟨l, 0⟩ : R).drop 1) (wr.alloc (.cells #[.int .u8 q, .int .u64 0, .string ⟨#[]⟩] 36))) := ru8_any r ⟨l, 0⟩ (by simp only; omega) _ HM0.out.rd
          have H1 := Lib.hid hcall
          have HAL := Lib.hid hal
          clear hc hyk hal hcall
          generalize val ((⟨l, 0⟩ : R).take 1) = V at *
          generalize (⟨l, 0⟩ : R).drop 1 = z at *
          go_wp2_with fail
          refine H1.out.mono ?_
          rintro e w1 ⟨rfl, h1, g1⟩
          have hm := HM0.out.read hr (by simp; omega) h1 g1
          have i0 := hm.it.cell 0; have i1 := hm.it.cell 1; have i2 := hm.it.cell 2; have j1 := hm.it.frozen 1; have j2 := hm.it.frozen 2
          simp at i0 i1 i2
          have hg1 := hm.it.lt
          have HM1 := Lib.hid (hm.put hgB 1 (.int .u64 (V : Nat)))
          have hsz1 : w.heap.size ≤ w1.heap.size := hm.below.size
          clear h1 g1 hm H1 HM0
          rcases HAL.out with ⟨l', rfl, hl'⟩ | rfl
          · have HL' := Lib.hid hl'
            have H2 := Lib.hid (err_any r _ _ HM1.out.rd)
            have hel := congrArg List.length hl'
            rw [List.length_append] at hel
            have H3 := Lib.hid (write_any v.heap.size ⟨q, V, (⟨#[]⟩ : ByteArray)⟩ hq8 (by simp only; omega) (Nat.zero_le _) (some t) _ HM1.out.wr (by simp only [wlen]; omega))
            have HE := Lib.hid (step_enc t ⟨q, V, (⟨#[]⟩ : ByteArray)⟩ (Nat.zero_le _))
            clear hl' HAL hel
            go_wp2_with fail
            refine H2.out.mono ?_
            rintro e w2 ⟨rfl, rfl⟩
            clear H2
            go_wp2_with fail
            refine H3.out.mono ?_
            rintro e w3 ⟨rfl, g1, g2⟩
            rw [HE.out] at g1
            obtain ⟨k1, k2⟩ := HM1.out.write hv (by simpa [World.setCell] using hsz1) g2
            have HW3 := Lib.hid g1; have HR3 := Lib.hid k1; have HB3 := Lib.hid k2
            clear g1 g2 k1 k2 H3 HE HM1
            go_wp2_with fail
            refine ⟨⟨k + 1, _, l', by omega, by go_num, HW3.out, HR3.out, HB3.out, by rw [List.append_assoc, HL'.out]; exact HTL.out⟩, ?_⟩
            simp [intOf]; omega
          · have H2 := Lib.hid (err_any r _ _ HM1.out.rd)
            clear HAL
            go_wp2_with fail
            refine H2.out.mono ?_
            rintro e w2 ⟨rfl, rfl⟩
            clear H2
            go_wp2_with fail
            refine (HA.out _).mono ?_
            rintro e w3 ⟨rfl, hb⟩
            go_wp2_with fail
            go_ret
            exact ⟨rfl, HM1.out.below.trans (hb.mono HM1.out.below.size)⟩
        · have hq' : (q : Int) % 6 = 1 := by omega
          have hyk : (⟨q, val ((⟨l, 0⟩ : R).take 2), (⟨#[]⟩ : ByteArray)⟩ : It).kind % 6 = 1 := hc
          have hal : Alt ((⟨l, 0⟩ : R).drop 2) ⟨q, val ((⟨l, 0⟩ : R).take 2), (⟨#[]⟩ : ByteArray)⟩ l := alt_num l 2 _ (by unfold enc; simp only [hyk]; rfl)
          have hV := val_bd (⟨l, 0⟩ : R) 2 65536 (by decide)
          have hcall : Calls Try.prog 24 #[.pointer (some ⟨r, 0, none⟩)] (wr.alloc (.cells #[.int .u8 q, .int .u64 0, .string ⟨#[]⟩] 36)) (Got .u16 r (val ((⟨l, 0⟩ : R).take 2)) ((⟨l, 0⟩ : R).drop 2) (wr.alloc (.cells #[.int .u8 q, .int .u64 0, .string ⟨#[]⟩] 36))) := ru16_any r ⟨l, 0⟩ (by simp only; omega) _ HM0.out.rd
          have H1 := Lib.hid hcall
          have HAL := Lib.hid hal
          clear hc hyk hal hcall
          generalize val ((⟨l, 0⟩ : R).take 2) = V at *
          generalize (⟨l, 0⟩ : R).drop 2 = z at *
          go_wp2_with fail
          refine H1.out.mono ?_
          rintro e w1 ⟨rfl, h1, g1⟩
          have hm := HM0.out.read hr (by simp; omega) h1 g1
          have i0 := hm.it.cell 0; have i1 := hm.it.cell 1; have i2 := hm.it.cell 2; have j1 := hm.it.frozen 1; have j2 := hm.it.frozen 2
          simp at i0 i1 i2
          have hg1 := hm.it.lt
          have HM1 := Lib.hid (hm.put hgB 1 (.int .u64 (V : Nat)))
          have hsz1 : w.heap.size ≤ w1.heap.size := hm.below.size
          clear h1 g1 hm H1 HM0
          rcases HAL.out with ⟨l', rfl, hl'⟩ | rfl
          · have HL' := Lib.hid hl'
            have H2 := Lib.hid (err_any r _ _ HM1.out.rd)
            have hel := congrArg List.length hl'
            rw [List.length_append] at hel
            have H3 := Lib.hid (write_any v.heap.size ⟨q, V, (⟨#[]⟩ : ByteArray)⟩ hq8 (by simp only; omega) (Nat.zero_le _) (some t) _ HM1.out.wr (by simp only [wlen]; omega))
            have HE := Lib.hid (step_enc t ⟨q, V, (⟨#[]⟩ : ByteArray)⟩ (Nat.zero_le _))
            clear hl' HAL hel
            go_wp2_with fail
            refine H2.out.mono ?_
            rintro e w2 ⟨rfl, rfl⟩
            clear H2
            go_wp2_with fail
            refine H3.out.mono ?_
            rintro e w3 ⟨rfl, g1, g2⟩
            rw [HE.out] at g1
            obtain ⟨k1, k2⟩ := HM1.out.write hv (by simpa [World.setCell] using hsz1) g2
            have HW3 := Lib.hid g1; have HR3 := Lib.hid k1; have HB3 := Lib.hid k2
            clear g1 g2 k1 k2 H3 HE HM1
            go_wp2_with fail
            refine ⟨⟨k + 1, _, l', by omega, by go_num, HW3.out, HR3.out, HB3.out, by rw [List.append_assoc, HL'.out]; exact HTL.out⟩, ?_⟩
            simp [intOf]; omega
          · have H2 := Lib.hid (err_any r _ _ HM1.out.rd)
            clear HAL
            go_wp2_with fail
            refine H2.out.mono ?_
            rintro e w2 ⟨rfl, rfl⟩
            clear H2
            go_wp2_with fail
            refine (HA.out _).mono ?_
            rintro e w3 ⟨rfl, hb⟩
            go_wp2_with fail
            go_ret
            exact ⟨rfl, HM1.out.below.trans (hb.mono HM1.out.below.size)⟩
        · have hq' : (q : Int) % 6 = 2 := by omega
          have hyk : (⟨q, val ((⟨l, 0⟩ : R).take 4), (⟨#[]⟩ : ByteArray)⟩ : It).kind % 6 = 2 := hc
          have hal : Alt ((⟨l, 0⟩ : R).drop 4) ⟨q, val ((⟨l, 0⟩ : R).take 4), (⟨#[]⟩ : ByteArray)⟩ l := alt_num l 4 _ (by unfold enc; simp only [hyk]; rfl)
          have hV := val_bd (⟨l, 0⟩ : R) 4 4294967296 (by decide)
          have hcall : Calls Try.prog 32 #[.pointer (some ⟨r, 0, none⟩)] (wr.alloc (.cells #[.int .u8 q, .int .u64 0, .string ⟨#[]⟩] 36)) (Got .u32 r (val ((⟨l, 0⟩ : R).take 4)) ((⟨l, 0⟩ : R).drop 4) (wr.alloc (.cells #[.int .u8 q, .int .u64 0, .string ⟨#[]⟩] 36))) := ru32_any r ⟨l, 0⟩ (by simp only; omega) _ HM0.out.rd
          have H1 := Lib.hid hcall
          have HAL := Lib.hid hal
          clear hc hyk hal hcall
          generalize val ((⟨l, 0⟩ : R).take 4) = V at *
          generalize (⟨l, 0⟩ : R).drop 4 = z at *
          go_wp2_with fail
          refine H1.out.mono ?_
          rintro e w1 ⟨rfl, h1, g1⟩
          have hm := HM0.out.read hr (by simp; omega) h1 g1
          have i0 := hm.it.cell 0; have i1 := hm.it.cell 1; have i2 := hm.it.cell 2; have j1 := hm.it.frozen 1; have j2 := hm.it.frozen 2
          simp at i0 i1 i2
          have hg1 := hm.it.lt
          have HM1 := Lib.hid (hm.put hgB 1 (.int .u64 (V : Nat)))
          have hsz1 : w.heap.size ≤ w1.heap.size := hm.below.size
          clear h1 g1 hm H1 HM0
          rcases HAL.out with ⟨l', rfl, hl'⟩ | rfl
          · have HL' := Lib.hid hl'
            have H2 := Lib.hid (err_any r _ _ HM1.out.rd)
            have hel := congrArg List.length hl'
            rw [List.length_append] at hel
            have H3 := Lib.hid (write_any v.heap.size ⟨q, V, (⟨#[]⟩ : ByteArray)⟩ hq8 (by simp only; omega) (Nat.zero_le _) (some t) _ HM1.out.wr (by simp only [wlen]; omega))
            have HE := Lib.hid (step_enc t ⟨q, V, (⟨#[]⟩ : ByteArray)⟩ (Nat.zero_le _))
            clear hl' HAL hel
            go_wp2_with fail
            refine H2.out.mono ?_
            rintro e w2 ⟨rfl, rfl⟩
            clear H2
            go_wp2_with fail
            refine H3.out.mono ?_
            rintro e w3 ⟨rfl, g1, g2⟩
            rw [HE.out] at g1
            obtain ⟨k1, k2⟩ := HM1.out.write hv (by simpa [World.setCell] using hsz1) g2
            have HW3 := Lib.hid g1; have HR3 := Lib.hid k1; have HB3 := Lib.hid k2
            clear g1 g2 k1 k2 H3 HE HM1
            go_wp2_with fail
            refine ⟨⟨k + 1, _, l', by omega, by go_num, HW3.out, HR3.out, HB3.out, by rw [List.append_assoc, HL'.out]; exact HTL.out⟩, ?_⟩
            simp [intOf]; omega
          · have H2 := Lib.hid (err_any r _ _ HM1.out.rd)
            clear HAL
            go_wp2_with fail
            refine H2.out.mono ?_
            rintro e w2 ⟨rfl, rfl⟩
            clear H2
            go_wp2_with fail
            refine (HA.out _).mono ?_
            rintro e w3 ⟨rfl, hb⟩
            go_wp2_with fail
            go_ret
            exact ⟨rfl, HM1.out.below.trans (hb.mono HM1.out.below.size)⟩
        · have hq' : (q : Int) % 6 = 3 := by omega
          have hyk : (⟨q, val ((⟨l, 0⟩ : R).take 8), (⟨#[]⟩ : ByteArray)⟩ : It).kind % 6 = 3 := hc
          have hal : Alt ((⟨l, 0⟩ : R).drop 8) ⟨q, val ((⟨l, 0⟩ : R).take 8), (⟨#[]⟩ : ByteArray)⟩ l := alt_num l 8 _ (by unfold enc; simp only [hyk]; rfl)
          have hV := val_bd (⟨l, 0⟩ : R) 8 18446744073709551616 (by decide)
          have hcall : Calls Try.prog 29 #[.pointer (some ⟨r, 0, none⟩)] (wr.alloc (.cells #[.int .u8 q, .int .u64 0, .string ⟨#[]⟩] 36)) (Got .u64 r (val ((⟨l, 0⟩ : R).take 8)) ((⟨l, 0⟩ : R).drop 8) (wr.alloc (.cells #[.int .u8 q, .int .u64 0, .string ⟨#[]⟩] 36))) := ru64_any r ⟨l, 0⟩ (by simp only; omega) _ HM0.out.rd
          have H1 := Lib.hid hcall
          have HAL := Lib.hid hal
          clear hc hyk hal hcall
          generalize val ((⟨l, 0⟩ : R).take 8) = V at *
          generalize (⟨l, 0⟩ : R).drop 8 = z at *
          go_wp2_with fail
          refine H1.out.mono ?_
          rintro e w1 ⟨rfl, h1, g1⟩
          have hm := HM0.out.read hr (by simp; omega) h1 g1
          have i0 := hm.it.cell 0; have i1 := hm.it.cell 1; have i2 := hm.it.cell 2; have j1 := hm.it.frozen 1; have j2 := hm.it.frozen 2
          simp at i0 i1 i2
          have hg1 := hm.it.lt
          have HM1 := Lib.hid (hm.put hgB 1 (.int .u64 (V : Nat)))
          have hsz1 : w.heap.size ≤ w1.heap.size := hm.below.size
          clear h1 g1 hm H1 HM0
          rcases HAL.out with ⟨l', rfl, hl'⟩ | rfl
          · have HL' := Lib.hid hl'
            have H2 := Lib.hid (err_any r _ _ HM1.out.rd)
            have hel := congrArg List.length hl'
            rw [List.length_append] at hel
            have H3 := Lib.hid (write_any v.heap.size ⟨q, V, (⟨#[]⟩ : ByteArray)⟩ hq8 (by simp only; omega) (Nat.zero_le _) (some t) _ HM1.out.wr (by simp only [wlen]; omega))
            have HE := Lib.hid (step_enc t ⟨q, V, (⟨#[]⟩ : ByteArray)⟩ (Nat.zero_le _))
            clear hl' HAL hel
            go_wp2_with fail
            refine H2.out.mono ?_
            rintro e w2 ⟨rfl, rfl⟩
            clear H2
            go_wp2_with fail
            refine H3.out.mono ?_
            rintro e w3 ⟨rfl, g1, g2⟩
            rw [HE.out] at g1
            obtain ⟨k1, k2⟩ := HM1.out.write hv (by simpa [World.setCell] using hsz1) g2
            have HW3 := Lib.hid g1; have HR3 := Lib.hid k1; have HB3 := Lib.hid k2
            clear g1 g2 k1 k2 H3 HE HM1
            go_wp2_with fail
            refine ⟨⟨k + 1, _, l', by omega, by go_num, HW3.out, HR3.out, HB3.out, by rw [List.append_assoc, HL'.out]; exact HTL.out⟩, ?_⟩
            simp [intOf]; omega
          · have H2 := Lib.hid (err_any r _ _ HM1.out.rd)
            clear HAL
            go_wp2_with fail
            refine H2.out.mono ?_
            rintro e w2 ⟨rfl, rfl⟩
            clear H2
            go_wp2_with fail
            refine (HA.out _).mono ?_
            rintro e w3 ⟨rfl, hb⟩
            go_wp2_with fail
            go_ret
            exact ⟨rfl, HM1.out.below.trans (hb.mono HM1.out.below.size)⟩
        · have hq' : (q : Int) % 6 = 4 := by omega
          have hyk : (⟨q, 0, bs ((⟨l, 0⟩ : R).take q)⟩ : It).kind % 6 = 4 := hc
          have hal : Alt ((⟨l, 0⟩ : R).drop q) ⟨q, 0, bs ((⟨l, 0⟩ : R).take q)⟩ l := alt_raw l q _ (by unfold enc; simp only [hyk, bs_list]; rfl)
          have hV := take_len (⟨l, 0⟩ : R) q
          have c4 := (World.cell?_alloc_lt wr (.cells #[.int .u8 q, .int .u64 0, .string ⟨#[]⟩] 36) (ad.add k) HAD.out).trans c0
          have hcall : Calls Try.prog 27 #[.pointer (some ⟨r, 0, none⟩), .int .i64 q] (wr.alloc (.cells #[.int .u8 q, .int .u64 0, .string ⟨#[]⟩] 36)) (Took r ((⟨l, 0⟩ : R).take q) ((⟨l, 0⟩ : R).drop q) (wr.alloc (.cells #[.int .u8 q, .int .u64 0, .string ⟨#[]⟩] 36))) := fixed_any r ⟨l, 0⟩ q q (.inr rfl) (by simp only; omega) _ HM0.out.rd
          have H1 := Lib.hid hcall
          have HAL := Lib.hid hal
          clear hc hyk hal hcall
          generalize (⟨l, 0⟩ : R).take q = V at *
          generalize (⟨l, 0⟩ : R).drop q = z at *
          go_wp2_with fail
          refine H1.out.mono ?_
          rintro e w1 ⟨rfl, h1, g1⟩
          have hm := HM0.out.read hr (by simp; omega) h1 g1
          have i0 := hm.it.cell 0; have i1 := hm.it.cell 1; have i2 := hm.it.cell 2; have j1 := hm.it.frozen 1; have j2 := hm.it.frozen 2
          simp at i0 i1 i2
          have hg1 := hm.it.lt
          have HM1 := Lib.hid (hm.put hgB 2 (.string (bs V)))
          have hsz1 : w.heap.size ≤ w1.heap.size := hm.below.size
          clear h1 g1 hm H1 HM0
          rcases HAL.out with ⟨l', rfl, hl'⟩ | rfl
          · have HL' := Lib.hid hl'
            have H2 := Lib.hid (err_any r _ _ HM1.out.rd)
            have hel := congrArg List.length hl'
            rw [List.length_append] at hel
            have H3 := Lib.hid (write_any v.heap.size ⟨q, 0, bs V⟩ hq8 (by simp only; omega) (by simp only [bs_size]; omega) (some t) _ HM1.out.wr (by simp only [wlen]; omega))
            have HE := Lib.hid (step_enc t ⟨q, 0, bs V⟩ (by simp only [bs_size]; omega))
            clear hl' HAL hel
            go_wp2_with fail
            refine H2.out.mono ?_
            rintro e w2 ⟨rfl, rfl⟩
            clear H2
            go_wp2_with fail
            refine H3.out.mono ?_
            rintro e w3 ⟨rfl, g1, g2⟩
            rw [HE.out] at g1
            obtain ⟨k1, k2⟩ := HM1.out.write hv (by simpa [World.setCell] using hsz1) g2
            have HW3 := Lib.hid g1; have HR3 := Lib.hid k1; have HB3 := Lib.hid k2
            clear g1 g2 k1 k2 H3 HE HM1
            go_wp2_with fail
            refine ⟨⟨k + 1, _, l', by omega, by go_num, HW3.out, HR3.out, HB3.out, by rw [List.append_assoc, HL'.out]; exact HTL.out⟩, ?_⟩
            simp [intOf]; omega
          · have H2 := Lib.hid (err_any r _ _ HM1.out.rd)
            clear HAL
            go_wp2_with fail
            refine H2.out.mono ?_
            rintro e w2 ⟨rfl, rfl⟩
            clear H2
            go_wp2_with fail
            refine (HA.out _).mono ?_
            rintro e w3 ⟨rfl, hb⟩
            go_wp2_with fail
            go_ret
            exact ⟨rfl, HM1.out.below.trans (hb.mono HM1.out.below.size)⟩
        · have hq' : (q : Int) % 6 = 5 := by omega
          have hyk : (⟨q, 0, bs ((⟨l, 0⟩ : R).text)⟩ : It).kind % 6 = 5 := hc
          have hal : Alt ((⟨l, 0⟩ : R).behind) ⟨q, 0, bs ((⟨l, 0⟩ : R).text)⟩ l := alt_text l _ (by unfold enc; simp only [hyk, bs_list]; rfl)
          have hV : ((⟨l, 0⟩ : R).text).length ≤ 65535 := by
            have h1 := val_bd (⟨l, 0⟩ : R) 2 65536 (by decide)
            have h2 := take_len ((⟨l, 0⟩ : R).drop 2) (val ((⟨l, 0⟩ : R).take 2))
            unfold R.text
            omega
          have hcall : Calls Try.prog 26 #[.pointer (some ⟨r, 0, none⟩)] (wr.alloc (.cells #[.int .u8 q, .int .u64 0, .string ⟨#[]⟩] 36)) (Took r ((⟨l, 0⟩ : R).text) ((⟨l, 0⟩ : R).behind) (wr.alloc (.cells #[.int .u8 q, .int .u64 0, .string ⟨#[]⟩] 36))) := rtext_any r ⟨l, 0⟩ (by simp only; omega) _ HM0.out.rd
          have H1 := Lib.hid hcall
          have HAL := Lib.hid hal
          clear hc hyk hal hcall
          generalize (⟨l, 0⟩ : R).text = V at *
          generalize (⟨l, 0⟩ : R).behind = z at *
          go_wp2_with fail
          refine H1.out.mono ?_
          rintro e w1 ⟨rfl, h1, g1⟩
          have hm := HM0.out.read hr (by simp; omega) h1 g1
          have i0 := hm.it.cell 0; have i1 := hm.it.cell 1; have i2 := hm.it.cell 2; have j1 := hm.it.frozen 1; have j2 := hm.it.frozen 2
          simp at i0 i1 i2
          have hg1 := hm.it.lt
          have HM1 := Lib.hid (hm.put hgB 2 (.string (bs V)))
          have hsz1 : w.heap.size ≤ w1.heap.size := hm.below.size
          clear h1 g1 hm H1 HM0
          rcases HAL.out with ⟨l', rfl, hl'⟩ | rfl
          · have HL' := Lib.hid hl'
            have H2 := Lib.hid (err_any r _ _ HM1.out.rd)
            have hel := congrArg List.length hl'
            rw [List.length_append] at hel
            have H3 := Lib.hid (write_any v.heap.size ⟨q, 0, bs V⟩ hq8 (by simp only; omega) (by simp only [bs_size]; omega) (some t) _ HM1.out.wr (by simp only [wlen]; omega))
            have HE := Lib.hid (step_enc t ⟨q, 0, bs V⟩ (by simp only [bs_size]; omega))
            clear hl' HAL hel
            go_wp2_with fail
            refine H2.out.mono ?_
            rintro e w2 ⟨rfl, rfl⟩
            clear H2
            go_wp2_with fail
            refine H3.out.mono ?_
            rintro e w3 ⟨rfl, g1, g2⟩
            rw [HE.out] at g1
            obtain ⟨k1, k2⟩ := HM1.out.write hv (by simpa [World.setCell] using hsz1) g2
            have HW3 := Lib.hid g1; have HR3 := Lib.hid k1; have HB3 := Lib.hid k2
            clear g1 g2 k1 k2 H3 HE HM1
            go_wp2_with fail
            refine ⟨⟨k + 1, _, l', by omega, by go_num, HW3.out, HR3.out, HB3.out, by rw [List.append_assoc, HL'.out]; exact HTL.out⟩, ?_⟩
            simp [intOf]; omega
          · have H2 := Lib.hid (err_any r _ _ HM1.out.rd)
            clear HAL
            go_wp2_with fail
            refine H2.out.mono ?_
            rintro e w2 ⟨rfl, rfl⟩
            clear H2
            go_wp2_with fail
            refine (HA.out _).mono ?_
            rintro e w3 ⟨rfl, hb⟩
            go_wp2_with fail
            go_ret
            exact ⟨rfl, HM1.out.below.trans (hb.mono HM1.out.below.size)⟩
      · have h4 := bytes_any v.heap.size (some t) wr HW1.out (by simp only [wlen]; omega)
        have et : told (some t) = (t, 0) := rfl
        rw [et] at h4
        obtain ⟨S, hS⟩ : ∃ S, S = bs t := ⟨_, rfl⟩
        obtain ⟨T, hT⟩ : ∃ T, T = bs l := ⟨_, rfl⟩
        have hST : S ++ T = s := by rw [hS, hT, bs_append, HTL.out, list_bs]
        have hsz : S.size + T.size ≤ 3000 := by rw [hS, hT, bs_size, bs_size]; exact hlen
        rw [← hS] at h4
        have H4 := Lib.hid h4
        have h5 : ∀ w1, Below wr.heap.size wr w1 → Calls Try.prog 17 #[.pointer (some ⟨r, 0, none⟩)] w1 fun e w' => e = .returned (.string T) ∧ w1 = w' := fun w1 hb => by
          rw [hT]; exact rest_any r _ w1 (HR1.out.below hb)
        have H5 := Lib.hid h5
        have HST := Lib.hid hST
        clear h4 et hS hT h5 hST
        go_wp2_with fail
        refine H4.out.mono ?_
        rintro e w3 ⟨rfl, g1⟩
        have HG := Lib.hid g1
        clear g1
        go_wp2_with fail
        refine (H5.out _ HG.out).mono ?_
        rintro e w4 ⟨rfl, rfl⟩
        clear H4 H5
        have hst := HST.out
        go_wp2_with fail
        refine (HA.out _).mono ?_
        rintro e w5 ⟨rfl, hb⟩
        have HB5 := Lib.hid hb
        clear hb
        go_wp2_with fail
        go_ret
        exact ⟨rfl, HB1.out.trans ((HG.out.mono HB1.out.size).trans (HB5.out.mono (Nat.le_trans HB1.out.size HG.out.size)))⟩
end Go.Proofs.Ythgpffmgbooncaa
