/- whole. Conditions: none. -/
import Derived.Test.YtnpjbddannkgfaaWhA
namespace Go.Proofs.Ytnpjbddannkgfaa
open Go.ChangeShapes Go.WideShapes Go.RowKit Go.Maps Go.Spans Go.Alloc
set_option maxRecDepth 100000
/-- How whole's loops stand: the sectors S have come. -/
structure Wh (w2 wr : World) (G n : Nat) (S : List Nat) : Prop where
  is : Is wr G 3 (ofA S n)
  kp : Kp w2 wr [G]
theorem told_eq {l : List Od} {L : List Ch} (h : l.map tell' = L.map told) {k : Nat} {x : Od} {c : Ch} (hx : l[k]? = some x) (hc : L[k]? = some c) : x.p = (c.place : Nat) ∧ x.r = (c.refs : Nat) ∧ x.rest = nz c.secs.tail := by
  have h1 : (l.map tell')[k]? = some (tell' x) := by rw [List.getElem?_map, hx]; rfl
  rw [h, List.getElem?_map, hc] at h1
  injection h1 with h1
  injection h1 with h1 h2
  injection h2 with h2 h3
  exact ⟨h1.symm, h2.symm, h3.symm⟩
theorem secs_split {c : Ch} (h : c.secs ≠ []) : nz c.secs = ((c.place : Nat) : Int) :: nz c.secs.tail := by
  unfold Ch.place
  cases hs : c.secs with
  | nil => exact absurd hs h
  | cons a l => simp [nz]
section
variable {B : Nat} {wB w w' : World} {A f n : Nat} {xs : List Sp} {L : List Ch} {W : List Nat}
set_option maxHeartbeats 8000000 in
theorem whole_c (h : Oi B wB w A f n xs L W) : Calls Try.prog 30 #[.pointer (some ⟨A, 0, none⟩), .int .i64 (f : Nat), .int .i64 (n : Nat)] w fun e w' => e = .returned (.bool true) ∧ Below w.heap.size w w' := by
  have hi := h.inv
  have hl := h.list
  have hmk := fun W => make_of n (by have := hi.hi; omega) W
  obtain ⟨m, hm⟩ : ∃ m, L.length = m := ⟨_, rfl⟩
  have hm4 : m ≤ 4096 := by have := hi.llen; omega
  have hn4 : n ≤ 4096 := hi.hi
  have hlen := hi.len
  have hfn := hi.lt
  rw [hm] at hl
  have HI := Lib.hid hi
  have HL := Lib.hid hl
  have HO := Lib.hid h
  have HM := Lib.hid hm
  have HLEN := Lib.hid hlen
  have HLT := Lib.hid hfn
  clear hi hl h hm hlen hfn
  go_enter Try.func30, Try.ntmps30
  go_wp2_with (go_at_call 12; refine HL.out.mono ?_; rintro e w1 ⟨P, C, l, rfl, hls, hsame, hll, hb1⟩; have HLS := Lib.hid hls; have HS := Lib.hid hsame; have HLL := Lib.hid hll; have HB1 := Lib.hid hb1; clear hls hsame hll hb1)
  have w0 : Wh (w1.alloc (.cells (ofA [] n) 3)) (w1.alloc (.cells (ofA [] n) 3)) w1.heap.size n [] := ⟨Is.new w1 3 _, Kp.refl _ _⟩
  have HW0 := Lib.hid w0
  have hb2 : Below w1.heap.size w1 (w1.alloc (.cells (ofA [] n) 3)) := below_alloc (Below.refl _ _) _
  generalize (w1.alloc (.cells (ofA [] n) 3)) = w2 at *
  have HB2 := Lib.hid hb2
  obtain ⟨G, hG⟩ : ∃ G, w1.heap.size = G := ⟨_, rfl⟩
  rw [hG] at HW0 ⊢
  have HG := Lib.hid hG
  clear w0 hb2 hmk hG
  go_loopw [9, 10, 11, 12] (fun held i _ _ wr => ∃ k : Nat, i = .int .i64 (k : Int) ∧ k ≤ m ∧ held = .int .i64 ((allS (L.take k)).length : Nat) ∧ Wh w2 wr G n (allS (L.take k))) (fun _ i _ _ _ => m - (RowKit.intOf i).toNat)
  case atStart => exact ⟨0, rfl, Nat.zero_le _, rfl, HW0.out⟩
  case round =>
    obtain ⟨k, rfl, hkn, rfl, hw⟩ := hrel
    have HW := Lib.hid hw
    clear hw
    by_cases hlt : k < m
    · have hxk : L[k]? = some (L[k]'(by rw [HM.out]; exact hlt)) := List.getElem?_eq_getElem _
      obtain ⟨c, ex⟩ : ∃ c, L[k]'(by rw [HM.out]; exact hlt) = c := ⟨_, rfl⟩
      rw [ex] at hxk
      have hlk : l[k]? = some (l[k]'(by rw [HLL.out]; exact hlt)) := List.getElem?_eq_getElem _
      obtain ⟨x, ex2⟩ : ∃ x, l[k]'(by rw [HLL.out]; exact hlt) = x := ⟨_, rfl⟩
      rw [ex2] at hlk
      obtain ⟨t1, t2, t3⟩ := told_eq HS.out hlk hxk
      have hG := HG.out
      have hbw : Below w1.heap.size w1 wr := HB2.out.trans (HW.out.kp.below HB2.out.size (fun g hg => by simp at hg; omega))
      obtain ⟨hnb, _, ad, rfl, hB, d0, d1, d2⟩ := (HLS.out.kept hbw) k x hlk
      have hinv := HI.out
      have hcm := List.mem_of_getElem? hxk
      have hr := hinv.refs c hcm
      have hsl := hinv.slen hcm
      have hsp := secs_split (hinv.ne c hcm)
      have hslx : Sl wr.drew x.v x.rest := (hnb.sl x.c).below (w' := wr.drew) ⟨rfl, rfl, rfl, Nat.le_refl _, fun _ _ => rfl⟩
      have hrl : x.rest.length ≤ 8192 := by rw [t3]; simp [nz]; omega
      obtain ⟨P5, C5, w4, hrun, hrow, hb4⟩ := all_row (w := wr.drew) (c.place : Nat) hslx hrl 46
      have hql : x.rest.length + 1 = c.secs.length := by
        rw [t3]
        have := List.length_pos_iff.2 (hinv.ne c hcm)
        simp [nz]
        omega
      rw [t3, ← hsp] at hrow
      rw [hql] at hrun
      have hql2 : (nz c.secs.tail).length + 1 = c.secs.length := by rw [← t3]; exact hql
      rw [hql2] at hrow
      obtain ⟨q, hq⟩ : ∃ q, c.secs.length = q := ⟨_, rfl⟩
      rw [hq] at hrun hrow hsl
      rw [t1] at d0
      rw [t2] at d1
      have hbd : Below wr.heap.size wr wr.drew := ⟨rfl, rfl, rfl, Nat.le_refl _, fun _ _ => rfl⟩
      have hb5 : Below wr.heap.size wr (wr.drew.alloc (.cells #[.int .i64 (c.place : Nat)] 3)) := below_alloc (a := wr) hbd _
      have hb6 : Below wr.heap.size wr w4 := hbd.trans (hb4.mono hbd.size)
      have hcells : ∀ wx, Below wr.heap.size wr wx → wx.cell? (ad.add (k * 3)) = some (.int .i64 (c.place : Nat)) ∧ wx.cell? ⟨(ad.add (k * 3)).block, (ad.add (k * 3)).off + 1, none⟩ = some (.int .i64 (c.refs : Nat)) ∧ wx.cell? ⟨(ad.add (k * 3)).block, (ad.add (k * 3)).off + 2, none⟩ = some x.v := fun wx hb =>
        ⟨(World.cell?_of_block (w := wr) (hb.block _ (World.block_lt_of_cell? wr _ d0))).trans d0, (World.cell?_of_block (w := wr) (hb.block _ (World.block_lt_of_cell? wr _ d1))).trans d1, (World.cell?_of_block (w := wr) (hb.block _ (World.block_lt_of_cell? wr _ d2))).trans d2⟩
      have S2 := hcells _ hbd
      have HC := Lib.hid hcells
      have HR := Lib.hid hrow
      have HB6 := Lib.hid hb6
      have HXK := Lib.hid hxk
      have HSQ := Lib.hid hq
      have HRF := Lib.hid hr
      have HT1 := Lib.hid t1
      clear hnb hB d0 d1 d2 hinv hcm hsp hslx hrl hrow hb4 hql hql2 hcells hbd hb6 hxk hlk ex ex2 t1 t2 t3 hq hr hbw hG
      go_wp2
      go_region_held3 (fun wx => wx.cell? (ad.add (k * 3)) = some (.int .i64 (c.place : Nat)) ∧ wx.cell? ⟨(ad.add (k * 3)).block, (ad.add (k * 3)).off + 1, none⟩ = some (.int .i64 (c.refs : Nat)) ∧ wx.cell? ⟨(ad.add (k * 3)).block, (ad.add (k * 3)).off + 2, none⟩ = some x.v)
        (first | exact S2 | exact HC.out _ hb5 | exact HC.out _ HB6.out)
        (first
          | (refine step_append_run rfl _ _ 46 rfl _ _ (by simp [Act.eval]) (by simp [Act.eval]) hrun ?_))
      have hw4 : Wh w2 w4 G n (allS (L.take k)) := ⟨(Kp.of_below HB6.out []).is HW.out.is (by simp), HW.out.kp.trans (Kp.of_below HB6.out [G]) (fun y hy => .inl hy)⟩
      have HW4 := Lib.hid hw4
      have hGlt : G < wr.heap.size := HW.out.is.lt
      clear hw4 hrun hb5 S2
      go_wp2
      go_loopw [9, 12] (fun held i wz => ∃ j : Nat, i = .int .i64 (j : Int) ∧ j ≤ q ∧ held = .int .i64 (((allS (L.take k)).length + j : Nat) : Int) ∧ Wh w4 wz G n (allS (L.take k) ++ c.secs.take j)) (fun _ i _ => q - (RowKit.intOf i).toNat)
      case atStart => exact ⟨0, rfl, Nat.zero_le _, by simp, by simpa using HW4.out.is, Kp.refl _ _⟩
      case round =>
        obtain ⟨j, rfl, hjq, rfl, hwz⟩ := hrel
        have HWZ := Lib.hid hwz
        by_cases hjlt : j < q
        · have hsj : c.secs[j]? = some (c.secs[j]'(by rw [HSQ.out]; exact hjlt)) := List.getElem?_eq_getElem _
          obtain ⟨s0, es⟩ : ∃ s0, c.secs[j]'(by rw [HSQ.out]; exact hjlt) = s0 := ⟨_, rfl⟩
          rw [es] at hsj
          obtain ⟨hnot, hsf, hsn⟩ := fresh_sec HI.out HXK.out hsj
          have hrz := row_off HR.out hwz.kp hGlt
          obtain ⟨pa, pc, ep, hcl⟩ := own_sl (xs := nz c.secs) (by
            have : (nz c.secs).length = q := by simp [nz, HSQ.out]
            rw [this]
            exact hrz)
          obtain ⟨ad5, rfl, c5⟩ := hcl j (s0 : Nat) (by simp [nz, hsj])
          injection ep with ep q1 q2
          clear q1 q2 hcl hrz
          subst ep
          have cg := hwz.is.cell s0
          rw [ofA_get hsn, if_neg hnot] at cg
          have fz := hwz.is.frozen s0
          have hll := allS_take_len L k
          have hlen := HLEN.out
          have hoff : (ad.add (k * 3)).block ≠ G := by
            intro e
            have h1 := HLS.out k (l[k]'(by rw [HLL.out]; exact hlt)) (List.getElem?_eq_getElem _)
            obtain ⟨_, _, ad', e', hB', _⟩ := h1
            injection e' with e'
            subst e'
            have := HG.out
            omega
          have h4c := (HC.out w4 HB6.out).2.1
          have cr := (World.cell?_of_block (w := w4) (hwz.kp.block _ (World.block_lt_of_cell? w4 _ h4c) (by simpa using hoff))).trans h4c
          obtain ⟨hr1, hr2⟩ := HRF.out
          have hk6 : ∀ (u : Value), Kp w4 (wr.setCell ⟨G, s0, none⟩ u) [G] := fun u => hwz.kp.put ⟨G, s0, none⟩ u (.inl (by simp))
          have hset := hwz.is.put s0 (.int .i64 1)
          rw [ofA_set hsn, List.append_assoc, show c.secs.take j ++ [s0] = c.secs.take (j + 1) by rw [List.take_add_one, hsj]; rfl] at hset
          have HSET := Lib.hid hset
          have HK6 := Lib.hid hk6
          have i1 : (f : Int) ≤ (s0 : Int) := by omega
          have i2 : (s0 : Int) < (n : Int) := by omega
          have i3 : (1 : Int) ≤ (c.refs : Int) := by omega
          have i4 : (c.refs : Int) ≤ 65535 := by omega
          have i5 : (0 : Int) ≤ (s0 : Int) := by omega
          clear hwz hset hk6 h4c hoff hll hlen hnot hsj es hr1 hr2 hsf
          have hbig : (allS (L.take k)).length ≤ 4096 := by have := allS_take_len L k; have := HLEN.out; omega
          go_wp2
          go_roundw
          case rel => exact ⟨j + 1, by go_num, by omega, by congr 1, HSET.out, HK6.out _⟩
          case measure => simp [RowKit.intOf]; omega
        · obtain rfl : j = q := by omega
          have hnxt := allS_take_succ HXK.out
          have HNX := Lib.hid hnxt
          clear hwz hnxt
          have hbig : (allS (L.take k)).length ≤ 4096 := by have := allS_take_len L k; have := HLEN.out; omega
          go_wp2
          go_roundw
          case rel =>
            refine ⟨k + 1, by go_num, by omega, ?_, ?_⟩
            · rw [HNX.out, List.length_append, HSQ.out]
            · rw [HNX.out]
              have := HWZ.out.is
              rw [show c.secs.take j = c.secs by rw [← HSQ.out, List.take_length]] at this
              exact ⟨this, HW4.out.kp.trans HWZ.out.kp (fun y hy => .inl hy)⟩
          case measure => simp [RowKit.intOf]; omega
    · obtain rfl : k = m := by omega
      have eR : L.take k = L := by rw [← HM.out, List.take_length]
      rw [eR] at HW ⊢
      have hbw : Below w1.heap.size w1 wr := HB2.out.trans (HW.out.kp.below HB2.out.size (fun g hg => by have := HG.out; simp at hg; omega))
      have hbw2 : Below w.heap.size w wr := HB1.out.trans (hbw.mono HB1.out.size)
      have ho := HO.out.later (hbw2.mono (Nat.le_refl _))
      have hF := ho.free
      have HF := Lib.hid hF
      have hWt := fun (wx : World) (hb : Below wr.heap.size wr wx) => (ho.later hb).waiting
      have hF2 := fun (wx : World) (hb : Below wr.heap.size wr wx) => (ho.later hb).free
      have HWt := Lib.hid hWt
      have HF2 := Lib.hid hF2
      have hsum := HLEN.out
      have hfn := HLT.out
      have HB := Lib.hid hbw2
      clear hF hWt hF2 hbw hbw2 ho
      obtain ⟨cf, ecf⟩ : ∃ cf, cnt xs = cf := ⟨_, rfl⟩
      obtain ⟨wl, ewl⟩ : ∃ wl, W.length = wl := ⟨_, rfl⟩
      obtain ⟨hd, ehd⟩ : ∃ hd, (allS L).length = hd := ⟨_, rfl⟩
      rw [ecf, ewl, ehd] at hsum
      rw [ecf] at HF HF2
      rw [ewl] at HWt
      rw [ehd]
      go_wp2_with (first
        | (go_at_call 24; refine HF.out.mono ?_; clear HF; rintro e w6 ⟨rfl, b6⟩; have HB6 := Lib.hid b6)
        | (go_at_call 27; refine (HWt.out _ b6).mono ?_; rintro e w7 ⟨rfl, e7⟩; subst e7)
        | (go_at_call 24; refine (HF2.out _ b6).mono ?_; clear HF2; rintro e w8 ⟨rfl, b8⟩; have b6b := b6; clear b6; have b6 := b6b.trans (b8.mono b6b.size))
        | (go_at_call 27; refine (HWt.out _ b6).mono ?_; rintro e w9 ⟨rfl, e9⟩; subst e9))
      go_ret
      refine ⟨?_, HB.out.trans (b6.mono HB.out.size)⟩
      simp
      omega
end
end Go.Proofs.Ytnpjbddannkgfaa
