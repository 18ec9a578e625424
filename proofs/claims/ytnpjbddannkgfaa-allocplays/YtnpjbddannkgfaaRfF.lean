/- Tell both the same? Conditions: none. -/
import Derived.Test.YtnpjbddannkgfaaRfE
namespace Go.Proofs.Ytnpjbddannkgfaa
open Go.ChangeShapes Go.WideShapes Go.RowKit Go.Maps Go.Spans Go.Alloc
set_option maxRecDepth 100000
theorem lr_ls {w w' : World} {P : Option Addr} {C k : Nat} {L : List Ch} {l : List Od} (h : Lr w w' P C k L l) (hr : ∀ x ∈ l, i64r x.p ∧ i64r x.r ∧ ∀ y ∈ x.rest, i64r y) : Ls w' w'.heap.size P l := by
  intro i x hx
  have hlt := (List.getElem?_eq_some_iff.1 hx).1
  have hix : l[i] = x := (List.getElem?_eq_some_iff.1 hx).2
  have hm := List.mem_of_getElem? hx
  refine ⟨Nb.of_sl (own_sl (h.rests x hm)), hr x hm, ?_⟩
  rcases h.row.2 with ⟨e0, h0⟩ | ⟨g, cap, cur, e0, _, hb3, _, _, _, htk⟩
  · omega
  · injection e0 with e0 _ _
    have hi3 : Is w' g 83 cur := hb3
    obtain ⟨o1, o2, o3⟩ := ocs_at l i hlt
    rw [hix] at o1 o2 o3
    have e3 : (⟨g, 0, none⟩ : Addr).add (i * 3) = ⟨g, 3 * i, none⟩ := by rw [add_at, Nat.zero_add, Nat.mul_comm]
    refine ⟨_, e0, ?_, ?_, ?_, ?_⟩
    · rw [e3]; exact hi3.lt
    · rw [e3, hi3.cell]; exact cur_get htk o1
    · rw [e3, hi3.cell]; exact cur_get htk o2
    · rw [e3, hi3.cell]; exact cur_get htk o3
section
variable {w : World} {B B2 : Nat} {wB : World} {A R hF hW f n : Nat} {xs : List Sp} {L : List Ch} {W : List Nat} {fr wt : Nat → Bool} {vL : Value} {ks : List (Value × Ch)}
theorem lr_range (hi : Go.Alloc.Inv f n xs L W) {w' : World} {P : Option Addr} {C k : Nat} {l : List Od} (h : Lr w w' P C k L l) : ∀ x ∈ l, i64r x.p ∧ i64r x.r ∧ ∀ y ∈ x.rest, i64r y := fun x hx => by
  have hhi := hi.hi
  have hm : tell' x ∈ l.map tell' := List.mem_map.2 ⟨x, hx, rfl⟩
  rw [h.same] at hm
  obtain ⟨c, hc', e⟩ := List.mem_map.1 hm
  have hc := List.mem_of_mem_take hc'
  injection e with e1 e2
  injection e2 with e2 e3
  have hpl := (hi.place hc).2
  have hrf := (hi.refs c hc).2
  refine ⟨by unfold i64r; omega, by unfold i64r; omega, fun y hy => ?_⟩
  rw [← e3] at hy
  obtain ⟨z, hz, rfl⟩ := List.mem_map.1 hy
  have := (hi.sec hc (List.mem_of_mem_tail hz)).2.1
  unfold i64r; omega
/-- Where a place stands. -/
theorem at_none (h : Rf w B2 R hF hW f n fr wt vL ks) (hs : ks.map (·.2) = L) (hi : Go.Alloc.Inv f n xs L W) (p : Int) (hp : i64r p) (hf : findC L p = none) : Calls Try.prog 50 #[.pointer (some ⟨R, 0, none⟩), .int .i64 p] w fun e w' => e = .returned (.int .i64 (-1)) ∧ w = w' := by
  have hmem : ∀ x ∈ ks, x.2 ∈ L := fun x hx => by rw [← hs]; exact List.mem_map.2 ⟨x, hx, rfl⟩
  refine (at_c h (fun x hx => hi.ne x.2 (hmem x hx)) (by have := hi.llen; rw [← hs, List.length_map] at this; omega) p hp).mono ?_
  rintro e w' ⟨⟨k, x, h1, h2, rfl⟩ | ⟨_, rfl⟩, rfl⟩
  · exact absurd h2 (findC_none.1 hf x.2 (hmem x (List.mem_of_getElem? h1)))
  · exact ⟨rfl, rfl⟩
theorem at_some (h : Rf w B2 R hF hW f n fr wt vL ks) (hs : ks.map (·.2) = L) (hi : Go.Alloc.Inv f n xs L W) (p : Int) (hp : i64r p) {c : Ch} (hf : findC L p = some c) : ∃ k y, ks[k]? = some y ∧ y.2 = c ∧ Calls Try.prog 50 #[.pointer (some ⟨R, 0, none⟩), .int .i64 p] w fun e w' => e = .returned (.int .i64 (k : Nat)) ∧ w = w' := by
  have hmem : ∀ x ∈ ks, x.2 ∈ L := fun x hx => by rw [← hs]; exact List.mem_map.2 ⟨x, hx, rfl⟩
  obtain ⟨hc, ep⟩ := findC_some hf
  rw [← hs] at hc
  obtain ⟨y, hy, rfl⟩ := List.mem_map.1 hc
  obtain ⟨k, hk, ek⟩ := List.getElem_of_mem hy
  have hk' : ks[k]? = some y := by rw [List.getElem?_eq_getElem hk, ek]
  refine ⟨k, y, hk', rfl, (at_c h (fun x hx => hi.ne x.2 (hmem x hx)) (by have := hi.llen; rw [← hs, List.length_map] at this; omega) p hp).mono ?_⟩
  rintro e w' ⟨⟨k2, x, h1, h2, rfl⟩ | ⟨h2, _⟩, rfl⟩
  · obtain ⟨hk2, ek2⟩ := List.getElem?_eq_some_iff.1 h1
    have hsrt := List.pairwise_iff_getElem.1 hi.srt
    have e1 : k2 = k := by
      rcases Nat.lt_trichotomy k2 k with hlt | he | hgt
      · have := hsrt k2 k (by rw [← hs, List.length_map]; exact hk2) (by rw [← hs, List.length_map]; exact hk) hlt
        simp only [← hs, List.getElem_map, ek, ek2] at this
        omega
      · exact he
      · have := hsrt k k2 (by rw [← hs, List.length_map]; exact hk) (by rw [← hs, List.length_map]; exact hk2) hgt
        simp only [← hs, List.getElem_map, ek, ek2] at this
        omega
    rw [e1]
    exact ⟨rfl, rfl⟩
  · exact absurd ep (h2 y hy)
theorem own_sl_len {w : World} {b z C : Nat} {P : Option Addr} {l : List Int} (hz : l.length = z) (h : w.ownsRow b 3 1 (.slice P z C) z (zs l)) : Sl w (.slice P z C) l := by
  subst hz
  exact own_sl h
theorem rest_len {f n : Nat} {xs : List Sp} {L : List Ch} {W : List Nat} (hi : Go.Alloc.Inv f n xs L W) {l : List Od} (h : l.map tell' = L.map told) : ∀ x ∈ l, x.rest.length ≤ 8192 := fun x hx => by
  have hm : tell' x ∈ l.map tell' := List.mem_map.2 ⟨x, hx, rfl⟩
  rw [h] at hm
  obtain ⟨c, hc, e⟩ := List.mem_map.1 hm
  injection e with e1 e2
  injection e2 with e2 e3
  have := hi.slen hc
  rw [← e3]
  simp [nz]
  omega
set_option maxHeartbeats 4000000 in
theorem alike_c (ha : Oi B wB w A f n xs L W) (hr : Rf w B2 R hF hW f n fr wt vL ks) (hs : ks.map (·.2) = L) (hfr : cb fr n = cnt xs) (hwt : cb wt n = W.length) (p : Int) (hp : i64r p) :
    Calls Try.prog 17 #[.pointer (some ⟨A, 0, none⟩), .pointer (some ⟨R, 0, none⟩), .int .i64 p] w fun e w' => e = .returned (.bool true) ∧ Below w.heap.size w w' := by
  have hi := ha.inv
  have hn := hi.hi
  have hmem : ∀ x ∈ ks, x.2 ∈ L := fun x hx => by rw [← hs]; exact List.mem_map.2 ⟨x, hx, rfl⟩
  have hll := hi.llen
  have hkl : ks.length = L.length := by rw [← hs, List.length_map]
  obtain ⟨m, hm⟩ : ∃ m, L.length = m := ⟨_, rfl⟩
  have hlist := ha.list
  rw [hm] at hlist hll
  have HL := Lib.hid hlist
  have HRL := Lib.hid (fun (wx : World) (hb : Below w.heap.size w wx) => rlist_c (hr.below hb) (fun x hx => hi.ne x.2 (hmem x hx)) (by omega) (fun x hx => by have := hi.slen (hmem x hx); omega) (fun x hx => ⟨by have := (hi.place (hmem x hx)).2; omega, by have := (hi.refs _ (hmem x hx)).2; omega⟩))
  have HA := Lib.hid ha
  have HR := Lib.hid hr
  have HS := Lib.hid hs
  have HI := Lib.hid hi
  have HM := Lib.hid hm
  have HKL := Lib.hid hkl
  have HF := Lib.hid hfr
  have HW := Lib.hid hwt
  have hB0 := Below.refl w.heap.size w
  clear ha hr hs hlist hm hfr hwt hmem hkl
  cases hf : findC L p with
  | none =>
    have HFC := Lib.hid hf
    have hr0 : refsN L p = 0 := by simp only [refsN, hf]
    have hc0 : chainL L p = [] := by simp only [chainL, hf]
    have hs0 : sureB L p = false := by simp only [sureB, hf]
    clear hf
    go_enter Try.func17, Try.ntmps17
    go_wp2_with (first
      | (go_at_call 12; refine HL.out.mono ?_; clear HL; rintro e w3 ⟨P, C, lo, rfl, hls, hsame, hlen, hb3⟩; (have hth := theirs_c C m hls hlen (by omega)); have HTh := Lib.hid hth; have HLS := Lib.hid hls; have HSM := Lib.hid hsame; have HLN := Lib.hid hlen; have HB3 := Lib.hid hb3; clear hls hsame hlen hb3 hth)
      | (go_at_call 15; refine HTh.out.mono ?_; clear HTh; rintro e w4 ⟨P4, C4, rfl, hr4, hb4⟩; (have hb04 := HB3.out.trans (hb4.mono HB3.out.size)); (have hl4 := ls_of HLS.out hb4 hr4 hb4.size); have HB4 := Lib.hid hb04; have HL4 := Lib.hid hl4; (have hrl := HRL.out w4 hb04); rw [HKL.out, HM.out] at hrl; have HRl := Lib.hid hrl; clear hr4 hb4 hrl hl4 hb04)
      | (go_at_call 47; refine HRl.out.mono ?_; clear HRl; rintro e w5 ⟨P5, C5, l5, rfl, hl5⟩; rw [HS.out] at hl5; (have hl5s := lr_ls hl5 (lr_range HI.out hl5)); (have hb05 := HB4.out.trans (hl5.below.mono HB4.out.size)); (have hsm5 : lo.map tell' = l5.map tell' := by rw [HSM.out, hl5.same, ← HM.out, List.take_length]); (have hsame := rsame_c (w := w5) (HL4.out.kept hl5.below) hl5s hsm5 (by have := HLN.out; have := HM.out; omega) (rest_len HI.out HSM.out) C4 C5 m HLN.out hl5.len); have HSa := Lib.hid hsame; have HB5 := Lib.hid hb05; clear hl5 hl5s hb05 hsm5 hsame)
      | (go_at_call 46; refine HSa.out.mono ?_; clear HSa; rintro e w6 ⟨rfl, hb6⟩; (have hb06 := HB5.out.trans (hb6.mono HB5.out.size)); (have hfr := (HA.out.later hb06).free); have HFr := Lib.hid hfr; have HB6 := Lib.hid hb06; clear hb6 hb06 hfr)
      | (go_at_call 24; refine HFr.out.mono ?_; clear HFr; rintro e w7 ⟨rfl, hb7⟩; (have hb07 := HB6.out.trans (hb7.mono HB6.out.size)); (have hfs := frees_c (HR.out.below hb07) HI.out.hi); rw [HF.out] at hfs; have HFs := Lib.hid hfs; have HB7 := Lib.hid hb07; clear hb7 hb07 hfs)
      | (go_at_call 48; refine HFs.out.mono ?_; clear HFs; rintro e w8 ⟨rfl, hw8⟩; subst hw8; (have hwa := (HA.out.later HB7.out).waiting); have HWa := Lib.hid hwa; clear hwa)
      | (go_at_call 27; refine HWa.out.mono ?_; clear HWa; rintro e w9 ⟨rfl, hw9⟩; subst hw9; (have hws := waits_c (HR.out.below HB7.out) HI.out.hi); rw [HW.out] at hws; have HWs := Lib.hid hws; clear hws)
      | (go_at_call 49; refine HWs.out.mono ?_; clear HWs; rintro e w10 ⟨rfl, hw10⟩; subst hw10; have HAt := Lib.hid (at_none (HR.out.below HB7.out) HS.out HI.out p hp HFC.out))
      | (go_at_call 50; refine HAt.out.mono ?_; clear HAt; rintro e w11 ⟨rfl, hw11⟩; subst hw11; (have hrf := (HA.out.later HB7.out).refs p hp); rw [hr0] at hrf; have HRf := Lib.hid hrf; clear hrf)
      | (go_at_call 22; refine HRf.out.mono ?_; clear HRf; rintro e w12 ⟨rfl, hb12⟩; (have hb012 := HB7.out.trans (hb12.mono HB7.out.size)); (have hch := (HA.out.later hb012).chain p hp); rw [hc0] at hch; have HCh := Lib.hid hch; have HB12 := Lib.hid hb012; clear hb12 hb012 hch)
      | (go_at_call 28; refine HCh.out.mono ?_; clear HCh; rintro e w13 ⟨P13, C13, rfl, hr13, hb13⟩; (have hb013 := HB12.out.trans (hb13.mono HB12.out.size)); (have hsu := (HA.out.later hb013).sure p hp); rw [hs0] at hsu; have HSu := Lib.hid hsu; have HB13 := Lib.hid hb013; have HR13 := Lib.hid hr13; clear hb13 hb013 hsu hr13)
      | (go_at_call 25; refine HSu.out.mono ?_; clear HSu; rintro e w14 ⟨rfl, hb14⟩; have HB14 := Lib.hid (HB13.out.trans (hb14.mono HB13.out.size)); clear hb14))
    go_ret
    exact ⟨rfl, HB14.out⟩
  | some c =>
    have HFC := Lib.hid hf
    have hr0 : refsN L p = c.refs := by simp only [refsN, hf]
    have hc0 : chainL L p = c.secs := by simp only [chainL, hf]
    have hs0 : sureB L p = c.sure := by simp only [sureB, hf]
    clear hf
    go_enter Try.func17, Try.ntmps17
    go_wp2_with (first
      | (go_at_call 12; refine HL.out.mono ?_; clear HL; rintro e w3 ⟨P, C, lo, rfl, hls, hsame, hlen, hb3⟩; (have hth := theirs_c C m hls hlen (by omega)); have HTh := Lib.hid hth; have HLS := Lib.hid hls; have HSM := Lib.hid hsame; have HLN := Lib.hid hlen; have HB3 := Lib.hid hb3; clear hls hsame hlen hb3 hth)
      | (go_at_call 15; refine HTh.out.mono ?_; clear HTh; rintro e w4 ⟨P4, C4, rfl, hr4, hb4⟩; (have hb04 := HB3.out.trans (hb4.mono HB3.out.size)); (have hl4 := ls_of HLS.out hb4 hr4 hb4.size); have HB4 := Lib.hid hb04; have HL4 := Lib.hid hl4; (have hrl := HRL.out w4 hb04); rw [HKL.out, HM.out] at hrl; have HRl := Lib.hid hrl; clear hr4 hb4 hrl hl4 hb04)
      | (go_at_call 47; refine HRl.out.mono ?_; clear HRl; rintro e w5 ⟨P5, C5, l5, rfl, hl5⟩; rw [HS.out] at hl5; (have hl5s := lr_ls hl5 (lr_range HI.out hl5)); (have hb05 := HB4.out.trans (hl5.below.mono HB4.out.size)); (have hsm5 : lo.map tell' = l5.map tell' := by rw [HSM.out, hl5.same, ← HM.out, List.take_length]); (have hsame := rsame_c (w := w5) (HL4.out.kept hl5.below) hl5s hsm5 (by have := HLN.out; have := HM.out; omega) (rest_len HI.out HSM.out) C4 C5 m HLN.out hl5.len); have HSa := Lib.hid hsame; have HB5 := Lib.hid hb05; clear hl5 hl5s hb05 hsm5 hsame)
      | (go_at_call 46; refine HSa.out.mono ?_; clear HSa; rintro e w6 ⟨rfl, hb6⟩; (have hb06 := HB5.out.trans (hb6.mono HB5.out.size)); (have hfr := (HA.out.later hb06).free); have HFr := Lib.hid hfr; have HB6 := Lib.hid hb06; clear hb6 hb06 hfr)
      | (go_at_call 24; refine HFr.out.mono ?_; clear HFr; rintro e w7 ⟨rfl, hb7⟩; (have hb07 := HB6.out.trans (hb7.mono HB6.out.size)); (have hfs := frees_c (HR.out.below hb07) HI.out.hi); rw [HF.out] at hfs; have HFs := Lib.hid hfs; have HB7 := Lib.hid hb07; clear hb7 hb07 hfs)
      | (go_at_call 48; refine HFs.out.mono ?_; clear HFs; rintro e w8 ⟨rfl, hw8⟩; subst hw8; (have hwa := (HA.out.later HB7.out).waiting); have HWa := Lib.hid hwa; clear hwa)
      | (go_at_call 27; refine HWa.out.mono ?_; clear HWa; rintro e w9 ⟨rfl, hw9⟩; subst hw9; (have hws := waits_c (HR.out.below HB7.out) HI.out.hi); rw [HW.out] at hws; have HWs := Lib.hid hws; clear hws)
      | (go_at_call 49; refine HWs.out.mono ?_; clear HWs; rintro e w10 ⟨rfl, hw10⟩; subst hw10; (obtain ⟨ki, y, hky, hyc, hat⟩ := at_some (HR.out.below HB7.out) HS.out HI.out p hp HFC.out); have HKY := Lib.hid hky; have HYC := Lib.hid hyc; have HAt := Lib.hid hat; clear hky hyc hat)
      | (go_at_call 50; refine HAt.out.mono ?_; clear HAt; rintro e w11 ⟨rfl, hw11⟩; subst hw11))
    have hky := HKY.out
    obtain ⟨ad, cap, P, cc, e1, e2, d0, d1, d2, d3⟩ := (HR.out.below HB7.out).at hky
    obtain ⟨_, _, _, _, d4⟩ := (HR.out.below HB7.out).cells
    rw [e1] at d4
    rw [HYC.out] at d0 d1 d2 d3
    obtain ⟨sl, esl⟩ : ∃ sl : Nat, c.secs.length = sl := ⟨_, rfl⟩
    obtain ⟨rn, ern⟩ : ∃ rn : Nat, c.refs = rn := ⟨_, rfl⟩
    obtain ⟨sb, esb⟩ : ∃ sb : Bool, c.sure = sb := ⟨_, rfl⟩
    have hki : ki < m := by have := (List.getElem?_eq_some_iff.1 hky).1; rw [HKL.out, HM.out] at this; exact this
    rw [HKL.out, HM.out] at d4
    have hnzl : (nz c.secs).length = sl := by simp [nz, esl]
    have hsl8 : sl ≤ 8192 := by have := HI.out.slen (findC_some HFC.out).1; omega
    have hslk : Sl w10 (.slice P sl cc) (nz c.secs) := ⟨P, cc, by rw [hnzl], fun j z hj => d3 j z hj⟩
    rw [esl] at d0
    rw [ern] at d1
    rw [esb] at d2
    have S2 := And.intro d4 (And.intro d0 (And.intro d1 d2))
    have up : ∀ wx, Below w10.heap.size w10 wx → wx.cell? ⟨R, 4, none⟩ = some (.slice (some ad) m cap) ∧ wx.cell? (ad.add (ki * 3)) = some (.slice P sl cc) ∧ wx.cell? ⟨(ad.add (ki * 3)).block, (ad.add (ki * 3)).off + 1, none⟩ = some (.int .i64 (rn : Nat)) ∧ wx.cell? ⟨(ad.add (ki * 3)).block, (ad.add (ki * 3)).off + 2, none⟩ = some (.bool sb) := fun wx hb =>
      have u : ∀ (p : Addr) (v : Value), w10.cell? p = some v → wx.cell? p = some v := fun p v h => (hb.cell (p := p) (World.block_lt_of_cell? w10 _ h)).trans h
      ⟨u _ _ d4, u _ _ d0, u _ _ d1, u _ _ d2⟩
    have hbd : Below w10.heap.size w10 w10.drew := below_drew (Below.refl _ w10)
    have hrf := ((HA.out.later HB7.out).later hbd).refs p hp
    rw [hr0, ern] at hrf
    have HRf := Lib.hid hrf
    have HUP := Lib.hid up
    have HSK := Lib.hid hslk
    have HNZ := Lib.hid hnzl
    have HES := Lib.hid esl
    have HEB := Lib.hid esb
    clear hky e1 e2 d3 up hrf hslk hnzl esl esb d0 d1 d2 d4
    go_wp2
    go_region_held3 (fun wx => wx.cell? ⟨R, 4, none⟩ = some (.slice (some ad) m cap) ∧ wx.cell? (ad.add (ki * 3)) = some (.slice P sl cc) ∧ wx.cell? ⟨(ad.add (ki * 3)).block, (ad.add (ki * 3)).off + 1, none⟩ = some (.int .i64 (rn : Nat)) ∧ wx.cell? ⟨(ad.add (ki * 3)).block, (ad.add (ki * 3)).off + 2, none⟩ = some (.bool sb)) (first | exact S2 | exact HUP.out _ (by assumption))
      (first
        | (go_at_call 22; refine HRf.out.mono ?_; rintro e w12 ⟨rfl, hb12⟩; (have hb712 := hbd.trans (hb12.mono hbd.size)); (have hch := ((HA.out.later HB7.out).later hb712).chain p hp); rw [hc0, HES.out] at hch; have HCh := Lib.hid hch; clear hb12 hch)
        | (go_at_call 28; refine HCh.out.mono ?_; rintro e w13 ⟨P13, C13, rfl, hr13, hb13⟩; (have hb713 := hb712.trans (hb13.mono hb712.size)); (have hin := ints_c (own_sl_len HNZ.out hr13) (HSK.out.below hb713) (by rw [HNZ.out]; exact hsl8)); have HIn := Lib.hid hin; clear hb13 hin hr13)
        | (go_at_call 42; refine HIn.out.mono ?_; rintro e w15 ⟨rfl, hb15⟩; (have hb715 := hb713.trans (hb15.mono hb713.size)); (have hsu := ((HA.out.later HB7.out).later hb715).sure p hp); rw [hs0, HEB.out] at hsu; have HSu := Lib.hid hsu; clear hb15 hsu)
        | (go_at_call 25; refine HSu.out.mono ?_; rintro e w14 ⟨rfl, hb14⟩; (have hb714 := hb715.trans (hb14.mono hb715.size)); clear hb14))
    go_wp2
    go_ret
    exact ⟨rfl, HB7.out.trans (hb714.mono HB7.out.size)⟩
end
end Go.Proofs.Ytnpjbddannkgfaa
