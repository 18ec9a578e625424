/- AllocBack: its walk. Conditions: none. -/
import Derived.Test.YtnpjbddannkgfaaBkA
namespace Go.Proofs.Ytnpjbddannkgfaa
open Go.ChangeShapes Go.WideShapes Go.RowKit Go.Maps Go.Spans Go.Alloc
set_option maxRecDepth 100000
/-- What the law's second half rests on: its list of chains lies there. -/
theorem cells_ls {w : World} {P : Option Addr} {l : List Od} {L : List Ch} (hls : Ls w w.heap.size P l) (hs : l.map tell' = L.map told) {k : Nat} {c : Ch} (hc : L[k]? = some c) : ∃ ad v c2, P = some ad ∧ v = Value.slice c2 (nz c.secs.tail).length (l.getD k ⟨0, 0, none, 0, []⟩).c ∧
    ∀ wx, Below w.heap.size w wx → wx.cell? (ad.add (k * 3)) = some (.int .i64 (c.place : Nat)) ∧ wx.cell? ⟨(ad.add (k * 3)).block, (ad.add (k * 3)).off + 1, none⟩ = some (.int .i64 (c.refs : Nat)) ∧ wx.cell? ⟨(ad.add (k * 3)).block, (ad.add (k * 3)).off + 2, none⟩ = some v := by
  have hlen : l.length = L.length := by have := congrArg List.length hs; simpa using this
  have hlt := (List.getElem?_eq_some_iff.1 hc).1
  have hx : l[k]? = some (l[k]'(by omega)) := List.getElem?_eq_getElem _
  obtain ⟨t1, t2, t3⟩ := told_eq hs hx hc
  obtain ⟨_, _, ad, e, hB, d0, d1, d2⟩ := hls k _ hx
  rw [t1] at d0
  rw [t2] at d1
  refine ⟨ad, _, (l[k]'(by omega)).P, e, rfl, fun wx hb => ⟨(hb.cell (p := ad.add (k * 3)) hB).trans d0, (hb.cell (p := ⟨(ad.add (k * 3)).block, (ad.add (k * 3)).off + 1, none⟩) hB).trans d1, ?_⟩⟩
  rw [(hb.cell (p := ⟨(ad.add (k * 3)).block, (ad.add (k * 3)).off + 2, none⟩) hB).trans d2, ← t3, List.getD, hx]
  rfl
set_option maxHeartbeats 16000000 in
theorem back_c (W : World) (x0 x1 : Nat) (hx0 : x0 < 256) (hx1 : x1 < 65536) (A0 : Option Addr) (l : List Ac) (cap : Nat) (_hl : l.length ≤ maxLen) (h0 : Acts W W.heap.size A0 l) :
    Calls Try.prog 7 #[.int .u8 (x0 : Nat), .int .u16 (x1 : Nat), .slice A0 l.length cap] W fun e w' => e = .returned (.bool true) ∧ Below W.heap.size W w' := by
  obtain ⟨f, hf⟩ : ∃ f : Nat, (x0 : Int) % 100 = (f : Int) := ⟨x0 % 100, by omega⟩
  obtain ⟨n, hn⟩ : ∃ n : Nat, (f : Int) + 1 + (x1 : Int) % 400 = (n : Int) := ⟨f + 1 + x1 % 400, by omega⟩
  have hfn : f < n := by omega
  have hn5 : n ≤ 4096 := by omega
  have hfi : (f : Int) < 100 := by omega
  have hN := oi_new f n hfn hn5 W
  obtain ⟨m, hm⟩ : ∃ m, l.length = m := ⟨_, rfl⟩
  unfold maxLen at _hl
  rw [hm] at _hl ⊢
  have HM := Lib.hid hm
  have H0 := Lib.hid h0
  have HN := Lib.hid hN
  clear hm h0 hN
  go_enter Try.func7, Try.ntmps7
  go_wp2_with (go_at_call 8; refine HN.out.mono ?_; clear HN; rintro e w1 ⟨A, xs, rfl, ho, -⟩; have HO := Lib.hid ho; clear ho)
  go_loopw [10] (fun i wr => ∃ (k : Nat) (xs : List Sp) (L : List Ch) (Wt : List Nat), i = .int .i64 (k : Int) ∧ k ≤ m ∧ Oi W.heap.size W wr A f n xs L Wt) (fun i _ => m - (RowKit.intOf i).toNat)
  case atStart => exact ⟨0, _, _, _, rfl, Nat.zero_le _, HO.out⟩
  case round =>
    obtain ⟨k, xs, L, Wt, rfl, hkm, hpa⟩ := hrel
    have HP := Lib.hid hpa
    clear hpa
    by_cases hlt : k < m ∧ k < 150
    · obtain ⟨hlt, hlt2⟩ := hlt
      obtain ⟨x, hx⟩ : ∃ x, l[k]? = some x := ⟨_, List.getElem?_eq_getElem (by rw [HM.out]; exact hlt)⟩
      obtain ⟨ad, rfl, hxr, hac⟩ := H0.out.at hx
      obtain ⟨a0, a1⟩ := hac wr HP.out.below
      clear hac hx
      have hmod : (x.what : Int) % 5 = 0 ∨ (x.what : Int) % 5 = 1 ∨ (x.what : Int) % 5 = 2 ∨ (x.what : Int) % 5 = 3 ∨ (x.what : Int) % 5 = 4 := by omega
      rcases hmod with hmod | hmod | hmod | hmod | hmod
      · -- 0
          have HA := Lib.hid (HP.out.alloc x.n)
          go_wp2_with (go_at_call 20; refine HA.out.mono ?_; clear HA; rintro e w2 ⟨P, C, _, _, rfl, ho⟩; have HP3 := Lib.hid ho; clear ho)
          go_roundw
          case rel => exact ⟨k + 1, _, _, _, by go_num, by omega, HP3.out⟩
          case measure => simp [RowKit.intOf]; omega
      · -- 1
          have HA := Lib.hid (HP.out.hold x.n hxr)
          go_wp2_with (go_at_call 21; refine HA.out.mono ?_; clear HA; rintro e w2 ⟨rfl, _, ho⟩; have HP3 := Lib.hid ho; clear ho)
          go_roundw
          case rel => exact ⟨k + 1, _, _, _, by go_num, by omega, HP3.out⟩
          case measure => simp [RowKit.intOf]; omega
      · -- 2
          have HA := Lib.hid (HP.out.drop x.n hxr)
          go_wp2_with (go_at_call 29; refine HA.out.mono ?_; clear HA; rintro e w2 ⟨rfl, _, ys, W2, _, ho⟩; have HP3 := Lib.hid ho; clear ho)
          go_roundw
          case rel => exact ⟨k + 1, _, _, _, by go_num, by omega, HP3.out⟩
          case measure => simp [RowKit.intOf]; omega
      · -- 3
          have HA := Lib.hid (HP.out.commit)
          go_wp2_with (go_at_call 26; refine HA.out.mono ?_; clear HA; rintro e w2 ⟨rfl, _, ys, _, ho⟩; have HP3 := Lib.hid ho; clear ho)
          go_roundw
          case rel => exact ⟨k + 1, _, _, _, by go_num, by omega, HP3.out⟩
          case measure => simp [RowKit.intOf]; omega
      · -- 4
          go_wp2
          go_roundw
          case rel => exact ⟨k + 1, _, _, _, by go_num, by omega, HP.out⟩
          case measure => simp [RowKit.intOf]; omega
    · have hend : (k : Int) < (m : Int) → ¬ ((k : Int) < 150) := by omega
      by_cases c1 : k < m
      all_goals
        first | (have c3 : ¬ (k < 150) := fun h => hlt ⟨c1, h⟩) | skip
        have HCm := Lib.hid HP.out.commit
        clear hlt
        go_wp2_with (first
          | (go_at_call 26; refine HCm.out.mono ?_; clear HCm; rintro e w2 ⟨rfl, _, ys, _, ho⟩; obtain ⟨L2, eL2⟩ : ∃ L2, sureC L = L2 := ⟨_, rfl⟩; rw [eL2] at ho; (have eL3 : sureC L2 = L2 := by rw [← eL2]; simp [sureC]); obtain ⟨m2, hm2⟩ : ∃ m2, L2.length = m2 := ⟨_, rfl⟩; have hls0 := ho.list; rw [hm2] at hls0; have HO2 := Lib.hid ho; have HLs := Lib.hid hls0; have HL3 := Lib.hid eL3; have HM2 := Lib.hid hm2; clear ho eL2 eL3 hls0 hm2)
          | (go_at_call 12; refine HLs.out.mono ?_; clear HLs; rintro e w3 ⟨P, C, lo, rfl, hls, hsame, hll, hb3⟩; have HO3 := Lib.hid (HO2.out.later hb3); have HLS := Lib.hid hls; have HSM := Lib.hid hsame; have HLL := Lib.hid hll; (have hld := oi_load HO3.out.inv HO3.out.below HO3.out.lt C m2 hls hll hsame); rw [HL3.out] at hld; have HLd := Lib.hid hld; clear hls hsame hll hb3 hld)
          | (go_at_call 13; refine HLd.out.mono ?_; clear HLd; rintro e w4 ⟨Ab, zs', rfl, hob, hb4, -⟩; (have hcnt : cnt zs' = cnt ys := by have h1 := hob.inv.len; have h2 := HO3.out.inv.len; simp only [List.length_nil, Nat.add_zero] at h1 h2; omega); have HOb := Lib.hid hob; have HB4 := Lib.hid hb4; have HOa := Lib.hid (HO3.out.later hb4); have HFb := Lib.hid hob.free; clear hob hb4)
          | (go_at_call 24; refine HFb.out.mono ?_; clear HFb; rintro e w5 ⟨rfl, b5⟩; have HB5 := Lib.hid b5; have HFa := Lib.hid (HOa.out.later b5).free; rw [hcnt]; clear b5)
          | (go_at_call 24; refine HFa.out.mono ?_; clear HFa; rintro e w6 ⟨rfl, b6⟩; have HB6 := Lib.hid (HB5.out.trans (b6.mono HB5.out.size)); have HWb := Lib.hid (HOb.out.later HB6.out).waiting; clear b6)
          | (go_at_call 27; refine HWb.out.mono ?_; clear HWb; rintro e w7 ⟨rfl, e7⟩; subst e7; have hlb := (HOb.out.later HB6.out).list; rw [HM2.out] at hlb; have HLb := Lib.hid hlb; clear hlb)
          | (go_at_call 12; refine HLb.out.mono ?_; clear HLb; rintro e w8 ⟨P8, C8, l8, rfl, -, -, -, b8⟩; have HB8 := Lib.hid (HB6.out.trans (b8.mono HB6.out.size)); clear b8))
        have hm24 : m2 ≤ 4096 := by have := HO3.out.inv.llen; have := HM2.out; omega
        go_loopw [14, 15, 16, 17] (fun i _ _ _ wz => ∃ p : Nat, i = .int .i64 (p : Int) ∧ p ≤ m2 ∧ Below w4.heap.size w4 wz) (fun i _ _ _ _ => m2 - (RowKit.intOf i).toNat)
        case atStart => exact ⟨0, rfl, Nat.zero_le _, HB8.out⟩
        case round =>
          obtain ⟨p, rfl, hpm, hbz⟩ := hrel
          have HBZ := Lib.hid hbz
          by_cases hplt : p < m2
          · have hxk : L2[p]? = some (L2[p]'(by rw [HM2.out]; exact hplt)) := List.getElem?_eq_getElem _
            obtain ⟨c, ex⟩ : ∃ c, L2[p]'(by rw [HM2.out]; exact hplt) = c := ⟨_, rfl⟩
            rw [ex] at hxk
            obtain ⟨adl, vr, c2, rfl, evr, hcs0⟩ := cells_ls HLS.out HSM.out hxk
            have hcs : ∀ wx, Below w4.heap.size w4 wx → wx.cell? (adl.add (p * 3)) = some (.int .i64 (c.place : Nat)) ∧ wx.cell? ⟨(adl.add (p * 3)).block, (adl.add (p * 3)).off + 2, none⟩ = some vr := fun wx hb => by
              obtain ⟨e1, _, e3⟩ := hcs0 wx (HB4.out.trans (hb.mono HB4.out.size))
              exact ⟨e1, e3⟩
            subst evr
            have hinv := HO3.out.inv
            have hcm := List.mem_of_getElem? hxk
            have hpi : i64r (c.place : Nat) := by have := (hinv.place hcm).2; have := hinv.hi; unfold i64r; omega
            have ech : chainL L2 (c.place : Nat) = c.secs := by unfold chainL; rw [findC_mem hinv.srt hcm]
            have erf : refsN L2 (c.place : Nat) = c.refs := by unfold refsN; rw [findC_mem hinv.srt hcm]
            have esu : sureB L2 (c.place : Nat) = true := by
              unfold sureB
              rw [findC_mem hinv.srt hcm]
              have := HL3.out
              rw [← this] at hcm
              obtain ⟨d, _, e⟩ := List.mem_map.1 hcm
              rw [← e]
            have hsl := hinv.slen hcm
            have hnt : (nz c.secs.tail).length + 1 = c.secs.length := by
              have := List.length_pos_iff.2 (hinv.ne c hcm)
              simp [nz]
              omega
            obtain ⟨q, hq⟩ : ∃ q, c.secs.length = q := ⟨_, rfl⟩
            obtain ⟨q1, hq1⟩ : ∃ q1, (nz c.secs.tail).length = q1 := ⟨_, rfl⟩
            have hCA : ∀ wx, Below w4.heap.size w4 wx → Calls Try.prog 28 #[.pointer (some ⟨A, 0, none⟩), .int .i64 (c.place : Nat)] wx fun e w' => ∃ P C, e = .returned (.slice P q C) ∧ w'.ownsRow wx.heap.size 3 1 (.slice P q C) q (zs (nz c.secs)) ∧ Below wx.heap.size wx w' := fun wx hb => by
              have := (HOa.out.later hb).chain (c.place : Nat) hpi
              rwa [ech, hq] at this
            have hCB : ∀ wx, Below w4.heap.size w4 wx → Calls Try.prog 28 #[.pointer (some ⟨Ab, 0, none⟩), .int .i64 (c.place : Nat)] wx fun e w' => ∃ P C, e = .returned (.slice P q C) ∧ w'.ownsRow wx.heap.size 3 1 (.slice P q C) q (zs (nz c.secs)) ∧ Below wx.heap.size wx w' := fun wx hb => by
              have := (HOb.out.later hb).chain (c.place : Nat) hpi
              rwa [ech, hq] at this
            have hRA : ∀ wx, Below w4.heap.size w4 wx → Calls Try.prog 22 #[.pointer (some ⟨A, 0, none⟩), .int .i64 (c.place : Nat)] wx fun e w' => e = .returned (.int .i64 (c.refs : Nat)) ∧ Below wx.heap.size wx w' := fun wx hb => by
              have := (HOa.out.later hb).refs (c.place : Nat) hpi
              rwa [erf] at this
            have hRB : ∀ wx, Below w4.heap.size w4 wx → Calls Try.prog 22 #[.pointer (some ⟨Ab, 0, none⟩), .int .i64 (c.place : Nat)] wx fun e w' => e = .returned (.int .i64 (c.refs : Nat)) ∧ Below wx.heap.size wx w' := fun wx hb => by
              have := (HOb.out.later hb).refs (c.place : Nat) hpi
              rwa [erf] at this
            have hSB : ∀ wx, Below w4.heap.size w4 wx → Calls Try.prog 25 #[.pointer (some ⟨Ab, 0, none⟩), .int .i64 (c.place : Nat)] wx fun e w' => e = .returned (.bool true) ∧ Below wx.heap.size wx w' := fun wx hb => by
              have := (HOb.out.later hb).sure (c.place : Nat) hpi
              rwa [esu] at this
            have hbd : Below w4.heap.size w4 wr.drew := below_drew hbz
            have S2 := hcs _ hbd
            have HCS := Lib.hid hcs
            have HCA := Lib.hid hCA
            have HCB := Lib.hid hCB
            have HRA := Lib.hid hRA
            have HRB := Lib.hid hRB
            have HSB := Lib.hid hSB
            have HSQ := Lib.hid hq
            rw [hq, hq1] at hnt
            rw [hq] at hsl
            rw [hq1] at hcs S2 HCS
            have hw1 : IntKind.i64.wrap (1 + (q1 : Int)) = (q : Int) := by rw [wrap_small (by omega) (by omega)]; omega
            have HNT := Lib.hid hnt
            clear hnt
            clear hcs hcs0 hCA hCB hRA hRB hSB hinv hcm ech erf esu hxk ex hpi hbz hq hq1
            go_wp2
            go_region_held3 (fun wx => wx.cell? (adl.add (p * 3)) = some (.int .i64 (c.place : Nat)) ∧ wx.cell? ⟨(adl.add (p * 3)).block, (adl.add (p * 3)).off + 2, none⟩ = some (.slice c2 q1 (lo.getD p ⟨0, 0, none, 0, []⟩).c))
              (first | exact S2 | exact HCS.out _ (by assumption))
              (first
                | (go_at_call 28; with_reducible refine (HCA.out _ (by assumption)).mono ?_; rintro e w5 ⟨P5, C5, rfl, hr5, hb5⟩; have hb45 := (by assumption : Below w4.heap.size w4 _).trans (hb5.mono (by assumption : Below w4.heap.size w4 _).size))
                | (go_at_call 28; with_reducible refine (HCB.out _ (by assumption)).mono ?_; rintro e w6 ⟨P6, C6, rfl, hr6, hb6⟩; have hb46 := (by assumption : Below w4.heap.size w4 _).trans (hb6.mono (by assumption : Below w4.heap.size w4 _).size)))
            all_goals
              first
                | (obtain ⟨wz, hz, rc, rd, ewz⟩ : ∃ wz, Below w4.heap.size w4 wz ∧ wz.ownsRow 0 3 1 (.slice P5 q C5) q (zs (nz c.secs)) ∧ wz.ownsRow 0 3 1 (.slice P6 q C6) q (zs (nz c.secs)) ∧ wz = w6 := ⟨w6, hb46, low_row (row_kp hr5 (Kp.of_below hb6 []) (noI_nil _)) (Nat.zero_le _), low_row hr6 (Nat.zero_le _), rfl⟩)
                | (obtain ⟨wz, hz, rc, rd, ewz⟩ : ∃ wz, Below w4.heap.size w4 wz ∧ wz.ownsRow 0 3 1 (.slice P5 q C5) q (zs (nz c.secs)) ∧ wz.ownsRow 0 3 1 (.slice P6 q C6) q (zs (nz c.secs)) ∧ wz = w5 := ⟨w5, hb45, low_row hr5 (Nat.zero_le _), low_row (row_kp hr6 (Kp.of_below hb5 []) (noI_nil _)) (Nat.zero_le _), rfl⟩)
              subst ewz
              have HZ := Lib.hid hz
              have HRC := Lib.hid rc
              have HRD := Lib.hid rd
              have hRA2 : ∀ wx, Below wz.heap.size wz wx → _ := fun wx hb => HRA.out wx (HZ.out.trans (hb.mono HZ.out.size))
              have hRB2 : ∀ wx, Below wz.heap.size wz wx → _ := fun wx hb => HRB.out wx (HZ.out.trans (hb.mono HZ.out.size))
              have hSB2 : ∀ wx, Below wz.heap.size wz wx → _ := fun wx hb => HSB.out wx (HZ.out.trans (hb.mono HZ.out.size))
              have hCS2 : ∀ wx, Below wz.heap.size wz wx → _ := fun wx hb => HCS.out wx (HZ.out.trans (hb.mono HZ.out.size))
              have HRA2 := Lib.hid hRA2
              have HRB2 := Lib.hid hRB2
              have HSB2 := Lib.hid hSB2
              have HCS2 := Lib.hid hCS2
              have hzd : Below wz.heap.size wz wz.drew := below_drew (Below.refl _ _)
              have S3 := hCS2 _ hzd
              clear hr5 hb5 hr6 hb6 hb45 hb46 hz rc rd hRA2 hRB2 hSB2 hCS2 hbd S2
              go_wp2
              go_region_held3 (fun wx => wx.cell? (adl.add (p * 3)) = some (.int .i64 (c.place : Nat)) ∧ wx.cell? ⟨(adl.add (p * 3)).block, (adl.add (p * 3)).off + 2, none⟩ = some (.slice c2 q1 (lo.getD p ⟨0, 0, none, 0, []⟩).c))
                (first | exact S3 | exact HCS2.out _ (by assumption))
                (first
                  | (go_at_call 22; with_reducible refine (HRA2.out _ (by assumption)).mono ?_; rintro e w10 ⟨rfl, hb10⟩; have hbz10 := (by assumption : Below wz.heap.size wz _).trans (hb10.mono (by assumption : Below wz.heap.size wz _).size))
                  | (go_at_call 22; with_reducible refine (HRB2.out _ (by assumption)).mono ?_; rintro e w11 ⟨rfl, hb11⟩; have hbz11 := (by assumption : Below wz.heap.size wz _).trans (hb11.mono (by assumption : Below wz.heap.size wz _).size))
                  | (go_at_call 25; with_reducible refine (HSB2.out _ (by assumption)).mono ?_; rintro e w12 ⟨rfl, hb12⟩; have hbz12 := (by assumption : Below wz.heap.size wz _).trans (hb12.mono (by assumption : Below wz.heap.size wz _).size)))
              all_goals
                have HZ12 := Lib.hid hbz12
                clear hbz12 hbz10 hbz11 hb10 hb11 hb12 S3 hzd
                go_wp2
                go_loopw [17] (fun i wq => ∃ t : Nat, i = .int .i64 (t : Int) ∧ t ≤ q ∧ Below wz.heap.size wz wq) (fun i _ => q - (RowKit.intOf i).toNat)
                case atStart => exact ⟨0, rfl, Nat.zero_le _, HZ12.out⟩
                case round =>
                  obtain ⟨t, rfl, htq, hbq⟩ := hrel
                  have HBQ := Lib.hid hbq
                  by_cases htlt : t < q
                  · have hst : c.secs[t]? = some (c.secs[t]'(by rw [HSQ.out]; exact htlt)) := List.getElem?_eq_getElem _
                    obtain ⟨s0, es⟩ : ∃ s0, c.secs[t]'(by rw [HSQ.out]; exact htlt) = s0 := ⟨_, rfl⟩
                    rw [es] at hst
                    have hlq : (nz c.secs).length = q := by simp [nz, HSQ.out]
                    have hrc := row_kp HRC.out (Kp.of_below hbq []) (noI_nil _)
                    have hrd := row_kp HRD.out (Kp.of_below hbq []) (noI_nil _)
                    obtain ⟨pa, pc, ep, hcl⟩ := own_sl (xs := nz c.secs) (by rw [hlq]; exact hrc)
                    obtain ⟨pb, pd, ep2, hcl2⟩ := own_sl (xs := nz c.secs) (by rw [hlq]; exact hrd)
                    obtain ⟨ad5, e5, c5⟩ := hcl t (s0 : Nat) (by simp [nz, hst])
                    obtain ⟨ad6, e6, c6⟩ := hcl2 t (s0 : Nat) (by simp [nz, hst])
                    injection ep with ep z1 z2
                    injection ep2 with ep2 z3 z4
                    rw [e5] at ep
                    rw [e6] at ep2
                    clear z1 z2 z3 z4 hcl hcl2 hrc hrd e5 e6 hlq hst es hbq
                    subst ep ep2
                    have i1 : (t : Int) < (q : Int) := by omega
                    have i2 : (0 : Int) ≤ (t : Int) := by omega
                    go_wp2
                    go_quiet (fail)
                    go_wp2
                    go_roundw
                    case rel => exact ⟨t + 1, by go_num, by omega, below_drewN HBQ.out _⟩
                    case measure => simp [RowKit.intOf]; omega
                  · obtain rfl : t = q := by omega
                    clear hbq
                    go_wp2
                    go_roundw
                    case rel => exact ⟨p + 1, by go_num, by omega, HZ.out.trans (HBQ.out.mono HZ.out.size)⟩
                    case measure => simp [RowKit.intOf]; omega
          · obtain rfl : p = m2 := by omega
            have HAw := Lib.hid (awake_c wr)
            have HBL := Lib.hid (HOa.out.later hbz)
            clear hbz
            go_wp2_with (go_at_call 10; refine HAw.out.mono ?_; clear HAw; rintro e w20 ⟨rfl, b20⟩)
            go_ret
            exact ⟨rfl, HBL.out.below.trans (b20.mono HBL.out.lt)⟩
end Go.Proofs.Ytnpjbddannkgfaa
