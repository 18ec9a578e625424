/- AllocParts: its walk. Conditions: none. -/
import Derived.Test.YtnpjbddannkgfaaPtA
namespace Go.Proofs.Ytnpjbddannkgfaa
open Go.ChangeShapes Go.WideShapes Go.RowKit Go.Maps Go.Spans Go.Alloc
set_option maxRecDepth 100000
set_option maxHeartbeats 16000000 in
theorem parts_c (W : World) (x0 x1 : Nat) (hx0 : x0 < 256) (hx1 : x1 < 65536) (A0 : Option Addr) (l : List Ac) (cap : Nat) (_hl : l.length ≤ maxLen) (h0 : Acts W W.heap.size A0 l) :
    Calls Try.prog 6 #[.int .u8 (x0 : Nat), .int .u16 (x1 : Nat), .slice A0 l.length cap] W fun e w' => e = .returned (.bool true) ∧ Below W.heap.size W w' := by
  obtain ⟨f, hf⟩ : ∃ f : Nat, (x0 : Int) % 100 = (f : Int) := ⟨x0 % 100, by omega⟩
  obtain ⟨n, hn⟩ : ∃ n : Nat, (f : Int) + 1 + (x1 : Int) % 400 = (n : Int) := ⟨f + 1 + x1 % 400, by omega⟩
  have hfn : f < n := by omega
  have hn5 : n ≤ 4096 := by omega
  have hfi : (f : Int) < 100 := by omega
  have hN := oi_new f n hfn hn5 W
  obtain ⟨m, hm⟩ : ∃ m, l.length = m := ⟨_, rfl⟩
  unfold maxLen at _hl
  rw [hm] at _hl ⊢
  have HM := Lib.hid hm
  have H0 := Lib.hid h0
  have HN := Lib.hid hN
  have hmk0 := fun w => make_of n (by omega) w
  clear hm h0 hN
  go_enter Try.func6, Try.ntmps6
  go_wp2_with (go_at_call 8; refine HN.out.mono ?_; clear HN; rintro e w1 ⟨A, xs, rfl, ho, -⟩; have HO := Lib.hid ho; clear ho)
  have hp0 : Pa W (w1.alloc (.cells (ofA [] n) 3)) A f n xs [] [] w1.heap.size [] := ⟨HO.out.later (below_alloc (Below.refl _ _) _), Is.new w1 3 _, fun k hk => (by cases hk)⟩
  have HP0 := Lib.hid hp0
  clear hp0 hmk0
  go_loopw [10, 11, 12, 13, 14, 15, 16, 17, 18] (fun s i _ _ _ _ _ _ _ wr => ∃ (k : Nat) (xs : List Sp) (L : List Ch) (Wt : List Nat) (G : Nat) (S : List Nat), s = .slice (some ⟨G, 0, none⟩) n n ∧ i = .int .i64 (k : Int) ∧ k ≤ m ∧ k ≤ 150 ∧ Pa W wr A f n xs L Wt G S) (fun _ i _ _ _ _ _ _ _ _ => m - (RowKit.intOf i).toNat)
  case atStart => exact ⟨0, _, _, _, _, _, rfl, rfl, Nat.zero_le _, by omega, HP0.out⟩
  case round =>
    obtain ⟨k, xs, L, Wt, G, S, rfl, rfl, hkm, hk150, hpa⟩ := hrel
    have HP := Lib.hid hpa
    clear hpa
    by_cases hlt : k < m
    · by_cases hlt2 : k < 150
      · obtain ⟨x, hx⟩ : ∃ x, l[k]? = some x := ⟨_, List.getElem?_eq_getElem (by rw [HM.out]; exact hlt)⟩
        obtain ⟨ad, rfl, hxr, hac⟩ := H0.out.at hx
        obtain ⟨a0, a1⟩ := hac wr HP.out.oi.below
        clear hac hx
        have hmod : (x.what : Int) % 5 = 0 ∨ (x.what : Int) % 5 = 1 ∨ (x.what : Int) % 5 = 2 ∨ (x.what : Int) % 5 = 3 ∨ (x.what : Int) % 5 = 4 := by omega
        rcases hmod with hmod | hmod | hmod | hmod | hmod
        · -- 0
          have hA := HP.out.oi.alloc x.n
          have hnew := fun (hE : takeE xs x.n = 0) => still_new HP.out.still HP.out.oi.inv hE
          obtain ⟨E, eE⟩ : ∃ E, takeE xs x.n = E := ⟨_, rfl⟩
          obtain ⟨T, eT⟩ : ∃ T, takeL xs x.n = T := ⟨_, rfl⟩
          have hE0 : E = 0 ∨ T = [] := by
            by_cases h0 : takeE xs x.n = 0
            · left; rw [← eE, h0]
            · right
              rw [← eT]
              unfold takeE at h0
              unfold takeL
              split at h0
              · rename_i h; rw [if_pos (.inl h)]
              · split at h0
                · rename_i h; rw [if_pos (.inr h)]
                · exact absurd rfl h0
          rw [eE, eT] at hA hnew
          have hP2 : ∀ w2, Kq wr w2 → Oi W.heap.size W w2 A f n (takeX xs x.n) (if E = 0 then insC ⟨T, 1, false⟩ L else L) Wt → Pa W w2 A f n (takeX xs x.n) (if E = 0 then insC ⟨T, 1, false⟩ L else L) Wt G S := fun w2 hq ho =>
            ⟨ho, hq.is _ _ _ HP.out.row (by decide) (by decide), by
              split
              · exact still_ins HP.out.still _
              · exact HP.out.still⟩
          have hsm : ∀ s ∈ T, E = 0 ∧ s ∉ S ∧ f ≤ s ∧ s < n := fun s hs => by
            rcases hE0 with h | h
            · exact ⟨h, hnew h s hs⟩
            · rw [h] at hs; cases hs
          have hTl : T.length ≤ 4096 := by
            rw [← eT]
            have h1 := cnt_le HP.out.oi.inv.ok
            have h2 := HP.out.oi.inv.hi
            unfold takeL
            split
            · simp
            · rw [List.length_take, elems_len]; omega
          have HA := Lib.hid hA
          have HP2 := Lib.hid hP2
          have HSM := Lib.hid hsm
          clear hA hnew eE eT hE0 hP2 hsm
          obtain ⟨q, hq0⟩ : ∃ q, T.length = q := ⟨_, rfl⟩
          have HQ0 := Lib.hid hq0
          rw [hq0] at HA hTl
          clear hq0
          generalize takeX xs x.n = xs2 at *
          generalize (if E = 0 then insC ⟨T, 1, false⟩ L else L) = L2 at *
          go_wp2_with (go_at_call 20; refine HA.out.mono ?_; clear HA; rintro e w2 ⟨P, C, hq, hr, rfl, ho⟩; have HR := Lib.hid hr; have HP3 := Lib.hid (HP2.out _ hq ho); clear hq hr ho)
          go_loopw [14] (fun i wz => ∃ j : Nat, i = .int .i64 (j : Int) ∧ j ≤ q ∧ wz = w2) (fun i _ => q - (RowKit.intOf i).toNat)
          case atStart => exact ⟨0, rfl, Nat.zero_le _, rfl⟩
          case round =>
            obtain ⟨j, rfl, hjq, rfl⟩ := hrel
            by_cases hjlt : j < q
            · have hsj : T[j]? = some (T[j]'(by rw [HQ0.out]; exact hjlt)) := List.getElem?_eq_getElem _
              obtain ⟨s0, es⟩ : ∃ s0, T[j]'(by rw [HQ0.out]; exact hjlt) = s0 := ⟨_, rfl⟩
              rw [es] at hsj
              obtain ⟨hz, hnot, hsf, hsn⟩ := HSM.out s0 (List.mem_of_getElem? hsj)
              have hr := HR.out
              rw [ints_zs] at hr
              obtain ⟨pa, pc, ep, hcl⟩ := own_sl (xs := nz T) (by
                have : (nz T).length = q := by simp [nz, HQ0.out]
                rw [this]
                exact hr)
              obtain ⟨ad5, rfl, c5⟩ := hcl j (s0 : Nat) (by simp [nz, hsj])
              injection ep with ep q1 q2
              clear q1 q2 hcl hr
              subst ep
              have cg := HP3.out.row.cell s0
              rw [ofA_get hsn, if_neg hnot] at cg
              have i1 : (f : Int) ≤ (s0 : Int) := by omega
              have i2 : (s0 : Int) < (n : Int) := by omega
              have i5 : (0 : Int) ≤ (s0 : Int) := by omega
              subst hz
              clear hsj es hnot hsf
              go_wp2
              go_roundw
              case rel => exact ⟨j + 1, by go_num, by omega, trivial⟩
              case measure => simp [RowKit.intOf]; omega
            · obtain rfl : j = q := by omega
              have HWh := Lib.hid (whole_c HP3.out.oi)
              go_wp2_with (go_at_call 30; refine HWh.out.mono ?_; clear HWh; rintro e w5 ⟨rfl, b5⟩; have HP5 := Lib.hid (HP3.out.later b5); clear b5)
              go_roundw
              case rel => exact ⟨k + 1, xs2, L2, Wt, G, S, rfl, by go_num, by omega, by omega, HP5.out⟩
              case measure => simp [RowKit.intOf]; omega
        · -- 1
          have hA := HP.out.oi.hold x.n hxr
          have HA := Lib.hid hA
          have HP2 := Lib.hid (show ∀ w2, Kq wr w2 → Oi W.heap.size W w2 A f n xs (holdL L x.n) Wt → Pa W w2 A f n xs (holdL L x.n) Wt G S from fun w2 hq ho => ⟨ho, hq.is _ _ _ HP.out.row (by decide) (by decide), still_hold HP.out.still x.n⟩)
          clear hA
          go_wp2_with (first
            | (go_at_call 21; refine HA.out.mono ?_; clear HA; rintro e w2 ⟨rfl, hq, ho⟩; have HP3 := Lib.hid (HP2.out _ hq ho); have HWh := Lib.hid (whole_c HP3.out.oi); clear hq ho)
            | (go_at_call 30; refine HWh.out.mono ?_; clear HWh; rintro e w5 ⟨rfl, b5⟩; have HP5 := Lib.hid (HP3.out.later b5); clear b5))
          go_roundw
          case rel => exact ⟨k + 1, xs, _, Wt, G, S, rfl, by go_num, by omega, by omega, HP5.out⟩
          case measure => simp [RowKit.intOf]; omega
        · -- 2
          have hA := HP.out.oi.drop x.n hxr
          have HA := Lib.hid hA
          have HP2 := Lib.hid (show ∀ w2 ys W2, Kq wr w2 → dropS L x.n xs ys Wt W2 → Oi W.heap.size W w2 A f n ys (dropL' L x.n) W2 → Pa W w2 A f n ys (dropL' L x.n) W2 G S from fun w2 ys W2 hq hd ho => ⟨ho, hq.is _ _ _ HP.out.row (by decide) (by decide), still_drop HP.out.still HP.out.oi.inv.srt x.n hd⟩)
          clear hA
          go_wp2_with (first
            | (go_at_call 29; refine HA.out.mono ?_; clear HA; rintro e w2 ⟨rfl, hq, ys, W2, hd, ho⟩; have HP3 := Lib.hid (HP2.out _ _ _ hq hd ho); have HWh := Lib.hid (whole_c HP3.out.oi); clear hq hd ho)
            | (go_at_call 30; refine HWh.out.mono ?_; clear HWh; rintro e w5 ⟨rfl, b5⟩; have HP5 := Lib.hid (HP3.out.later b5); clear b5))
          go_roundw
          case rel => exact ⟨k + 1, ys, _, W2, G, S, rfl, by go_num, by omega, by omega, HP5.out⟩
          case measure => simp [RowKit.intOf]; omega
        · -- 3
          have hA := HP.out.oi.commit
          have HA := Lib.hid hA
          have hmk := fun w => make_of n (by omega) w
          obtain ⟨m2, hm2⟩ : ∃ m2, (sureC L).length = m2 := ⟨_, rfl⟩
          have hm24 : m2 ≤ 4096 := by rw [← hm2]; have := HP.out.oi.inv.llen; simpa [sureC] using this
          clear hA
          generalize eL : sureC L = L2 at *
          go_wp2_with (first
            | (go_at_call 26; refine HA.out.mono ?_; clear HA; rintro e w2 ⟨rfl, hq, ys, hys, ho⟩; have HO := Lib.hid ho; have hls0 := ho.list; rw [hm2] at hls0; have HLs := Lib.hid hls0; clear hq hys ho hls0)
            | (go_at_call 12; refine HLs.out.mono ?_; clear HLs; rintro e w3 ⟨P, C, lo, rfl, hls, hsame, hll, hb3⟩; have HLS := Lib.hid hls; have HSM := Lib.hid hsame; have HLL := Lib.hid hll; have HO3 := Lib.hid (HO.out.later hb3); clear hls hsame hll hb3))
          have hb4 : Below w3.heap.size w3 (w3.alloc (.cells (ofA [] n) 3)) := below_alloc (Below.refl _ _) _
          have hw0 : Wh (w3.alloc (.cells (ofA [] n) 3)) (w3.alloc (.cells (ofA [] n) 3)) w3.heap.size n [] := ⟨Is.new w3 3 (ofA [] n), Kp.refl _ _⟩
          generalize (w3.alloc (.cells (ofA [] n) 3)) = w4 at *
          obtain ⟨G2, hG2⟩ : ∃ G2, w3.heap.size = G2 := ⟨_, rfl⟩
          rw [hG2] at hw0 ⊢
          have HB4 := Lib.hid hb4
          have HW0 := Lib.hid hw0
          have HG2 := Lib.hid hG2
          have HM2 := Lib.hid hm2
          have HEL := Lib.hid eL
          clear hb4 hw0 hG2 hm2 hmk eL
          go_loopw [16, 17, 18] (fun i _ _ wz => ∃ p : Nat, i = .int .i64 (p : Int) ∧ p ≤ m2 ∧ Wh w4 wz G2 n (allS (L2.take p))) (fun i _ _ _ => m2 - (RowKit.intOf i).toNat)
          case atStart => exact ⟨0, rfl, Nat.zero_le _, HW0.out⟩
          case round =>
            obtain ⟨p, rfl, hpm, hwz⟩ := hrel
            have HWZ := Lib.hid hwz
            have hbz : Below w3.heap.size w3 wr := HB4.out.trans (hwz.kp.below HB4.out.size (fun g hg => by have := HG2.out; simp at hg; omega))
            have HOZ := Lib.hid (HO3.out.later hbz)
            clear hwz
            by_cases hplt : p < m2
            · have hxk : L2[p]? = some (L2[p]'(by rw [HM2.out]; exact hplt)) := List.getElem?_eq_getElem _
              obtain ⟨c, ex⟩ : ∃ c, L2[p]'(by rw [HM2.out]; exact hplt) = c := ⟨_, rfl⟩
              rw [ex] at hxk
              have hlk : lo[p]? = some (lo[p]'(by rw [HLL.out]; exact hplt)) := List.getElem?_eq_getElem _
              obtain ⟨y, ey⟩ : ∃ y, lo[p]'(by rw [HLL.out]; exact hplt) = y := ⟨_, rfl⟩
              rw [ey] at hlk
              obtain ⟨t1, t2, t3⟩ := told_eq HSM.out hlk hxk
              obtain ⟨_, _, adl, rfl, _, d0, _, _⟩ := (HLS.out.kept hbz) p y hlk
              have hinv := HOZ.out.inv
              have hcm := List.mem_of_getElem? hxk
              have hch := HOZ.out.chain (c.place : Nat) (by have := (hinv.place hcm).2; have := hinv.hi; unfold i64r; omega)
              have ech : chainL L2 (c.place : Nat) = c.secs := by unfold chainL; rw [findC_mem hinv.srt hcm]
              rw [ech] at hch
              have hsl := hinv.slen hcm
              obtain ⟨q, hq⟩ : ∃ q, c.secs.length = q := ⟨_, rfl⟩
              rw [hq] at hch hsl
              rw [t1] at d0
              have hn2 := hinv.hi
              have HCH := Lib.hid hch
              have HXK := Lib.hid hxk
              have HSQ := Lib.hid hq
              have hGlt : G2 < wr.heap.size := HWZ.out.is.lt
              clear hbz hch ech hinv hcm hxk hlk ex ey t1 t2 t3 hq
              go_wp2_with (go_at_call 28; refine HCH.out.mono ?_; clear HCH; rintro e w5 ⟨P5, C5, rfl, hrow, hb5⟩; have HR := Lib.hid hrow; have HB5 := Lib.hid hb5; have HW5 := Lib.hid (show Wh w4 w5 G2 n (allS (L2.take p)) from ⟨(Kp.of_below hb5 []).is HWZ.out.is (by simp), HWZ.out.kp.trans (Kp.of_below hb5 [G2]) (fun y hy => .inl hy)⟩); clear hrow hb5)
              go_loopw [18] (fun i wz => ∃ j : Nat, i = .int .i64 (j : Int) ∧ j ≤ q ∧ Wh w5 wz G2 n (allS (L2.take p) ++ c.secs.take j)) (fun i _ => q - (RowKit.intOf i).toNat)
              case atStart => exact ⟨0, rfl, Nat.zero_le _, by simpa using HW5.out.is, Kp.refl _ _⟩
              case round =>
                obtain ⟨j, rfl, hjq, hwz⟩ := hrel
                have HWJ := Lib.hid hwz
                by_cases hjlt : j < q
                · have hsj : c.secs[j]? = some (c.secs[j]'(by rw [HSQ.out]; exact hjlt)) := List.getElem?_eq_getElem _
                  obtain ⟨s0, es⟩ : ∃ s0, c.secs[j]'(by rw [HSQ.out]; exact hjlt) = s0 := ⟨_, rfl⟩
                  rw [es] at hsj
                  obtain ⟨hnot, hsf, hsn⟩ := fresh_sec HOZ.out.inv HXK.out hsj
                  have hrz := row_off HR.out hwz.kp hGlt
                  obtain ⟨pa, pc, ep, hcl⟩ := own_sl (xs := nz c.secs) (by
                    have : (nz c.secs).length = q := by simp [nz, HSQ.out]
                    rw [this]
                    exact hrz)
                  obtain ⟨ad5, rfl, c5⟩ := hcl j (s0 : Nat) (by simp [nz, hsj])
                  injection ep with ep q1 q2
                  clear q1 q2 hcl hrz
                  subst ep
                  have cg := hwz.is.cell s0
                  rw [ofA_get hsn, if_neg hnot] at cg
                  have fz := hwz.is.frozen s0
                  have hk6 : ∀ (u : Value), Kp w5 (wr.setCell ⟨G2, s0, none⟩ u) [G2] := fun u => hwz.kp.put ⟨G2, s0, none⟩ u (.inl (by simp))
                  have hset := hwz.is.put s0 (.int .i64 1)
                  rw [ofA_set hsn, List.append_assoc, show c.secs.take j ++ [s0] = c.secs.take (j + 1) by rw [List.take_add_one, hsj]; rfl] at hset
                  have HSET := Lib.hid hset
                  have HK6 := Lib.hid hk6
                  have i2 : (s0 : Int) < (n : Int) := by omega
                  have i5 : (0 : Int) ≤ (s0 : Int) := by omega
                  clear hwz hset hk6 hnot hsj es hsf
                  go_wp2
                  go_roundw
                  case rel => exact ⟨j + 1, by go_num, by omega, HSET.out, HK6.out _⟩
                  case measure => simp [RowKit.intOf]; omega
                · obtain rfl : j = q := by omega
                  have hnxt := allS_take_succ HXK.out
                  have HNX := Lib.hid hnxt
                  clear hwz hnxt
                  go_wp2
                  go_roundw
                  case rel =>
                    refine ⟨p + 1, by go_num, by omega, ?_⟩
                    rw [HNX.out]
                    have := HWJ.out.is
                    rw [show c.secs.take j = c.secs by rw [← HSQ.out, List.take_length]] at this
                    exact ⟨this, HW5.out.kp.trans HWJ.out.kp (fun y hy => .inl hy)⟩
                  case measure => simp [RowKit.intOf]; omega
            · obtain rfl : p = m2 := by omega
              have eR : L2.take p = L2 := by rw [← HM2.out, List.take_length]
              have HPa := Lib.hid (show Pa W wr A f n _ L2 [] G2 (allS L2) from ⟨HOZ.out, by have := HWZ.out.is; rwa [eR] at this, by rw [← HEL.out]; exact still_all⟩)
              have HWt := Lib.hid HOZ.out.waiting
              have HWh := Lib.hid (whole_c HOZ.out)
              clear hbz eR
              go_wp2_with (first
                | (go_at_call 27; refine HWt.out.mono ?_; clear HWt; rintro e w6 ⟨rfl, e6⟩; subst e6)
                | (go_at_call 30; refine HWh.out.mono ?_; clear HWh; rintro e w7 ⟨rfl, b7⟩; have HP7 := Lib.hid (HPa.out.later b7); clear b7))
              go_roundw
              case rel => exact ⟨k + 1, _, L2, [], G2, _, rfl, by go_num, by omega, by omega, HP7.out⟩
              case measure => simp [RowKit.intOf]; omega
        · -- 4
          have HWh := Lib.hid (whole_c HP.out.oi)
          go_wp2_with (go_at_call 30; refine HWh.out.mono ?_; clear HWh; rintro e w5 ⟨rfl, b5⟩; have HP5 := Lib.hid (HP.out.later b5); clear b5)
          go_roundw
          case rel => exact ⟨k + 1, xs, L, Wt, G, S, rfl, by go_num, by omega, by omega, HP5.out⟩
          case measure => simp [RowKit.intOf]; omega
      · have HAw := Lib.hid (awake_c wr)
        go_wp2_with (go_at_call 10; refine HAw.out.mono ?_; clear HAw; rintro e w5 ⟨rfl, b5⟩)
        go_ret
        exact ⟨rfl, HP.out.oi.below.trans (b5.mono HP.out.oi.lt)⟩
    · have HAw := Lib.hid (awake_c wr)
      go_wp2_with (go_at_call 10; refine HAw.out.mono ?_; clear HAw; rintro e w5 ⟨rfl, b5⟩)
      go_ret
      exact ⟨rfl, HP.out.oi.below.trans (b5.mono HP.out.oi.lt)⟩
end Go.Proofs.Ytnpjbddannkgfaa
