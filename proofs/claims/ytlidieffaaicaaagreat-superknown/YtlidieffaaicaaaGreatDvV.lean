/- The document's device: Crash walked. Conditions: none. -/
import Derived.Test.YtlidieffaaicaaaGreatDvU
namespace Go.Proofs.YtlidieffaaicaaaGreat.Fu
open Go.ChangeShapes Go.WideShapes Go.RowKit Go.Maps
set_option maxRecDepth 100000
/-- How a crash's loop stands. -/
structure Rc (w : World) (B0 B g : Nat) (L : List Sc) (u : Value) (xs : List Int) (k : Nat) (wr : World) : Prop where
  dev : Rv wr B g (rcr L xs k)
  kp : Kp w wr [g]
  sw : Sw wr B0 u xs
theorem lt_of_tmod {i n : Nat} : (i : Int).tmod (n : Int) = ((i % n : Nat) : Int) := by rw [Int.ofNat_tmod]
set_option maxHeartbeats 8000000 in
theorem rcrash_any {w : World} {B0 B g : Nat} {L : List Sc} {u : Value} {xs : List Int} (h : Rv w B g L) (hu : Sw w B0 u xs) (hB0 : B0 ≤ w.heap.size) (hg0 : B0 ≤ g) : Calls Tryz.prog 41 #[.pointer (some ⟨B, 0, none⟩), u] w
    fun e w' => e = .returned (.tuple #[]) ∧ ∃ L', cels L' = crash (cels L) xs ∧ Rv w' B g L' ∧ Kp w w' [g] := by
  have hall : cels (rcr L xs L.length) = crash (cels L) xs := rcr_all h.small xs
  have h0 : Rc w B0 B g L u xs 0 w := ⟨by rw [rcr_zero]; exact h, Kp.refl _ _, hu⟩
  have hhi := h.hi
  have hsm := h.small
  have hu0 := hu
  obtain ⟨ua, ucap, rfl, -⟩ := hu0
  obtain ⟨n, hn⟩ : ∃ n, L.length = n := ⟨_, rfl⟩
  obtain ⟨m, hm⟩ : ∃ m, xs.length = m := ⟨_, rfl⟩
  have HN := Lib.hid hn
  have HM := Lib.hid hm
  rw [hn] at hhi hall
  have HALL := Lib.hid hall
  have HSM := Lib.hid hsm
  have H0 := Lib.hid h0
  have HG := Lib.hid hg0
  have HB := Lib.hid hB0
  clear h h0 hn hall hsm hu hB0 hg0
  rw [hm] at H0 ⊢
  clear hm
  go_enter Tryz.func41, Tryz.ntmps41
  go_wp2
  go_loopw [4, 5] (fun q i wr => ∃ k : Nat, i = .int .i64 (k : Int) ∧ q = .int .i64 (cnt L k : Nat) ∧ k ≤ n ∧ Rc w B0 B g L (.slice ua m ucap) xs k wr) (fun _ i _ => n - (RowKit.intOf i).toNat)
  case atStart => exact ⟨0, rfl, rfl, Nat.zero_le _, H0.out⟩
  case round =>
    obtain ⟨k, rfl, rfl, hkn, hb⟩ := hrel
    obtain ⟨cap, h1⟩ := hb.dev.one
    rw [rcr_len, HN.out] at h1
    have c0 := h1.cell 0
    simp at c0
    have hle := cnt_le L k
    by_cases hlt : k < n
    · obtain ⟨x, hx⟩ : ∃ x, L[k]? = some x := ⟨_, List.getElem?_eq_getElem (by rw [HN.out]; exact hlt)⟩
      obtain ⟨d0, d1, d2⟩ := hb.dev.row.at' (rcr_next hx)
      have hki : (k : Int) < (n : Int) := by omega
      have hcs := cnt_succ hx
      cases hw : x.w with
      | false =>
        have hnx : Rc w B0 B g L (.slice ua m ucap) xs (k + 1) wr := ⟨by rw [← rcr_no hx hw]; exact hb.dev, hb.kp, hb.sw⟩
        have HX := Lib.hid hnx
        rw [hw] at d2 hcs
        have HCS := Lib.hid hcs
        clear hnx hb h1 hx hw d0 d1 hcs
        obtain ⟨q, hq⟩ : ∃ q, cnt L k = q := ⟨_, rfl⟩
        have HQ := Lib.hid hq
        rw [hq] at hle ⊢
        clear hq
        go_wp2
        go_roundw
        case rel => exact ⟨k + 1, by go_num, by rw [HCS.out, HQ.out]; simp, by omega, HX.out⟩
        case measure => simp [RowKit.intOf]; omega
      | true =>
        obtain ⟨z0, z1⟩ := HSM.out k x hx
        have hkp := kp_le xs (cnt L k)
        have hkd : kp xs (cnt L k) = match xs[cnt L k % xs.length]? with | none => 0 | some z => min (z % 130).toNat 128 := rfl
        rw [hw] at hcs
        obtain ⟨q, hq⟩ : ∃ q, cnt L k = q := ⟨_, rfl⟩
        obtain ⟨K, hK⟩ : ∃ K, kp xs (cnt L k) = K := ⟨_, rfl⟩
        have hts : (tx x K).size = 128 := tx_size z0 z1 (by omega)
        have htc := tx_cut (x := x) z0 (n := K)
        obtain ⟨T, hT⟩ : ∃ T, tx x K = T := ⟨_, rfl⟩
        have hend : ∀ w2, Below wr.heap.size wr w2 → Rc w B0 B g L (.slice ua m ucap) xs (k + 1) (put3 w2.drew g k (.string T) (.string ⟨#[]⟩) (.bool false)) := fun w2 hb2 => by
          have hd2 := (hb.dev.below hb2).drew
          have hp := hd2.put (i := k) (by rw [rcr_len, HN.out]; exact hlt) ⟨tx x K, ⟨#[]⟩, false⟩ (by rw [hts]; exact Nat.le_refl _) (show ByteArray.size ⟨#[]⟩ ≤ 128 from by decide)
          rw [← hK, rcr_yes hx hw, hK, hT] at hp
          have k12 : Kp wr (put3 w2.drew g k (.string T) (.string ⟨#[]⟩) (.bool false)) [g] := ((Kp.of_below hb2 [g]).drew).trans (kp_put3 _ _ _ _ _ _) (fun _ hy => .inl hy)
          have hwr := hb.kp.size
          have hB0 := HB.out
          exact ⟨hp, hb.kp.trans k12 (fun _ hy => .inl hy), hb.sw.kept (k12.below (by omega) (fun y hy => by have := HG.out; simp at hy; omega))⟩
        have hcell : ∀ w2, Below wr.heap.size wr w2 → (w2.cell? ⟨B, 0, none⟩ = some (.slice (some ⟨g, 0, none⟩) n cap) ∧ w2.cell? ⟨g, k * 3, none⟩ = some (.string x.sure) ∧ w2.cell? ⟨g, k * 3 + 1, none⟩ = some (.string x.shows)) ∧
            w2.cell? ⟨g, k * 3 + 2, none⟩ = some (.bool true) ∧ w2.frozen? ⟨g, k * 3, none⟩ = false ∧ w2.frozen? ⟨g, k * 3 + 1, none⟩ = false ∧ w2.frozen? ⟨g, k * 3 + 2, none⟩ = false := fun w2 hb2 => by
          have hd2 := hb.dev.below hb2
          obtain ⟨e0, e1, e2⟩ := hd2.row.at' (rcr_next hx)
          rw [hw] at e2
          have hi2 := (Kp.of_below hb2 []).is h1 (by simp)
          have c0' := hi2.cell 0
          simp at c0'
          exact ⟨⟨c0', e0, e1⟩, e2, hd2.row.free _, hd2.row.free _, hd2.row.free _⟩
        have hsw := hb.sw
        rw [hT] at htc hts
        have fA := fun w => rfull_any x.shows z1 w
        have fB := fun w => rfull_any x.sure z0 w
        have zA : (bs (full x.shows.data.toList)).size = 128 := (by simp [bs, ByteArray.size]; exact full_len (by rw [← Lib.size_eq]; exact z1))
        have zB : (bs (full x.sure.data.toList)).size = 128 := (by simp [bs, ByteArray.size]; exact full_len (by rw [← Lib.size_eq]; exact z0))
        obtain ⟨A, hA⟩ : ∃ A, bs (full x.shows.data.toList) = A := ⟨_, rfl⟩
        obtain ⟨D, hD⟩ : ∃ D, bs (full x.sure.data.toList) = D := ⟨_, rfl⟩
        rw [hA] at htc fA zA
        rw [hD] at htc fB zB
        have HE := Lib.hid hend
        have HC := Lib.hid hcell
        have HCS := Lib.hid hcs
        have HFA := Lib.hid fA
        have HFB := Lib.hid fB
        have HQ := Lib.hid hq
        rw [hw] at d2
        rw [hq] at hkd hK hle ⊢
        rw [hkd, HM.out] at hK
        obtain ⟨U, hU⟩ : ∃ U, A.extract 0 K = U := ⟨_, rfl⟩
        obtain ⟨V, hV⟩ : ∃ V, D.extract K 128 = V := ⟨_, rfl⟩
        rw [hU, hV] at htc
        have hno : ¬ 9223372036854775807 < U.size + V.size := by
          have : (U ++ V).size = 128 := by rw [htc]; exact hts
          rw [ByteArray.size_append] at this
          omega
        have HH1 := Lib.hid h1
        have HTS := Lib.hid hts
        obtain ⟨su, sh, wt⟩ := x
        simp only at d0 d1 HC
        clear hend hcell hcs fA fB hq hw h1 hts hT hA hD hx hkp z0 z1 hkd hb
        have hqb : q < 9223372036854775807 := by omega
        have hbd : Below wr.heap.size wr wr.drew := ⟨rfl, rfl, rfl, Nat.le_refl _, fun _ _ => rfl⟩
        by_cases hm0 : m = 0
        · subst hm0
          obtain rfl : K = 0 := by
            rw [← hK]
            have : xs = [] := List.eq_nil_of_length_eq_zero HM.out
            rw [this]
            rfl
          clear hK hsw
          have HTV := Lib.hid (show V = T from by rw [← htc, ← hU]; apply ByteArray.ext; simp)
          go_wp2
          go_region_held3 (fun wx => wx.cell? ⟨B, 0, none⟩ = some (.slice (some ⟨g, 0, none⟩) n cap) ∧ wx.cell? ⟨g, k * 3, none⟩ = some (.string su) ∧ wx.cell? ⟨g, k * 3 + 1, none⟩ = some (.string sh))
            (first | exact (HC.out _ (by assumption)).1)
            (first
              | (go_at_call_of 73 (Value.string sh); with_reducible refine (HFA.out _).mono ?_; rintro e w1 ⟨rfl, hb1⟩; replace hbd := hbd.trans (hb1.mono hbd.size))
              | (go_at_call_of 73 (Value.string su); with_reducible refine (HFB.out _).mono ?_; rintro e w1 ⟨rfl, hb1⟩; replace hbd := hbd.trans (hb1.mono hbd.size)))
          all_goals
            obtain ⟨⟨e0, e1, e2⟩, e3, f0, f1, f2⟩ := HC.out _ hbd
            have HZZ := Lib.hid (HE.out _ hbd)
            clear hbd hb1
            have hK0 : (0 : Int) ≤ ((0 : Nat) : Int) := by omega
            have hK8 : ((0 : Nat) : Int) ≤ 128 := by omega
            go_wp2
            go_region
            go_wp2
            go_roundw
            case rel => exact ⟨k + 1, by go_num, by rw [HCS.out, HQ.out]; simp, by omega, (by rw [HTV.out]; exact HZZ.out)⟩
            case measure => simp [RowKit.intOf]; omega
        · have hlt2 : q % m < m := Nat.mod_lt _ (by omega)
          obtain ⟨z, hz⟩ : ∃ z, xs[q % m]? = some z := ⟨_, List.getElem?_eq_getElem (by rw [HM.out]; exact hlt2)⟩
          obtain ⟨ua', uc', eu, hxs⟩ := hsw
          obtain ⟨ad, ea, -, hcz⟩ := hxs _ _ hz
          injection eu with eu eu2 eu3
          clear eu2 eu3
          obtain rfl : ua = some ad := eu.trans ea
          have hmt := lt_of_tmod (i := q) (n := m)
          obtain ⟨j, hj⟩ : ∃ j, q % m = j := ⟨_, rfl⟩
          rw [hj] at hmt hz hcz hlt2
          rw [hj, hz] at hK
          simp only at hK
          obtain ⟨t1, t2, t3, t4⟩ := tmod130 z
          obtain ⟨Z, eZ⟩ : ∃ Z, z.tmod 130 = Z := ⟨_, rfl⟩
          rw [eZ] at t1 t2 t3 t4
          have hm1 : ¬ (m : Int) = 0 := by omega
          have hm2 : (0 : Int) < (m : Int) := by omega
          have HZ := Lib.hid hz
          clear hxs eu hz hj ea
          by_cases hneg : Z < 0
          · by_cases hbig : 128 < Z + 130
            · obtain rfl : K = 128 := by have := t1 hneg; omega
              clear t1 t2 hK
              have HTV := Lib.hid (show U = T from by rw [← htc, ← hV]; apply ByteArray.ext; simp)
              go_wp2
              go_region_held3 (fun wx => wx.cell? ⟨B, 0, none⟩ = some (.slice (some ⟨g, 0, none⟩) n cap) ∧ wx.cell? ⟨g, k * 3, none⟩ = some (.string su) ∧ wx.cell? ⟨g, k * 3 + 1, none⟩ = some (.string sh))
                (first | exact (HC.out _ (by assumption)).1)
                (first
                  | (go_at_call_of 73 (Value.string sh); with_reducible refine (HFA.out _).mono ?_; rintro e w1 ⟨rfl, hb1⟩; replace hbd := hbd.trans (hb1.mono hbd.size))
                  | (go_at_call_of 73 (Value.string su); with_reducible refine (HFB.out _).mono ?_; rintro e w1 ⟨rfl, hb1⟩; replace hbd := hbd.trans (hb1.mono hbd.size)))
              all_goals
                obtain ⟨⟨e0, e1, e2⟩, e3, f0, f1, f2⟩ := HC.out _ hbd
                have HZZ := Lib.hid (HE.out _ hbd)
                clear hbd hb1
                have hK0 : (0 : Int) ≤ ((128 : Nat) : Int) := by omega
                have hK8 : ((128 : Nat) : Int) ≤ 128 := by omega
                go_wp2
                go_region
                go_wp2
                go_roundw
                case rel => exact ⟨k + 1, by go_num, by rw [HCS.out, HQ.out]; simp, by omega, (by rw [HTV.out]; exact HZZ.out)⟩
                case measure => simp [RowKit.intOf]; omega
            · have hC : Z + 130 = (K : Int) := by have := t1 hneg; omega
              have hbig' : ¬ (128 : Int) < (K : Int) := by omega
              clear t1 t2 hK
              go_wp2
              go_region_held3 (fun wx => wx.cell? ⟨B, 0, none⟩ = some (.slice (some ⟨g, 0, none⟩) n cap) ∧ wx.cell? ⟨g, k * 3, none⟩ = some (.string su) ∧ wx.cell? ⟨g, k * 3 + 1, none⟩ = some (.string sh))
                (first | exact (HC.out _ (by assumption)).1)
                (first
                  | (go_at_call_of 73 (Value.string sh); with_reducible refine (HFA.out _).mono ?_; rintro e w1 ⟨rfl, hb1⟩; replace hbd := hbd.trans (hb1.mono hbd.size))
                  | (go_at_call_of 73 (Value.string su); with_reducible refine (HFB.out _).mono ?_; rintro e w1 ⟨rfl, hb1⟩; replace hbd := hbd.trans (hb1.mono hbd.size)))
              all_goals
                obtain ⟨⟨e0, e1, e2⟩, e3, f0, f1, f2⟩ := HC.out _ hbd
                have HZZ := Lib.hid (HE.out _ hbd)
                clear hbd hb1
                have hK0 : (0 : Int) ≤ (K : Int) := by omega
                have hK8 : (K : Int) ≤ 128 := by omega
                go_wp2
                go_region
                go_wp2
                go_roundw
                case rel => exact ⟨k + 1, by go_num, by rw [HCS.out, HQ.out]; simp, by omega, HZZ.out⟩
                case measure => simp [RowKit.intOf]; omega
          · by_cases hbig : 128 < Z
            · obtain rfl : K = 128 := by have := t2 hneg; omega
              clear t1 t2 hK
              have HTV := Lib.hid (show U = T from by rw [← htc, ← hV]; apply ByteArray.ext; simp)
              go_wp2
              go_region_held3 (fun wx => wx.cell? ⟨B, 0, none⟩ = some (.slice (some ⟨g, 0, none⟩) n cap) ∧ wx.cell? ⟨g, k * 3, none⟩ = some (.string su) ∧ wx.cell? ⟨g, k * 3 + 1, none⟩ = some (.string sh))
                (first | exact (HC.out _ (by assumption)).1)
                (first
                  | (go_at_call_of 73 (Value.string sh); with_reducible refine (HFA.out _).mono ?_; rintro e w1 ⟨rfl, hb1⟩; replace hbd := hbd.trans (hb1.mono hbd.size))
                  | (go_at_call_of 73 (Value.string su); with_reducible refine (HFB.out _).mono ?_; rintro e w1 ⟨rfl, hb1⟩; replace hbd := hbd.trans (hb1.mono hbd.size)))
              all_goals
                obtain ⟨⟨e0, e1, e2⟩, e3, f0, f1, f2⟩ := HC.out _ hbd
                have HZZ := Lib.hid (HE.out _ hbd)
                clear hbd hb1
                have hK0 : (0 : Int) ≤ ((128 : Nat) : Int) := by omega
                have hK8 : ((128 : Nat) : Int) ≤ 128 := by omega
                go_wp2
                go_region
                go_wp2
                go_roundw
                case rel => exact ⟨k + 1, by go_num, by rw [HCS.out, HQ.out]; simp, by omega, (by rw [HTV.out]; exact HZZ.out)⟩
                case measure => simp [RowKit.intOf]; omega
            · obtain rfl : Z = (K : Int) := by have := t2 hneg; omega
              have hbig' : ¬ (128 : Int) < (K : Int) := by omega
              clear t1 t2 hK
              go_wp2
              go_region_held3 (fun wx => wx.cell? ⟨B, 0, none⟩ = some (.slice (some ⟨g, 0, none⟩) n cap) ∧ wx.cell? ⟨g, k * 3, none⟩ = some (.string su) ∧ wx.cell? ⟨g, k * 3 + 1, none⟩ = some (.string sh))
                (first | exact (HC.out _ (by assumption)).1)
                (first
                  | (go_at_call_of 73 (Value.string sh); with_reducible refine (HFA.out _).mono ?_; rintro e w1 ⟨rfl, hb1⟩; replace hbd := hbd.trans (hb1.mono hbd.size))
                  | (go_at_call_of 73 (Value.string su); with_reducible refine (HFB.out _).mono ?_; rintro e w1 ⟨rfl, hb1⟩; replace hbd := hbd.trans (hb1.mono hbd.size)))
              all_goals
                obtain ⟨⟨e0, e1, e2⟩, e3, f0, f1, f2⟩ := HC.out _ hbd
                have HZZ := Lib.hid (HE.out _ hbd)
                clear hbd hb1
                have hK0 : (0 : Int) ≤ (K : Int) := by omega
                have hK8 : (K : Int) ≤ 128 := by omega
                go_wp2
                go_region
                go_wp2
                go_roundw
                case rel => exact ⟨k + 1, by go_num, by rw [HCS.out, HQ.out]; simp, by omega, HZZ.out⟩
                case measure => simp [RowKit.intOf]; omega
    · obtain rfl : k = n := by omega
      have HR := Lib.hid hb
      clear hb h1
      go_wp2
      go_end0
      exact ⟨rfl, rcr L xs k, HALL.out, HR.out.dev, HR.out.kp⟩
end Go.Proofs.YtlidieffaaicaaaGreat.Fu
