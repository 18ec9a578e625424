/- DevicePlays. Conditions: none. -/
import Derived.Test.YtolbegjjakobeaaDvY
namespace Go.Proofs.Ytolbegjjakobeaa
open Go.ChangeShapes Go.WideShapes Go.RowKit Go.Maps
set_option maxRecDepth 100000
theorem new_none' (n : Int) (h : n < 512 ∨ 4096 < n) (w : World) : Calls Try.prog 7 #[.int .i64 n] w fun e w' => e = .returned (.pointer none) ∧ w = w' := by
  refine (new_any n w).mono ?_
  rintro e w' ⟨v, rfl, hm⟩
  cases hm with
  | none _ hw => exact ⟨rfl, hw⟩
  | some m B bs bw hn h0 h1 hd hB hb => omega
theorem rnew_none (n : Int) (h : n < 512 ∨ 4096 < n) (w : World) : Calls Try.prog 8 #[.int .i64 n] w fun e w' => e = .returned (.pointer none) ∧ w = w' := by
  refine (rnew_any n w).mono ?_
  rintro e w' ⟨v, rfl, hm⟩
  cases hm with
  | none _ hw => exact ⟨rfl, hw⟩
  | some m B g hn h0 h1 hd hB hb => omega
theorem new_some (m : Nat) (h0 : 512 ≤ m) (h1 : m ≤ 4096) (w : World) : Calls Try.prog 7 #[.int .i64 (m : Int)] w fun e w' => ∃ B b c, e = .returned (.pointer (some ⟨B, 0, none⟩)) ∧ Own w w' B b c (fresh m) := by
  refine (new_any (m : Int) w).mono ?_
  rintro e w' ⟨v, rfl, hm⟩
  cases hm with
  | none _ hw => omega
  | some m' B bs bw hn h0 h1 hd hB hb =>
    obtain rfl : m = m' := by omega
    exact ⟨B, bs, bw, rfl, hd, hb, hB⟩
theorem rnew_some (m : Nat) (h0 : 512 ≤ m) (h1 : m ≤ 4096) (w : World) : Calls Try.prog 8 #[.int .i64 (m : Int)] w fun e w' => ∃ B g, e = .returned (.pointer (some ⟨B, 0, none⟩)) ∧ Rv w' B g (List.replicate m sc0) ∧ (w.heap.size ≤ B ∧ w.heap.size ≤ g) ∧ Below w.heap.size w w' := by
  refine (rnew_any (m : Int) w).mono ?_
  rintro e w' ⟨v, rfl, hm⟩
  cases hm with
  | none _ hw => omega
  | some m' B g hn h0 h1 hd hB hb =>
    obtain rfl : m = m' := by omega
    exact ⟨B, g, rfl, hd, hB, hb⟩
set_option maxHeartbeats 8000000 in
theorem plays_nil (z : Int) (hz : z < 512 ∨ 4096 < z) (A : Option Addr) (l : List Ac) (cap : Nat) (hl : l.length ≤ maxLen) (W : World) (i0 : Acts W W.heap.size A l) :
    Calls Try.prog 3 #[.int .i64 z, .slice A l.length cap] W fun e w' => e = .returned (.bool true) ∧ Below W.heap.size W w' := by
  have HF := Lib.hid (fun (w1 : World) (hb : Below W.heap.size W w1) => few_any A l cap hl w1 W.heap.size (i0.kept hb))
  have HA := Lib.hid i0
  have C7 := Lib.hid (new_none' z hz W)
  have C8 := Lib.hid (rnew_none z hz W)
  clear i0 hz
  obtain ⟨n, hn⟩ : ∃ n, l.length = n := ⟨_, rfl⟩
  have HN := Lib.hid hn
  rw [hn] at HF ⊢
  clear hn hl
  go_enter Try.func3, Try.ntmps3
  go_wp2_with (first
    | (go_at_call 7; refine C7.out.mono ?_; rintro e w1 ⟨rfl, rfl⟩)
    | (go_at_call 8; refine C8.out.mono ?_; rintro e w1 ⟨rfl, rfl⟩)
    | (go_at_call 9; refine (HF.out W (Below.refl _ _)).mono ?_; rintro e w2 ⟨q, rfl, rfl, hq⟩)
    | (go_at_call 10; refine (works_any _).mono ?_; rintro e w2 ⟨rfl, hb⟩))
  · go_ret
    exact ⟨rfl, hb⟩
  have hq1 : q = true := by simpa using (by assumption : (!q) = false)
  have hn60 : n ≤ 60 := by have := hq hq1; unfold Few at this; rw [← HN.out]; exact this
  clear hq
  subst hq1
  simp only [Bool.not_true]
  go_loopw [5, 6, 7] (fun d r i wr => ∃ k : Nat, d = .pointer none ∧ r = .pointer none ∧ i = .int .i64 (k : Int) ∧ k ≤ n ∧ Below W.heap.size W wr) (fun _ _ i _ => n - (RowKit.intOf i).toNat)
  case atStart => exact ⟨0, rfl, rfl, rfl, Nat.zero_le _, Below.refl _ _⟩
  case round =>
    obtain ⟨k, rfl, rfl, rfl, hkn, hbw⟩ := hrel
    by_cases hlt : k < n
    · obtain ⟨x, hx⟩ : ∃ x, l[k]? = some x := ⟨_, List.getElem?_eq_getElem (by rw [HN.out]; exact hlt)⟩
      obtain ⟨ad, rfl, hat⟩ := acts_at HA.out hx
      obtain ⟨-, c0, c1, c2, c3, c4⟩ := hat wr hbw
      have HAT := Lib.hid hat
      have D11 := fun w => do_nil x w
      have D12 := fun w => their_nil x w
      unfold Ac.cells at D11 D12
      have H11 := Lib.hid D11
      have H12 := Lib.hid D12
      clear hat D11 D12 hx
      go_wp2_with (first
        | (go_at_call 11; refine (H11.out _).mono ?_; rintro e w2 ⟨rfl, hb2⟩; (have hw2 := hbw.trans (hb2.mono hbw.size)); (obtain ⟨-, d0, d1, d2, d3, d4⟩ := HAT.out _ hw2); clear hb2)
        | (go_at_call 12; refine (H12.out _).mono ?_; rintro e w3 ⟨rfl, hb3⟩; (have hw3 := hw2.trans (hb3.mono hw2.size)); (obtain ⟨-, e0, e1, e2, e3, e4⟩ := HAT.out _ hw3); clear hb3)
        | (go_at_call_of 13 (Value.int .i64 x.ask); refine (alike_nil x.ask _).mono ?_; rintro e w4 ⟨rfl, hb4⟩; (have hw4 := hw3.trans (hb4.mono hw3.size)); (obtain ⟨-, g0, g1, g2, g3, g4⟩ := HAT.out _ hw4); clear hb4)
        | (go_at_call_of 13 (Value.int .i64 x.at'); refine (alike_nil x.at' _).mono ?_; rintro e w5 ⟨rfl, hb5⟩; (have hw5 := hw4.trans (hb5.mono hw4.size)); clear hb5))
      go_roundw
      case rel => exact ⟨k + 1, rfl, rfl, by go_num, by omega, hw5⟩
      case measure => simp [RowKit.intOf]; omega
    · obtain rfl : k = n := by omega
      have HB := Lib.hid hbw
      clear hbw
      go_wp2_with (first
        | (go_at_call 14; refine (sectors_no .nil).mono ?_; rintro e w2 ⟨rfl, rfl⟩)
        | (go_at_call 10; refine (works_any _).mono ?_; rintro e w3 ⟨rfl, hb3⟩))
      go_ret
      exact ⟨rfl, HB.out.trans (hb3.mono HB.out.size)⟩
set_option maxHeartbeats 8000000 in
theorem plays_made (m : Nat) (h0 : 512 ≤ m) (h1 : m ≤ 4096) (A : Option Addr) (l : List Ac) (cap : Nat) (hl : l.length ≤ maxLen) (W : World) (i0 : Acts W W.heap.size A l) :
    Calls Try.prog 3 #[.int .i64 (m : Int), .slice A l.length cap] W fun e w' => e = .returned (.bool true) ∧ Below W.heap.size W w' := by
  have HF := Lib.hid (fun (w1 : World) (hb : Below W.heap.size W w1) => few_any A l cap hl w1 W.heap.size (i0.kept hb))
  have HA := Lib.hid i0
  have C7 := Lib.hid (new_some m h0 h1 W)
  have C8 := Lib.hid (fun w => rnew_some m h0 h1 w)
  clear i0 h0 h1
  obtain ⟨n, hn⟩ : ∃ n, l.length = n := ⟨_, rfl⟩
  have HN := Lib.hid hn
  rw [hn] at HF ⊢
  clear hn hl
  go_enter Try.func3, Try.ntmps3
  go_wp2_with (first
    | (go_at_call 7; refine C7.out.mono ?_; rintro e w1 ⟨B, b, c, rfl, ho⟩)
    | (go_at_call 8; refine (C8.out _).mono ?_; rintro e w2 ⟨Bd, g, rfl, hd, hnew, hb2⟩; have hJ : Jy W w2 B b c Bd g (List.replicate m sc0) := ⟨by rw [cels_new]; exact ho.later hb2, hd, by have := ho.below.size; omega⟩; clear ho hd hnew hb2)
    | (go_at_call 9; refine (HF.out w2 hJ.own.below).mono ?_; rintro e w3 ⟨q, rfl, rfl, hq⟩)
    | (go_at_call 10; refine (works_any _).mono ?_; rintro e w3 ⟨rfl, hb⟩))
  · go_ret
    exact ⟨rfl, hJ.own.below.trans (hb.mono hJ.own.below.size)⟩
  have hq1 : q = true := by simpa using (by assumption : (!q) = false)
  have hn60 : n ≤ 60 := by have := hq hq1; unfold Few at this; rw [← HN.out]; exact this
  clear hq
  subst hq1
  simp only [Bool.not_true]
  have HJ := Lib.hid hJ
  clear hJ
  go_loopw [5, 6, 7] (fun d r i wr => ∃ (k B b c Bd g : Nat) (L : List Sc), d = .pointer (some ⟨B, 0, none⟩) ∧ r = .pointer (some ⟨Bd, 0, none⟩) ∧ i = .int .i64 (k : Int) ∧ k ≤ n ∧ Jy W wr B b c Bd g L) (fun _ _ i _ => n - (RowKit.intOf i).toNat)
  case atStart => exact ⟨0, B, b, c, Bd, g, _, rfl, rfl, rfl, Nat.zero_le _, HJ.out⟩
  case round =>
    obtain ⟨k, B, b, c, Bd, g, L, rfl, rfl, rfl, hkn, hJ⟩ := hrel
    by_cases hlt : k < n
    · obtain ⟨x, hx⟩ : ∃ x, l[k]? = some x := ⟨_, List.getElem?_eq_getElem (by rw [HN.out]; exact hlt)⟩
      obtain ⟨ad, rfl, hat⟩ := acts_at HA.out hx
      have hbw := hJ.own.below
      obtain ⟨hsw, c0, c1, c2, c3, c4⟩ := hat wr hbw
      have D11 := do_j hJ x hsw
      have D12 := fun (w2 : World) (B' b' c' : Nat) (h : Jm W w2 B' b' c' Bd g L x) => their_j h ((hat w2 h.own.below).1)
      have HAT := Lib.hid hat
      unfold Ac.cells at D11 D12
      have H11 := Lib.hid D11
      have H12 := Lib.hid D12
      obtain ⟨er, hee⟩ : ∃ er, errA (cels L) x = er := ⟨_, rfl⟩
      rw [hee] at H11 H12
      clear hat D11 D12 hx hJ hsw hee
      go_wp2_with (first
        | (go_at_call 11; refine (H11.out).mono ?_; rintro e w2 ⟨B2, b2, cc2, rfl, hm2, -⟩; (obtain ⟨-, d0, d1, d2, d3, d4⟩ := HAT.out _ hm2.own.below))
        | (go_at_call 12; refine (H12.out w2 B2 b2 cc2 hm2).mono ?_; rintro e w3 ⟨Bd2, g2, L2, rfl, hJ3, -⟩; clear hm2; (obtain ⟨-, e0, e1, e2, e3, e4⟩ := HAT.out _ hJ3.own.below))
        | (go_at_call_of 13 (Value.int .i64 x.ask); refine (alike_any hJ3 x.ask).mono ?_; rintro e w4 ⟨rfl, hb4⟩; (have hJ4 := hJ3.later hb4); clear hb4 hJ3; (obtain ⟨-, g0, g1, gg2, g3, g4⟩ := HAT.out _ hJ4.own.below))
        | (go_at_call_of 13 (Value.int .i64 x.at'); refine (alike_any hJ4 x.at').mono ?_; rintro e w5 ⟨rfl, hb5⟩; (have hJ5 := hJ4.later hb5); clear hb5 hJ4))
      go_roundw
      case rel => exact ⟨k + 1, B2, b2, cc2, Bd2, g2, L2, rfl, rfl, by go_num, by omega, hJ5⟩
      case measure => simp [RowKit.intOf]; omega
    · obtain rfl : k = n := by omega
      have HJ2 := Lib.hid hJ
      clear hJ
      go_wp2
      go_loopw [10] (fun i wr => ∃ p : Nat, i = .int .i64 (p : Int) ∧ p ≤ k ∧ Jy W wr B b c Bd g L) (fun i _ => k - (RowKit.intOf i).toNat)
      case atStart => exact ⟨0, rfl, Nat.zero_le _, HJ2.out⟩
      case round =>
        obtain ⟨p, rfl, hpk, hJ⟩ := hrel
        have HJ3 := Lib.hid hJ
        clear hJ
        by_cases hp : p < k
        · go_wp2
          go_loopw [11] (fun i wr => ∃ q : Nat, i = .int .i64 (q : Int) ∧ q ≤ k ∧ Jy W wr B b c Bd g L) (fun i _ => k - (RowKit.intOf i).toNat)
          case atStart => exact ⟨0, rfl, Nat.zero_le _, HJ3.out⟩
          case round =>
            obtain ⟨q, rfl, hqk, hJ⟩ := hrel
            by_cases hq : q < k
            · obtain ⟨x, hx⟩ : ∃ x, l[q]? = some x := ⟨_, List.getElem?_eq_getElem (by rw [HN.out]; exact hq)⟩
              obtain ⟨ad, rfl, hat⟩ := acts_at HA.out hx
              obtain ⟨-, c0, c1, c2, c3, c4⟩ := hat _ hJ.own.below
              have H13 := Lib.hid (alike_any hJ x.at')
              have HJ4 := Lib.hid hJ
              clear hJ hat hx
              go_wp2_with (go_at_call 13; refine (H13.out).mono ?_; rintro e w5 ⟨rfl, hb5⟩; have HJ5 := Lib.hid (HJ4.out.later hb5))
              go_roundw
              case rel => exact ⟨q + 1, by go_num, by omega, HJ5.out⟩
              case measure => simp [RowKit.intOf]; omega
            · have HJ4 := Lib.hid hJ
              clear hJ
              go_wp2
              go_roundw
              case rel => exact ⟨p + 1, by go_num, by omega, HJ4.out⟩
              case measure => simp [RowKit.intOf]; omega
        · obtain ⟨cap2, hi⟩ := HJ3.out.dev.one
          have hcell : ∀ wx, Below wr.heap.size wr wx → wx.cell? ⟨Bd, 0, none⟩ = some (.slice (some ⟨g, 0, none⟩) L.length cap2) := fun wx hb => by
            have := ((Kp.of_below hb []).is hi (by simp)).cell 0
            simpa using this
          have hsec := sectors_yes HJ3.out.own.dev.drew
          rw [cels_len] at hsec
          have HC := Lib.hid hcell
          have H14 := Lib.hid hsec
          have HBW := Lib.hid HJ3.out.own.below
          have hbd : Below wr.heap.size wr wr.drew := ⟨rfl, rfl, rfl, Nat.le_refl _, fun _ _ => rfl⟩
          have hcd := HC.out _ hbd
          clear hcell hsec hi
          go_wp2
          go_region_held3 (fun wx => wx.cell? ⟨Bd, 0, none⟩ = some (.slice (some ⟨g, 0, none⟩) L.length cap2))
            (first | exact hcd | exact HC.out _ (by assumption))
            (first
              | (go_at_call 14; refine (H14.out).mono ?_; rintro e w6 ⟨rfl, rfl⟩)
              | (go_at_call 10; refine (works_any _).mono ?_; rintro e w7 ⟨rfl, hb7⟩; have hbe := hbd.trans (hb7.mono hbd.size)))
          all_goals
            have HE := Lib.hid hbe
            clear hbe hb7 hcd
            go_wp2
            go_ret
            exact ⟨rfl, HBW.out.trans (HE.out.mono HBW.out.size)⟩
theorem plays_law (z : Int) (A : Option Addr) (l : List Ac) (cap : Nat) (hl : l.length ≤ maxLen) (W : World) (i0 : Acts W W.heap.size A l) :
    Calls Try.prog 3 #[.int .i64 z, .slice A l.length cap] W fun e w' => e = .returned (.bool true) ∧ Below W.heap.size W w' := by
  by_cases h : z < 512 ∨ 4096 < z
  · exact plays_nil z h A l cap hl W i0
  · obtain ⟨m, rfl⟩ : ∃ m : Nat, z = m := ⟨z.toNat, by omega⟩
    exact plays_made m (by omega) (by omega) A l cap hl W i0
end Go.Proofs.Ytolbegjjakobeaa
