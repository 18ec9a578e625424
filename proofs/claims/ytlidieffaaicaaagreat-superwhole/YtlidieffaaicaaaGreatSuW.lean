/- Whatever crashes leave of Writes of the next generation, again and again: the superblock that was chosen last, or the new one, is chosen, whole. Conditions: numbers of 64 bits. -/
import Derived.Test.YtlidieffaaicaaaGreatSuT
import Derived.Test.YtlidieffaaicaaaGreatSuO
namespace Go.Proofs.YtlidieffaaicaaaGreat
open Go.ChangeShapes Go.WideShapes Go.RowKit Go.Codec Go.Super
set_option maxRecDepth 100000
set_option linter.unusedSimpArgs false
theorem tm446 (n : Nat) : Int.tmod (n : Int) 446 = ((n % 446 : Nat) : Int) := by
  rw [Int.tmod_eq_emod_of_nonneg (by omega)]; omega
set_option maxHeartbeats 8000000 in
theorem whole_c (A : Option Addr) (l : List Ty) (cp : Nat) (hl : l.length ≤ maxLen) (w : World) (IV : Tries w w.heap.size A l) :
    Calls Tryz.prog 4 #[.slice A l.length cp] w fun e w' => e = .returned (.bool true) ∧ Below w.heap.size w w' := by
  unfold maxLen at hl
  have HG := Lib.hid given_c
  have HW := Lib.hid works_c
  have HA := Lib.hid IV
  clear IV
  obtain ⟨n, hn⟩ : ∃ n, n = l.length := ⟨_, rfl⟩
  rw [← hn] at hl
  rw [← hn]
  have HN := Lib.hid hn
  clear hn
  have HD := Lib.hid Fu.new512
  have K0 : Hid (KB w [] w) := Lib.hid ⟨Below.refl _ _, fun p hp => by simp at hp⟩
  go_enter Tryz.func4, Tryz.ntmps4
  go_wp2_with fail
  refine (HD.out _).mono ?_; rintro e w14 ⟨B, b, c, rfl, ho⟩
  have HL := Lib.hid (Fu.lo_new ho (Fu.sl_nil w14) (by simp) (-1))
  clear ho HD
  go_wp2_with fail
  refine HL.out.mono ?_; rintro e w15 ⟨F, u, rfl, hlo, -, -, -⟩
  have KD := Lib.hid (K0.out.line hlo)
  clear hlo HL K0
  by_cases h40 : (40 : Int) < (n : Int)
  · go_wp2_with fail
    refine (HW.out _).mono ?_; rintro e w8 ⟨rfl, hb⟩
    have KF := Lib.hid (KD.out.later hb)
    clear hb
    go_wp2_with fail
    go_ret
    exact ⟨rfl, KF.out.below⟩
  · go_wp2_with fail
    refine (HG.out _).mono ?_; rintro e w17 ⟨rfl, hb⟩
    have KF := Lib.hid (KD.out.later hb)
    clear hb KD
    have C2 := Lib.hid (KF.out.write (by decide) g5 g5_ok)
    simp only [show g5.gen = 1 from rfl, show g5.calls = 2 from rfl, show g5.root = 66 from rfl, show g5.table = 70 from rfl, show g5.secs = 512 from rfl] at C2
    clear KF
    go_wp2_with fail
    refine C2.out.mono ?_; rintro e w18 ⟨rfl, hk⟩
    have C3 := Lib.hid hk.barrier
    clear hk C2
    go_wp2_with fail
    refine C3.out.mono ?_; rintro e w19 ⟨rfl, hk⟩
    have KH := Lib.hid hk
    clear hk C3
    go_wp2_with fail
    refine (HG.out _).mono ?_; rintro e w20 ⟨rfl, hb⟩
    have hk2 := KH.out.later hb
    clear hb KH
    obtain ⟨P, hP⟩ : ∃ P, w20.heap.size = P := ⟨_, rfl⟩
    have hWP : w.heap.size ≤ P := by rw [← hP]; exact hk2.lo.below.size
    have hFP : F ≤ P := by rw [← hP]; exact Nat.le_of_lt hk2.lo.ln.one.lt
    have hk3 := hk2.add #[.int .u64 1, .int .u64 2, .int .i64 66, .int .i64 70, .int .i64 512]
    rw [hP] at hk3
    have KP := Lib.hid hk3
    have HFP := Lib.hid (And.intro hWP hFP)
    clear hk2 hk3 hWP hFP
    have HJ := Lib.hid jw_start
    generalize Fu.bar (Fu.wrS (Fu.fresh 512) (1 % 2) (put g5).1) = st0 at HJ KP
    go_wp2_with fail
    clear hP
    go_loopw [6] (fun i wr => ∃ (k : Nat) (s : S) (st : List Fu.Cel), i = .int .i64 (k : Int) ∧ k ≤ n ∧ Jw st s ∧ s.gen ≤ k + 1 ∧ KL w [(P, #[.int .u64 s.gen, .int .u64 s.calls, .int .i64 s.root, .int .i64 s.table, .int .i64 s.secs])] w F B b c st (-1) u [] (k + 1) false wr) (fun i _ => n - (RowKit.intOf i).toNat)
    case atStart => exact ⟨0, g5, st0, rfl, Nat.zero_le _, HJ.out, Nat.le_refl _, KP.out⟩
    case round =>
      obtain ⟨k, s, st, rfl, hkn, hj, hsg, hkl⟩ := hrel
      clear HJ KP
      by_cases hlt : k < n
      · obtain ⟨x, hx⟩ : ∃ x, l[k]? = some x := ⟨_, List.getElem?_eq_getElem (by rw [← HN.out]; exact hlt)⟩
        obtain ⟨ad, rfl, ⟨r1, r2, r3⟩, hat⟩ := tries_at HA.out hx
        clear hx
        obtain ⟨xc, xr, xt, xv, xs⟩ := x
        simp only at r1 r2 r3 hat
        have HAT := Lib.hid hat
        obtain ⟨c0, c1, c2, c3, hs⟩ := hat _ hkl.below
        clear hat
        obtain ⟨a, cq, rfl, -⟩ := hs
        obtain ⟨nx, hnx⟩ : ∃ nx, nx = xs.length := ⟨_, rfl⟩
        rw [← hnx] at c3
        have HNX := Lib.hid hnx
        clear hnx
        obtain ⟨d0, d1, d2, d3, d4⟩ := hkl.get (List.mem_singleton.2 rfl)
        have KL1 := Lib.hid hkl
        by_cases h10 : (10 : Int) < (nx : Int)
        · clear hkl
          go_wp2_with fail
          refine (HW.out _).mono ?_; rintro e w8 ⟨rfl, hb⟩
          have KF := Lib.hid (KL1.out.later hb)
          clear hb
          go_wp2_with fail
          go_ret
          exact ⟨rfl, KF.out.below⟩
        · obtain ⟨g, sc, sr, st', ss⟩ := s
          simp only at hsg d0 d1 d2 d3 d4 KL1 hkl
          have hltP := (hkl.all _ (List.mem_singleton.2 rfl)).lt
          have hltQ : (ad.add (k * 4)).block < wr.heap.size := World.block_lt_of_cell? wr (ad.add (k * 4)) c0
          have t1 := tm446 xr
          have t2 := tm446 xt
          have m1 := Nat.mod_lt xr (show 0 < 446 by decide)
          have m2 := Nat.mod_lt xt (show 0 < 446 by decide)
          generalize xr % 446 = yr at t1 m1
          generalize xt % 446 = yt at t2 m2
          obtain ⟨g1, hg1⟩ : ∃ g1 : Nat, g1 = g + 1 := ⟨_, rfl⟩
          have hg2 : (g : Int) + 1 = (g1 : Int) := by omega
          have hne : ¬ (g1 : Int) = (g : Int) := by omega
          have HG1 := Lib.hid hg1
          clear hg1
          simp only at hltP
          clear hkl
          go_wp2_with fail
          go_region
          clear c0 c1 c2 c3 t1 t2 hltP hltQ hg2 d0 d1 d2 d3 d4 r2 r3
          have KT := Lib.hid (KL1.out.add #[.int .u64 (g1 : Nat), .int .u64 (xc : Nat), .int .i64 (66 + (yr : Nat)), .int .i64 (66 + (yt : Nat)), .int .i64 512]).drew
          clear KL1
          have hg1 := HG1.out
          have hok : S.Ok ⟨g1, xc, 66 + (yr : Nat), 66 + (yt : Nat), 512⟩ := by
            refine ⟨?_, ?_, ?_, ?_, ?_, ?_, ?_⟩ <;> simp only <;> omega
          have hTry := fun wh => hj.try (t := ⟨g1, xc, 66 + (yr : Nat), 66 + (yt : Nat), 512⟩) (by simp only; omega) hok hg1 r1 rfl xs wh
          have hC1 := KT.out.write (by omega) ⟨g1, xc, 66 + (yr : Nat), 66 + (yt : Nat), 512⟩ hok
          simp only at hC1
          have C1 := Lib.hid hC1
          obtain ⟨n0, n1, n2, n3, n4⟩ := KT.out.get (.head _)
          clear hC1 hok hj KT hg1
          go_wp2_with fail
          refine C1.out.mono ?_; rintro e w1 ⟨rfl, hk⟩
          have KA := Lib.hid hk
          clear hk C1 n0 n1 n2 n3 n4
          by_cases hw : k % 5 = 4
          · have htm : Int.tmod (k : Int) 5 = 4 := by rw [Int.tmod_eq_emod_of_nonneg (by omega)]; omega
            have hT := hTry true
            simp only [if_true] at hT
            obtain ⟨y, x0, x1, hx0, hx1, hch, -, hwh, hj'⟩ := hT
            obtain rfl := hwh trivial
            clear hTry hwh
            have C2 := Lib.hid KA.out.barrier
            clear KA
            go_wp2_with fail
            refine C2.out.mono ?_; rintro e w2 ⟨rfl, hk⟩
            have KB1 := Lib.hid hk
            clear hk C2 htm
            have c3 := (HAT.out _ KB1.out.below).2.2.2.1
            rw [← HNX.out] at c3
            have hsl := (HAT.out _ KB1.out.below).2.2.2.2.sl
            rw [← HNX.out] at hsl
            have C3 := Lib.hid (KB1.out.crash hsl)
            clear hsl KB1
            go_wp2_with fail
            refine C3.out.mono ?_; rintro e w4 ⟨rfl, hk⟩
            clear c3 C3
            have hc4 := hk.chooses hx0 hx1 (s := ⟨g1, xc, 66 + (yr : Nat), 66 + (yt : Nat), 512⟩) (er := 0) (by rw [hj'.len]; exact hch)
            simp only at hc4
            have C4 := Lib.hid hc4
            clear hk hc4 hx0 hx1 hch
            go_wp2_with fail
            refine C4.out.mono ?_; rintro e w5 ⟨rfl, hk⟩
            have KE := Lib.hid (hk.add #[.int .u64 (g1 : Nat), .int .u64 (xc : Nat), .int .i64 (66 + (yr : Nat)), .int .i64 (66 + (yt : Nat)), .int .i64 512])
            clear hk C4
            obtain ⟨e0, e1, e2, e3, e4⟩ := KE.out.get (.head _)
            obtain ⟨n0, n1, n2, n3, n4⟩ := KE.out.get (.tail _ (.head _))
            obtain ⟨d0, d1, d2, d3, d4⟩ := KE.out.get (.tail _ (.tail _ (.head _)))
            have hfr := fun i => KE.out.frozen (.tail _ (.tail _ (.head _))) i
            have f0 := hfr 0; have f1 := hfr 1; have f2 := hfr 2; have f3 := hfr 3; have f4 := hfr 4
            have hltP2 := (KE.out.all _ (.tail _ (.tail _ (.head _)))).lt
            simp only at f0 f1 f2 f3 f4 hltP2
            clear hfr
            go_wp2_with fail
            go_roundw
            case rel => exact ⟨k + 1, ⟨g1, xc, 66 + (yr : Nat), 66 + (yt : Nat), 512⟩, _, by go_num, by omega, hj', by have := HG1.out; simp only; omega, (KE.out.some (.tail _ (.tail _ (.head _)))).put5 HFP.out.1 HFP.out.2⟩
            case measure => simp [RowKit.intOf]; omega
          · have htm : ¬ Int.tmod (k : Int) 5 = 4 := by rw [Int.tmod_eq_emod_of_nonneg (by omega)]; omega
            have hT := hTry false
            simp only [Bool.false_eq_true, if_false] at hT
            obtain ⟨y, x0, x1, hx0, hx1, hch, hor, -, hj'⟩ := hT
            clear hTry
            have KB1 := KA
            clear KA
            rcases hor with rfl | rfl
            · have c3 := (HAT.out _ KB1.out.below).2.2.2.1
              rw [← HNX.out] at c3
              have hsl := (HAT.out _ KB1.out.below).2.2.2.2.sl
              rw [← HNX.out] at hsl
              have C3 := Lib.hid (KB1.out.crash hsl)
              clear hsl KB1
              go_wp2_with fail
              refine C3.out.mono ?_; rintro e w4 ⟨rfl, hk⟩
              clear c3 C3
              have hc4 := hk.chooses hx0 hx1 (s := ⟨g, sc, sr, st', ss⟩) (er := 0) (by rw [hj'.len]; exact hch)
              simp only at hc4
              have C4 := Lib.hid hc4
              clear hk hc4 hx0 hx1 hch
              go_wp2_with fail
              refine C4.out.mono ?_; rintro e w5 ⟨rfl, hk⟩
              have KE := Lib.hid (hk.add #[.int .u64 (g : Nat), .int .u64 (sc : Nat), .int .i64 sr, .int .i64 st', .int .i64 ss])
              clear hk C4
              obtain ⟨e0, e1, e2, e3, e4⟩ := KE.out.get (.head _)
              obtain ⟨n0, n1, n2, n3, n4⟩ := KE.out.get (.tail _ (.head _))
              obtain ⟨d0, d1, d2, d3, d4⟩ := KE.out.get (.tail _ (.tail _ (.head _)))
              have hfr := fun i => KE.out.frozen (.tail _ (.tail _ (.head _))) i
              have f0 := hfr 0; have f1 := hfr 1; have f2 := hfr 2; have f3 := hfr 3; have f4 := hfr 4
              have hltP2 := (KE.out.all _ (.tail _ (.tail _ (.head _)))).lt
              simp only at f0 f1 f2 f3 f4 hltP2
              clear hfr
              go_wp2_with fail
              go_roundw
              case rel => exact ⟨k + 1, ⟨g, sc, sr, st', ss⟩, _, by go_num, by omega, hj', by have := HG1.out; simp only; omega, (KE.out.some (.tail _ (.tail _ (.head _)))).put5 HFP.out.1 HFP.out.2⟩
              case measure => simp [RowKit.intOf]; omega
            · have c3 := (HAT.out _ KB1.out.below).2.2.2.1
              rw [← HNX.out] at c3
              have hsl := (HAT.out _ KB1.out.below).2.2.2.2.sl
              rw [← HNX.out] at hsl
              have C3 := Lib.hid (KB1.out.crash hsl)
              clear hsl KB1
              go_wp2_with fail
              refine C3.out.mono ?_; rintro e w4 ⟨rfl, hk⟩
              clear c3 C3
              have hc4 := hk.chooses hx0 hx1 (s := ⟨g1, xc, 66 + (yr : Nat), 66 + (yt : Nat), 512⟩) (er := 0) (by rw [hj'.len]; exact hch)
              simp only at hc4
              have C4 := Lib.hid hc4
              clear hk hc4 hx0 hx1 hch
              go_wp2_with fail
              refine C4.out.mono ?_; rintro e w5 ⟨rfl, hk⟩
              have KE := Lib.hid (hk.add #[.int .u64 (g1 : Nat), .int .u64 (xc : Nat), .int .i64 (66 + (yr : Nat)), .int .i64 (66 + (yt : Nat)), .int .i64 512])
              clear hk C4
              obtain ⟨e0, e1, e2, e3, e4⟩ := KE.out.get (.head _)
              obtain ⟨n0, n1, n2, n3, n4⟩ := KE.out.get (.tail _ (.head _))
              obtain ⟨d0, d1, d2, d3, d4⟩ := KE.out.get (.tail _ (.tail _ (.head _)))
              have hfr := fun i => KE.out.frozen (.tail _ (.tail _ (.head _))) i
              have f0 := hfr 0; have f1 := hfr 1; have f2 := hfr 2; have f3 := hfr 3; have f4 := hfr 4
              have hltP2 := (KE.out.all _ (.tail _ (.tail _ (.head _)))).lt
              simp only at f0 f1 f2 f3 f4 hltP2
              clear hfr
              go_wp2_with fail
              go_roundw
              case rel => exact ⟨k + 1, ⟨g1, xc, 66 + (yr : Nat), 66 + (yt : Nat), 512⟩, _, by go_num, by omega, hj', by have := HG1.out; simp only; omega, (KE.out.some (.tail _ (.tail _ (.head _)))).put5 HFP.out.1 HFP.out.2⟩
              case measure => simp [RowKit.intOf]; omega
      · have KF := Lib.hid hkl
        clear hkl
        go_wp2_with fail
        refine (HW.out _).mono ?_; rintro e w8 ⟨rfl, hb⟩
        have KG := Lib.hid (KF.out.later hb)
        clear hb
        go_wp2_with fail
        go_ret
        exact ⟨rfl, KG.out.below⟩
end Go.Proofs.YtlidieffaaicaaaGreat
