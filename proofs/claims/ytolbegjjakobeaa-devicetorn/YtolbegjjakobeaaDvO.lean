/- DeviceTorn. Conditions: none. -/
import Derived.Test.YtolbegjjakobeaaDvN
namespace Go.Proofs.Ytolbegjjakobeaa
open Go.ChangeShapes Go.WideShapes Go.RowKit Go.Maps
set_option maxRecDepth 100000
/-- Two devices of the call's own. -/
structure Tw (W wr : World) (B b c : Nat) (s1 : List Cel) (B' b' c' : Nat) (s0 : List Cel) : Prop where
  one : Own W wr B b c s1
  two : Own W wr B' b' c' s0
theorem Tw.later {W w1 w2 : World} {B b c B' b' c' : Nat} {s1 s0 : List Cel} (h : Tw W w1 B b c s1 B' b' c' s0) (hb : Below w1.heap.size w1 w2) : Tw W w2 B b c s1 B' b' c' s0 := ⟨h.one.later hb, h.two.later hb⟩
theorem Tw.drew {W w1 : World} {B b c B' b' c' : Nat} {s1 s0 : List Cel} (h : Tw W w1 B b c s1 B' b' c' s0) : Tw W w1.drew B b c s1 B' b' c' s0 := h.later ⟨rfl, rfl, rfl, Nat.le_refl _, fun _ _ => rfl⟩
/-- A copy, and what is done with it then. -/
theorem Tw.made2 {W w1 w2 w3 : World} {B b c B' b' c' : Nat} {st st' : List Cel} (h : Own W w1 B b c st) (hc : Cp w1 w2 B' b' c' st) (hd : Dv w3 B' b' c' st') (hk : Kp w2 w3 [b', c']) : Tw W w3 B' b' c' st' B b c st := by
  have h1 := h.later hc.below
  have h2 := h.copy hc
  have hn := hc.new
  have hs := h.dev.lts
  have hw := h.dev.ltw
  have hB := h.dev.lt
  have hkk : ∀ x ∈ [b', c'], x = b' ∨ x = c' := fun x hx => by simpa using hx
  have h3 := h2.step hd hk hkk
  exact ⟨h3, h1.dev.kept hk (by simp; omega) (by simp; omega) (by simp; omega), h3.below, h.new⟩
/-- A copy, and what is done with the device then. -/
theorem Tw.made {W w1 w2 w3 : World} {B b c B' b' c' : Nat} {st st' : List Cel} (h : Own W w1 B b c st) (hc : Cp w1 w2 B' b' c' st) (hd : Dv w3 B b c st') (hk : Kp w2 w3 [b, c]) : Tw W w3 B b c st' B' b' c' st := by
  have h1 := h.later hc.below
  have h2 := h.copy hc
  have hn := hc.new
  have hs := h.dev.lts
  have hw := h.dev.ltw
  have hkk : ∀ x ∈ [b, c], x = b ∨ x = c := fun x hx => by simpa using hx
  have h3 := h1.step hd hk hkk
  refine ⟨h3, ⟨hc.dev.kept hk (by simp; omega) (by simp; omega) (by simp; omega), h3.below, h2.new⟩⟩
theorem bs_size (l : List UInt8) : (bs l).size = l.length := by simp [bs, ByteArray.size]
theorem bs_at {l : List UInt8} {j : Nat} (h : j < (bs l).size) : (bs l)[j] = l[j]'(by rw [← bs_size]; exact h) := rfl
theorem bs_cut (l : List UInt8) (m : Nat) : (bs l).extract m 128 = bs ((l.take 128).drop m) := by
  apply ByteArray.ext
  apply Array.toList_inj.1
  simp [bs, List.drop_take]
theorem torn_key {cc c2 : Cel} {xs : List Int} (hr : cc.r.length = 128) (hs2 : c2.s.length = 128) (hs : cc.s.length = 128) (hor : (cc.t = none ∧ c2 = cc) ∨ ∃ j t, cc.t = some t ∧ c2.s = tornL cc.s t (kp xs j))
    (m : Nat) (hm : m ≤ 128) (hall : ∀ j, j < m → ∀ (h1 : j < (bs cc.r).size) (h2 : j < (bs c2.s).size), (bs cc.r)[j] = (bs c2.s)[j])
    (hend : m = 128 ∨ ∃ (h1 : m < (bs cc.r).size) (h2 : m < (bs c2.s).size), (bs cc.r)[m] ≠ (bs c2.s)[m]) : (bs c2.s).extract m 128 = (bs cc.s).extract m 128 := by
  rw [bs_cut, bs_cut, List.take_of_length_le (by omega), List.take_of_length_le (by omega)]
  rcases hor with ⟨_, rfl⟩ | ⟨j, t, ht, e⟩
  · rfl
  · have er : cc.r = t := by simp [Cel.r, ht]
    rw [er] at hr hall hend
    have hk := kp_le xs j
    generalize kp xs j = q at e hk
    have hqm : q ≤ m := by
      rcases hend with rfl | ⟨h1, h2, hne⟩
      · exact hk
      · by_cases hq : q ≤ m
        · exact hq
        · exfalso
          apply hne
          rw [bs_at h1, bs_at h2]
          have : c2.s[m]? = t[m]? := by
            rw [e, tornL, List.getElem?_append_left (by rw [List.length_take]; omega), List.getElem?_take, if_pos (by omega)]
          rw [List.getElem?_eq_getElem (by omega), List.getElem?_eq_getElem (by omega)] at this
          injection this with this
          exact this.symm
    rw [e, tornL, List.drop_append, List.drop_of_length_le (by rw [List.length_take]; omega), List.nil_append, List.length_take, List.drop_drop]
    congr 2
    omega
set_option maxHeartbeats 8000000 in
theorem torn_law (A : Option Addr) (l : List Ac) (cap : Nat) (hl : l.length ≤ maxLen) (v1 : Value) (x1 : List Int) (v2 : Value) (x2 : List Int) (W : World) (i0 : Acts W W.heap.size A l) (i1 : Sw W W.heap.size v1 x1) (i2 : Sw W W.heap.size v2 x2) :
    Calls Try.prog 4 #[.slice A l.length cap, v1, v2] W fun e w' => e = .returned (.bool true) ∧ Below W.heap.size W w' := by
  have hfew := fun (w1 : World) (hb : Below W.heap.size W w1) => few_any A l cap hl w1 W.heap.size (i0.kept hb)
  have HF := Lib.hid hfew
  have HA := Lib.hid i0; have H1 := Lib.hid i1; have H2 := Lib.hid i2
  clear hfew i0 i1 i2
  obtain ⟨n, hn⟩ : ∃ n, l.length = n := ⟨_, rfl⟩
  have HN := Lib.hid hn
  rw [hn]
  rw [hn] at HF
  clear hn hl
  go_enter Try.func4, Try.ntmps4
  go_wp2_with (first
    | (go_at_call 7; refine (new512 W).mono ?_; rintro e w1 ⟨B, b, c, rfl, ho⟩)
    | (go_at_call 9; refine (HF.out w1 ho.below).mono ?_; rintro e w2 ⟨q, rfl, rfl, hq⟩)
    | (go_at_call 10; refine (works_any _).mono ?_; rintro e w2 ⟨rfl, hb⟩))
  · go_ret
    exact ⟨rfl, ho.below.trans (hb.mono ho.below.size)⟩
  have hq1 : q = true := by simpa using (by assumption : (!q) = false)
  have hn60 : n ≤ 60 := by have := hq hq1; unfold Few at this; rw [← HN.out]; exact this
  clear hq
  subst hq1
  simp only [Bool.not_true]
  have hdd : Dd W w1 (.pointer (some ⟨B, 0, none⟩)) := ⟨B, b, c, _, rfl, ho, fresh_len _⟩
  have HD := Lib.hid hdd
  clear hdd ho
  go_loopw [7, 8] (fun d i wr => ∃ k : Nat, i = .int .i64 (k : Int) ∧ k ≤ n ∧ Dd W wr d) (fun _ i _ => n - (RowKit.intOf i).toNat)
  case atStart => exact ⟨0, rfl, Nat.zero_le _, HD.out⟩
  case round =>
    obtain ⟨k, rfl, hkn, hd⟩ := hrel
    by_cases hlt : k < n
    · obtain ⟨x, hx⟩ : ∃ x, l[k]? = some x := ⟨_, List.getElem?_eq_getElem (by rw [HN.out]; exact hlt)⟩
      have hbw : Below W.heap.size W wr := by obtain ⟨_, _, _, _, _, h, _⟩ := hd; exact h.below
      obtain ⟨hsw, ad, rfl, -, c0, c1, c2, c3, c4⟩ := (HA.out.kept hbw) k x hx
      have hdo := do_dd hd x hsw
      unfold Ac.cells at hdo
      have HDO := Lib.hid hdo
      clear hdo hsw hd hx
      go_wp2_with (go_at_call 11; refine (HDO.out).mono ?_; rintro e w2 ⟨v', er, rfl, hd2, hb2⟩)
      go_roundw
      case rel => exact ⟨k + 1, by go_num, by omega, hd2⟩
      case measure => simp [RowKit.intOf]; omega
    · obtain rfl : k = n := by omega
      obtain ⟨B, b, c, st, rfl, ho, hst⟩ := hd
      have hs1 := H1.out.kept ho.below
      have cC := copy_yes ho.dev
      have C15 := Lib.hid cC
      have hmk := fun (w2 w3 : World) (B' b' c' : Nat) (hc : Cp wr w2 B' b' c' st) (hd : Dv w3 B b c (crash st x1)) (hk : Kp w2 w3 [b, c]) => Tw.made ho hc hd hk
      have HM := Lib.hid hmk
      have h16 := fun (w2 : World) (B' b' c' : Nat) (hc : Cp wr w2 B' b' c' st) => crash_yes (ho.dev.below hc.below) (xs := x1) (hs1.kept (hc.below.mono ho.below.size)).sl
      have C16 := Lib.hid h16
      clear hmk cC h16 hs1 ho
      go_wp2_with (first
        | (go_at_call 15; refine (C15.out).mono ?_; rintro e w2 ⟨B', b', c', rfl, hc⟩)
        | (go_at_call 16; refine (C16.out w2 B' b' c' hc).mono ?_; rintro e w3 ⟨rfl, hd, hk⟩))
      have hT := HM.out w2 w3 B' b' c' hc hd hk
      have HT := Lib.hid hT
      clear hT hc hd hk C15 C16 HM
      go_loopw [10] (fun i wr => ∃ k : Nat, i = .int .i64 (k : Int) ∧ k ≤ 512 ∧ Tw W wr B b c (crash st x1) B' b' c' st) (fun i _ => 512 - (RowKit.intOf i).toNat)
      case atStart => exact ⟨0, rfl, Nat.zero_le _, HT.out⟩
      case round =>
        obtain ⟨k, rfl, hkn, hT⟩ := hrel
        by_cases hlt : k < 512
        · obtain ⟨cc, hcc⟩ : ∃ cc, st[k]? = some cc := ⟨_, List.getElem?_eq_getElem (by omega)⟩
          obtain ⟨c2, hc2, ht2, hor⟩ := crash_get st x1 hcc
          obtain ⟨hs, -⟩ := hT.two.dev.ok k cc hcc
          have hr := hT.two.dev.ok.r hcc
          have hs2 := (hT.one.dev.ok k c2 hc2).1
          have er2 : c2.r = c2.s := by simp [Cel.r, ht2]
          obtain ⟨S, eS⟩ : ∃ S, bs cc.r = S := ⟨_, rfl⟩
          obtain ⟨T, eT⟩ : ∃ T, bs c2.s = T := ⟨_, rfl⟩
          obtain ⟨O, eO⟩ : ∃ O, bs cc.s = O := ⟨_, rfl⟩
          have zS : S.size = 128 := by rw [← eS]; exact (bs_size _).trans hr
          have zT : T.size = 128 := by rw [← eT]; exact (bs_size _).trans hs2
          have zO : O.size = 128 := by rw [← eO]; exact (bs_size _).trans hs
          have KEY : ∀ m, m ≤ 128 → (∀ j, j < m → ∀ (h1 : j < S.size) (h2 : j < T.size), S[j] = T[j]) → (m = 128 ∨ ∃ (h1 : m < S.size) (h2 : m < T.size), S[m] ≠ T[m]) → T.extract m 128 = O.extract m 128 := by
            rw [← eS, ← eT, ← eO]
            exact torn_key hr hs2 hs hor
          have r1 : ∀ wx, Tw W wx B b c (crash st x1) B' b' c' st → Calls Try.prog 17 #[.pointer (some ⟨B', 0, none⟩), .int .i64 (k : Int)] wx fun e w' => e = .returned (.tuple #[.string S, .int .i64 0]) ∧ Below wx.heap.size wx w' := fun wx h => by rw [← eS]; exact read_r h.two.dev k hcc _ rfl
          have r2 : ∀ wx, Tw W wx B b c (crash st x1) B' b' c' st → Calls Try.prog 17 #[.pointer (some ⟨B, 0, none⟩), .int .i64 (k : Int)] wx fun e w' => e = .returned (.tuple #[.string T, .int .i64 0]) ∧ Below wx.heap.size wx w' := fun wx h => by rw [← eT]; exact read_r h.one.dev k hc2 _ er2
          have r3 : ∀ wx, Tw W wx B b c (crash st x1) B' b' c' st → Calls Try.prog 18 #[.pointer (some ⟨B', 0, none⟩), .int .i64 (k : Int)] wx fun e w' => e = .returned (.string O) ∧ Below wx.heap.size wx w' := fun wx h => by rw [← eO]; exact sure_r h.two.dev k hcc _ rfl
          have r4 : ∀ wx, Tw W wx B b c (crash st x1) B' b' c' st → Calls Try.prog 18 #[.pointer (some ⟨B, 0, none⟩), .int .i64 (k : Int)] wx fun e w' => e = .returned (.string T) ∧ Below wx.heap.size wx w' := fun wx h => by rw [← eT]; exact sure_r h.one.dev k hc2 _ rfl
          have R1 := Lib.hid r1; have R2 := Lib.hid r2; have R3 := Lib.hid r3; have R4 := Lib.hid r4
          have HK := Lib.hid KEY
          clear r1 r2 r3 r4 KEY hcc hc2 ht2 hor hs hr hs2 er2 eS eT eO
          have hT1 := hT
          clear hT
          go_wp2_with (first
            | (go_at_call 17; with_reducible refine (R1.out _ hT1).mono ?_; rintro e w4 ⟨rfl, hb⟩; (have hT2 := hT1.later hb); clear hb hT1)
            | (go_at_call 17; with_reducible refine (R2.out _ hT2).mono ?_; rintro e w5 ⟨rfl, hb⟩; (have hT3 := hT2.later hb); clear hb hT2)
            | (go_at_call 18; with_reducible refine (R3.out _ hT3).mono ?_; rintro e w6 ⟨rfl, hb⟩; (have hT4 := hT3.later hb); clear hb hT3))
          have H4 := Lib.hid hT4
          clear hT4
          go_loopw [16] (fun i wr => ∃ m : Nat, i = .int .i64 (m : Int) ∧ m ≤ 128 ∧ (∀ j, j < m → ∀ (h1 : j < S.size) (h2 : j < T.size), S[j] = T[j]) ∧ Tw W wr B b c (crash st x1) B' b' c' st) (fun i _ => 129 - (RowKit.intOf i).toNat)
          case atStart => exact ⟨0, rfl, by omega, fun j hj => by omega, H4.out⟩
          case round =>
            obtain ⟨m, rfl, hm, hall, hTm⟩ := hrel
            have HALL := Lib.hid hall
            have HTM := Lib.hid hTm
            clear hall hTm
            by_cases hm8 : m < 128
            · have hm1 : m < S.size := by omega
              have hm2 : m < T.size := by omega
              have hmi : (m : Int) < 128 := by omega
              have hmi1 : (m : Int) < (S.size : Int) := by omega
              have hmi2 : (m : Int) < (T.size : Int) := by omega
              by_cases hb : S[m] = T[m]
              · have hbb : ((S[m].toNat : Int) == (T[m].toNat : Int)) = true := by simp [hb]
                have HB := Lib.hid hb
                clear hb
                go_wp2
                go_region
                go_wp2
                go_roundw
                case rel =>
                  refine ⟨m + 1, by go_num, by omega, fun j hj h1 h2 => ?_, HTM.out.drew⟩
                  by_cases e : j < m
                  · exact HALL.out j e h1 h2
                  · obtain rfl : j = m := by omega
                    exact HB.out
                case measure => simp [RowKit.intOf]; omega
              · have hbb : ((S[m].toNat : Int) == (T[m].toNat : Int)) = false := by
                  rw [beq_eq_false_iff_ne]
                  intro e
                  exact hb (UInt8.toNat_inj.1 (by omega))
                have hx := HK.out m hm HALL.out (.inr ⟨hm1, hm2, hb⟩)
                obtain ⟨X, hX⟩ : ∃ X, T.extract m 128 = X := ⟨_, rfl⟩
                rw [hX] at hx
                have hO := hx.symm
                clear hx hb
                have hT5 := HTM.out.drew
                go_wp2
                go_region
                go_wp2
                generalize wr.drew = wq at *
                have hT6 := hT5.drew
                have hm0 : (0 : Int) ≤ (m : Int) := by omega
                have hm128 : (m : Int) ≤ 128 := by omega
                have C4 := R4.out _ hT6
                have K4 := Lib.hid C4
                have K6 := Lib.hid hT6
                clear C4 hT6 hT5
                go_region_held3 (fun _ => True) (trivial)
                  (first | (go_at_call 18; refine (K4.out).mono ?_; rintro e w7 ⟨rfl, hb7⟩))
                all_goals
                  have K7 := Lib.hid (K6.out.later hb7)
                  clear hb7
                  go_wp2
                  go_roundw
                  case rel => exact ⟨k + 1, by go_num, by omega, K7.out⟩
                  case measure => simp [RowKit.intOf]; omega
            · have hmf : decide ((m : Int) < 128) = false := by simp; omega
              have hx := HK.out m hm HALL.out (.inl (by omega))
              obtain ⟨X, hX⟩ : ∃ X, T.extract m 128 = X := ⟨_, rfl⟩
              rw [hX] at hx
              have hO := hx.symm
              clear hx
              have hT5 := HTM.out.drew
              go_wp2
              go_region
              go_wp2
              generalize wr.drew = wq at *
              have hT6 := hT5.drew
              have hm0 : (0 : Int) ≤ (m : Int) := by omega
              have hm128 : (m : Int) ≤ 128 := by omega
              have C4 := R4.out _ hT6
              have K4 := Lib.hid C4
              have K6 := Lib.hid hT6
              clear C4 hT6 hT5
              go_region_held3 (fun _ => True) (trivial)
                (first | (go_at_call 18; refine (K4.out).mono ?_; rintro e w7 ⟨rfl, hb7⟩))
              all_goals
                have K7 := Lib.hid (K6.out.later hb7)
                clear hb7
                go_wp2
                go_roundw
                case rel => exact ⟨k + 1, by go_num, by omega, K7.out⟩
                case measure => simp [RowKit.intOf]; omega
        · obtain rfl : k = 512 := by omega
          have hcc : crash (crash st x1) x2 = crash st x1 := order_nil x2 (List.eq_nil_iff_forall_not_mem.2 (fun i hi => by
            obtain ⟨c0, t0, h1, h2⟩ := order_mem.1 hi
            rw [crash_t st x1 h1] at h2
            cases h2))
          have ho := hT.one
          clear hT
          have hs2 := H2.out.kept ho.below
          have C15 := Lib.hid (copy_yes ho.dev)
          have HM := Lib.hid (fun (w2 w3 : World) (B' b' c' : Nat) (hc : Cp wr w2 B' b' c' (crash st x1)) (hd : Dv w3 B' b' c' (crash (crash st x1) x2)) (hk : Kp w2 w3 [b', c']) => Tw.made2 ho hc hd hk)
          have C16 := Lib.hid (fun (w2 : World) (B' b' c' : Nat) (hc : Cp wr w2 B' b' c' (crash st x1)) => crash_yes hc.dev (xs := x2) (hs2.kept (hc.below.mono ho.below.size)).sl)
          have HCC := Lib.hid hcc
          clear hs2 ho hcc
          go_wp2_with (first
            | (go_at_call 15; refine (C15.out).mono ?_; rintro e w5 ⟨B2, b2, c2, rfl, hc⟩)
            | (go_at_call 16; refine (C16.out w5 B2 b2 c2 hc).mono ?_; rintro e w6 ⟨rfl, hd, hk⟩))
          have hT := HM.out w5 w6 B2 b2 c2 hc hd hk
          rw [HCC.out] at hT
          have HT2 := Lib.hid hT
          clear hT hc hd hk C15 C16 HM
          go_loopw [18] (fun i wr => ∃ k : Nat, i = .int .i64 (k : Int) ∧ k ≤ 512 ∧ Tw W wr B2 b2 c2 (crash st x1) B b c (crash st x1)) (fun i _ => 512 - (RowKit.intOf i).toNat)
          case atStart => exact ⟨0, rfl, Nat.zero_le _, HT2.out⟩
          case round =>
            obtain ⟨q, rfl, hqn, hT⟩ := hrel
            by_cases hlt2 : q < 512
            · obtain ⟨cc, hcc⟩ : ∃ cc, (crash st x1)[q]? = some cc := ⟨_, List.getElem?_eq_getElem (by rw [crash_len]; omega)⟩
              obtain ⟨S, eS⟩ : ∃ S, bs cc.r = S := ⟨_, rfl⟩
              have R1 := Lib.hid (fun (wx : World) (h : Tw W wx B2 b2 c2 (crash st x1) B b c (crash st x1)) => (show Calls Try.prog 17 #[.pointer (some ⟨B, 0, none⟩), .int .i64 (q : Int)] wx fun e w' => e = .returned (.tuple #[.string S, .int .i64 0]) ∧ Below wx.heap.size wx w' by rw [← eS]; exact read_r h.two.dev q hcc _ rfl))
              have R2 := Lib.hid (fun (wx : World) (h : Tw W wx B2 b2 c2 (crash st x1) B b c (crash st x1)) => (show Calls Try.prog 17 #[.pointer (some ⟨B2, 0, none⟩), .int .i64 (q : Int)] wx fun e w' => e = .returned (.tuple #[.string S, .int .i64 0]) ∧ Below wx.heap.size wx w' by rw [← eS]; exact read_r h.one.dev q hcc _ rfl))
              clear hcc eS
              have hT1 := hT
              clear hT
              go_wp2_with (first
                | (go_at_call 17; with_reducible refine (R1.out _ hT1).mono ?_; rintro e w4 ⟨rfl, hb⟩; (have hT2 := hT1.later hb); clear hb hT1)
                | (go_at_call 17; with_reducible refine (R2.out _ hT2).mono ?_; rintro e w5 ⟨rfl, hb⟩; (have hT3 := hT2.later hb); clear hb hT2))
              go_roundw
              case rel => exact ⟨q + 1, by go_num, by omega, hT3⟩
              case measure => simp [RowKit.intOf]; omega
            · have hwt := waiting_yes hT.two.dev
              rw [crash_waits] at hwt
              have HW := Lib.hid hwt
              have HB := Lib.hid hT.two.below
              clear hwt hT
              go_wp2_with (first
                | (go_at_call 19; refine (HW.out).mono ?_; rintro e w7 ⟨rfl, rfl⟩)
                | (go_at_call 10; refine (works_any _).mono ?_; rintro e w8 ⟨rfl, hb8⟩))
              go_ret
              exact ⟨rfl, HB.out.trans (hb8.mono HB.out.size)⟩
end Go.Proofs.Ytolbegjjakobeaa
