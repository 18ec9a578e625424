/- DeviceApart. Conditions: none. -/
import Derived.Test.YtolbegjjakobeaaDvO
namespace Go.Proofs.Ytolbegjjakobeaa
open Go.ChangeShapes Go.WideShapes Go.RowKit Go.Maps
set_option maxRecDepth 100000
theorem bs_ne {l m : List UInt8} (h : l ≠ m) : bs l ≠ bs m := fun e => h (by
  have := congrArg (fun x : ByteArray => x.data.toList) e
  simpa [bs] using this)
set_option maxHeartbeats 8000000 in
theorem apart_law (A : Option Addr) (l : List Ac) (cap : Nat) (hl : l.length ≤ maxLen) (a : Nat) (s : ByteArray) (W : World) (i0 : Acts W W.heap.size A l) :
    Calls Try.prog 5 #[.slice A l.length cap, .int .u16 (a : Int), .string s] W fun e w' => e = .returned (.bool true) ∧ Below W.heap.size W w' := by
  have hfew := fun (w1 : World) (hb : Below W.heap.size W w1) => few_any A l cap hl w1 W.heap.size (i0.kept hb)
  have HF := Lib.hid hfew
  have HA := Lib.hid i0
  clear hfew i0
  obtain ⟨n, hn⟩ : ∃ n, l.length = n := ⟨_, rfl⟩
  have HN := Lib.hid hn
  rw [hn]
  rw [hn] at HF
  clear hn hl
  obtain ⟨p, hp⟩ : ∃ p, a % 512 = p := ⟨_, rfl⟩
  have hp5 : p < 512 := by omega
  have ha : (a : Int).tmod 512 = (p : Int) := by rw [← hp]; rfl
  have HP := Lib.hid hp
  clear hp
  by_cases hs : 128 < s.size
  · go_enter Try.func5, Try.ntmps5
    go_wp2_with (first
      | (go_at_call 7; refine (new512 W).mono ?_; rintro e w1 ⟨B, b, c, rfl, ho⟩)
      | (go_at_call 9; refine (HF.out w1 ho.below).mono ?_; rintro e w2 ⟨q, rfl, rfl, hq⟩; clear hq)
      | (go_at_call 10; refine (works_any _).mono ?_; rintro e w2 ⟨rfl, hb⟩))
    all_goals
      go_ret
      exact ⟨rfl, ho.below.trans (hb.mono ho.below.size)⟩
  · have hsd : decide (128 < (s.size : Int)) = false := by simp; omega
    have HS := Lib.hid hs
    clear hs
    go_enter Try.func5, Try.ntmps5
    go_wp2_with (first
      | (go_at_call 7; refine (new512 W).mono ?_; rintro e w1 ⟨B, b, c, rfl, ho⟩)
      | (go_at_call 9; refine (HF.out w1 ho.below).mono ?_; rintro e w2 ⟨q, rfl, rfl, hq⟩)
      | (go_at_call 10; refine (works_any _).mono ?_; rintro e w2 ⟨rfl, hb⟩))
    all_goals first
      | (go_ret; exact ⟨rfl, ho.below.trans (hb.mono ho.below.size)⟩)
      | skip
    have hn60 : n ≤ 60 := by have := hq (by assumption); unfold Few at this; rw [← HN.out]; exact this
    clear hq
    have hdd : Dd W w1 (.pointer (some ⟨B, 0, none⟩)) := ⟨B, b, c, _, rfl, ho, fresh_len _⟩
    have HD := Lib.hid hdd
    clear hdd ho
    go_loopw [7, 8] (fun d i wr => ∃ k : Nat, i = .int .i64 (k : Int) ∧ k ≤ n ∧ Dd W wr d) (fun _ i _ => n - (RowKit.intOf i).toNat)
    case atStart => exact ⟨0, rfl, Nat.zero_le _, HD.out⟩
    case round =>
      obtain ⟨k, rfl, hkn, hd⟩ := hrel
      by_cases hlt : k < n
      · obtain ⟨x, hx⟩ : ∃ x, l[k]? = some x := ⟨_, List.getElem?_eq_getElem (by rw [HN.out]; exact hlt)⟩
        have hbw : Below W.heap.size W wr := by obtain ⟨_, _, _, _, _, h, _⟩ := hd; exact h.below
        obtain ⟨hsw, ad, rfl, -, c0, c1, c2, c3, c4⟩ := (HA.out.kept hbw) k x hx
        have hdo := do_dd hd x hsw
        unfold Ac.cells at hdo
        have HDO := Lib.hid hdo
        clear hdo hsw hd hx
        go_wp2_with (go_at_call 11; refine (HDO.out).mono ?_; rintro e w2 ⟨v', er, rfl, hd2, hb2⟩)
        go_roundw
        case rel => exact ⟨k + 1, by go_num, by omega, hd2⟩
        case measure => simp [RowKit.intOf]; omega
      · obtain rfl : k = n := by omega
        obtain ⟨B, b, c, st, rfl, ho, hst⟩ := hd
        obtain ⟨cp, hcp⟩ : ∃ cp, st[p]? = some cp := ⟨_, List.getElem?_eq_getElem (by omega)⟩
        obtain ⟨F, eF⟩ : ∃ F, full s.data.toList = F := ⟨_, rfl⟩
        have cF := fun w => full_any s (by have := HS.out; omega) w
        have C15 := Lib.hid (copy_yes ho.dev)
        have C20 := Lib.hid (fun (w2 : World) (B' b' c' : Nat) (hc : Cp wr w2 B' b' c' st) => write_in hc.dev hcp s (by have := HS.out; omega))
        have HM := Lib.hid (fun (w2 w3 : World) (B' b' c' : Nat) (hc : Cp wr w2 B' b' c' st) (hd : Dv w3 B' b' c' (st.set p ⟨cp.s, some (full s.data.toList)⟩)) (hk : Kp w2 w3 [c']) => Tw.made2 ho hc hd (hk.more (by simp)))
        have HU := Lib.hid (fun (w2 : World) (B' b' c' : Nat) (hc : Cp wr w2 B' b' c' st) => (show (B ≠ b' ∧ B ≠ c') ∧ (b ≠ b' ∧ b ≠ c') ∧ (c ≠ b' ∧ c ≠ c') by have := hc.new; have := ho.dev.lt; have := ho.dev.lts; have := ho.dev.ltw; omega))
        rw [eF] at C20 HM cF
        have CF := Lib.hid cF
        have HST := Lib.hid hst
        have HCP := Lib.hid hcp
        clear ho hst hcp eF cF
        go_wp2_with (first
          | (go_at_call 15; refine (C15.out).mono ?_; rintro e w2 ⟨B', b', c', rfl, hc⟩)
          | (go_at_call 20; refine (C20.out w2 B' b' c' hc).mono ?_; rintro e w3 ⟨rfl, hd, hk⟩))
        have hT := HM.out w2 w3 B' b' c' hc hd hk
        have HT := Lib.hid hT
        have HUU := Lib.hid (HU.out w2 B' b' c' hc)
        clear hT hc hd hk C15 C20 HM HU
        have hstp : (st.set p ⟨cp.s, some F⟩)[p]? = some ⟨cp.s, some F⟩ := List.getElem?_set_self (by rw [HST.out]; exact hp5)
        have HSP := Lib.hid hstp
        clear hstp
        go_loopw [11] (fun i wr => ∃ k : Nat, i = .int .i64 (k : Int) ∧ k ≤ 512 ∧ Tw W wr B' b' c' (st.set p ⟨cp.s, some F⟩) B b c st) (fun i _ => 512 - (RowKit.intOf i).toNat)
        case atStart => exact ⟨0, rfl, Nat.zero_le _, HT.out⟩
        case round =>
          obtain ⟨j, rfl, hjn, hT⟩ := hrel
          by_cases hlt2 : j < 512
          · by_cases hjp : j = p
            · subst hjp
              obtain ⟨S, eS⟩ : ∃ S, bs cp.r = S := ⟨_, rfl⟩
              obtain ⟨U, eU⟩ : ∃ U, bs F = U := ⟨_, rfl⟩
              obtain ⟨O, eO⟩ : ∃ O, bs cp.s = O := ⟨_, rfl⟩
              have R1 := Lib.hid (fun (wx : World) (h : Tw W wx B' b' c' (st.set j ⟨cp.s, some F⟩) B b c st) => (show Calls Try.prog 17 #[.pointer (some ⟨B, 0, none⟩), .int .i64 (j : Int)] wx fun e w' => e = .returned (.tuple #[.string S, .int .i64 0]) ∧ Below wx.heap.size wx w' from by rw [← eS]; exact read_r h.two.dev j HCP.out _ rfl))
              have R2 := Lib.hid (fun (wx : World) (h : Tw W wx B' b' c' (st.set j ⟨cp.s, some F⟩) B b c st) => (show Calls Try.prog 17 #[.pointer (some ⟨B', 0, none⟩), .int .i64 (j : Int)] wx fun e w' => e = .returned (.tuple #[.string U, .int .i64 0]) ∧ Below wx.heap.size wx w' from by rw [← eU]; exact read_r h.one.dev j HSP.out _ rfl))
              have R3 := Lib.hid (fun (wx : World) (h : Tw W wx B' b' c' (st.set j ⟨cp.s, some F⟩) B b c st) => (show Calls Try.prog 18 #[.pointer (some ⟨B', 0, none⟩), .int .i64 (j : Int)] wx fun e w' => e = .returned (.string O) ∧ Below wx.heap.size wx w' from by rw [← eO]; exact sure_r h.one.dev j HSP.out _ rfl))
              have R4 := Lib.hid (fun (wx : World) (h : Tw W wx B' b' c' (st.set j ⟨cp.s, some F⟩) B b c st) => (show Calls Try.prog 18 #[.pointer (some ⟨B, 0, none⟩), .int .i64 (j : Int)] wx fun e w' => e = .returned (.string O) ∧ Below wx.heap.size wx w' from by rw [← eO]; exact sure_r h.two.dev j HCP.out _ rfl))
              have CFU := Lib.hid (fun (wx : World) => (show Calls Try.prog 21 #[.string s] wx fun e w' => e = .returned (.string U) ∧ Below wx.heap.size wx w' from by rw [← eU]; exact CF.out wx))
              clear eS eU eO
              have hT1 := hT
              clear hT
              go_wp2_with (first
                | (go_at_call 17; with_reducible refine (R1.out _ hT1).mono ?_; rintro e w4 ⟨rfl, hb⟩; (have hT2 := hT1.later hb); clear hb hT1)
                | (go_at_call 17; with_reducible refine (R2.out _ hT2).mono ?_; rintro e w5 ⟨rfl, hb⟩; (have hT3 := hT2.later hb); clear hb hT2)
                | (go_at_call 21; with_reducible refine (CFU.out _).mono ?_; rintro e w6 ⟨rfl, hb⟩; (have hT4 := hT3.later hb); clear hb hT3)
                | (go_at_call 18; with_reducible refine (R3.out _ hT4).mono ?_; rintro e w7 ⟨rfl, hb⟩; (have hT5 := hT4.later hb); clear hb hT4)
                | (go_at_call 18; with_reducible refine (R4.out _ hT5).mono ?_; rintro e w8 ⟨rfl, hb⟩; (have hT6 := hT5.later hb); clear hb hT5))
              go_roundw
              case rel => exact ⟨j + 1, by go_num, by omega, hT6⟩
              case measure => simp [RowKit.intOf]; omega
            · have hne : ((j : Int) == (p : Int)) = false := by rw [beq_eq_false_iff_ne]; omega
              have hne' : ((j : Int) != (p : Int)) = true := by rw [bne, hne]; rfl
              obtain ⟨cc, hcc⟩ : ∃ cc, st[j]? = some cc := ⟨_, List.getElem?_eq_getElem (by rw [HST.out]; exact hlt2)⟩
              have hcc2 : (st.set p ⟨cp.s, some F⟩)[j]? = some cc := by rw [List.getElem?_set_ne (fun e => hjp e.symm)]; exact hcc
              obtain ⟨S, eS⟩ : ∃ S, bs cc.r = S := ⟨_, rfl⟩
              obtain ⟨O, eO⟩ : ∃ O, bs cc.s = O := ⟨_, rfl⟩
              have R1 := Lib.hid (fun (wx : World) (h : Tw W wx B' b' c' (st.set p ⟨cp.s, some F⟩) B b c st) => (show Calls Try.prog 17 #[.pointer (some ⟨B, 0, none⟩), .int .i64 (j : Int)] wx fun e w' => e = .returned (.tuple #[.string S, .int .i64 0]) ∧ Below wx.heap.size wx w' from by rw [← eS]; exact read_r h.two.dev j hcc _ rfl))
              have R2 := Lib.hid (fun (wx : World) (h : Tw W wx B' b' c' (st.set p ⟨cp.s, some F⟩) B b c st) => (show Calls Try.prog 17 #[.pointer (some ⟨B', 0, none⟩), .int .i64 (j : Int)] wx fun e w' => e = .returned (.tuple #[.string S, .int .i64 0]) ∧ Below wx.heap.size wx w' from by rw [← eS]; exact read_r h.one.dev j hcc2 _ rfl))
              have R3 := Lib.hid (fun (wx : World) (h : Tw W wx B' b' c' (st.set p ⟨cp.s, some F⟩) B b c st) => (show Calls Try.prog 18 #[.pointer (some ⟨B', 0, none⟩), .int .i64 (j : Int)] wx fun e w' => e = .returned (.string O) ∧ Below wx.heap.size wx w' from by rw [← eO]; exact sure_r h.one.dev j hcc2 _ rfl))
              have R4 := Lib.hid (fun (wx : World) (h : Tw W wx B' b' c' (st.set p ⟨cp.s, some F⟩) B b c st) => (show Calls Try.prog 18 #[.pointer (some ⟨B, 0, none⟩), .int .i64 (j : Int)] wx fun e w' => e = .returned (.string O) ∧ Below wx.heap.size wx w' from by rw [← eO]; exact sure_r h.two.dev j hcc _ rfl))
              clear eS eO hcc hcc2
              have hT1 := hT
              clear hT
              go_wp2_with (first
                | (go_at_call 17; with_reducible refine (R1.out _ hT1).mono ?_; rintro e w4 ⟨rfl, hb⟩; (have hT2 := hT1.later hb); clear hb hT1)
                | (go_at_call 17; with_reducible refine (R2.out _ hT2).mono ?_; rintro e w5 ⟨rfl, hb⟩; (have hT4 := hT2.later hb); clear hb hT2)
                | (go_at_call 18; with_reducible refine (R3.out _ hT4).mono ?_; rintro e w7 ⟨rfl, hb⟩; (have hT5 := hT4.later hb); clear hb hT4)
                | (go_at_call 18; with_reducible refine (R4.out _ hT5).mono ?_; rintro e w8 ⟨rfl, hb⟩; (have hT6 := hT5.later hb); clear hb hT5))
              go_roundw
              case rel => exact ⟨j + 1, by go_num, by omega, hT6⟩
              case measure => simp [RowKit.intOf]; omega
          · have hbarp : (bar (st.set p ⟨cp.s, some F⟩))[p]? = some ⟨F, none⟩ := by unfold bar; rw [List.getElem?_map, HSP.out]; rfl
            obtain ⟨S, eS⟩ : ∃ S, bs cp.r = S := ⟨_, rfl⟩
            obtain ⟨U, eU⟩ : ∃ U, bs F = U := ⟨_, rfl⟩
            have R1 := Lib.hid (fun (wx : World) (h : Own W wx B b c st) => (show Calls Try.prog 17 #[.pointer (some ⟨B, 0, none⟩), .int .i64 (p : Int)] wx fun e w' => e = .returned (.tuple #[.string S, .int .i64 0]) ∧ Below wx.heap.size wx w' from by rw [← eS]; exact read_r h.dev p HCP.out _ rfl))
            have R2 := Lib.hid (fun (wx : World) (h : Own W wx B' b' c' (st.set p ⟨cp.s, some F⟩)) => barrier_yes h.dev)
            have R3 := Lib.hid (fun (wx : World) (h : Own W wx B' b' c' (bar (st.set p ⟨cp.s, some F⟩))) => (show Calls Try.prog 18 #[.pointer (some ⟨B', 0, none⟩), .int .i64 (p : Int)] wx fun e w' => e = .returned (.string U) ∧ Below wx.heap.size wx w' from by rw [← eU]; exact sure_r h.dev p hbarp _ rfl))
            have CFU := Lib.hid (fun (wx : World) => (show Calls Try.prog 21 #[.string s] wx fun e w' => e = .returned (.string U) ∧ Below wx.heap.size wx w' from by rw [← eU]; exact CF.out wx))
            have hkeep := fun (w1 w2 : World) (h1 : Own W w1 B' b' c' (st.set p ⟨cp.s, some F⟩)) (h2 : Own W w1 B b c st) (hd : Dv w2 B' b' c' (bar (st.set p ⟨cp.s, some F⟩))) (hk : Kp w1 w2 [b', c']) => (show Own W w2 B' b' c' (bar (st.set p ⟨cp.s, some F⟩)) ∧ Own W w2 B b c st from
              have h3 := h1.step hd hk (fun x hx => by simpa using hx)
              have u := HUU.out
              ⟨h3, h2.dev.kept hk (by simp; omega) (by simp; omega) (by simp; omega), h3.below, h2.new⟩)
            have HKP := Lib.hid hkeep
            have ho1 := hT.one
            have ho2 := hT.two
            clear hkeep eS eU hbarp hT
            go_wp2_with (first
              | (go_at_call_of 17 (Value.pointer (some ⟨B, 0, none⟩)); with_reducible refine (R1.out _ ho2).mono ?_; rintro e w4 ⟨rfl, hb⟩; (replace ho1 := ho1.later hb); (replace ho2 := ho2.later hb); clear hb)
              | (go_at_call 22; with_reducible refine (R2.out _ ho1).mono ?_; rintro e w5 ⟨rfl, hd, hk⟩; (obtain ⟨hx1, hx2⟩ := HKP.out _ _ ho1 ho2 hd hk); clear hd hk ho1 ho2; (have ho3 := hx1); (have ho2 := hx2); (have ho1 := hx1); clear hx1 hx2)
              | (go_at_call 18; with_reducible refine (R3.out _ ho1).mono ?_; rintro e w6 ⟨rfl, hb⟩; (replace ho1 := ho1.later hb); clear hb)
              | (go_at_call 21; with_reducible refine (CFU.out _).mono ?_; rintro e w7 ⟨rfl, hb⟩; (replace ho1 := ho1.later hb); clear hb)
              | (go_at_call 10; refine (works_any _).mono ?_; rintro e w8 ⟨rfl, hb8⟩))
            go_ret
            exact ⟨rfl, ho1.below.trans (hb8.mono ho1.below.size)⟩
end Go.Proofs.Ytolbegjjakobeaa
