/- The law MetaBack. Conditions: numbers of their kinds. -/
import Derived.Test.YtoeaclfbmppnmaaFr
namespace Go.Proofs.Ytoeaclfbmppnmaa
open Go.ChangeShapes Go.WideShapes Go.RowKit Go.Codec Go.Num Go.Mt
set_option maxRecDepth 100000
set_option linter.unusedSimpArgs false
set_option linter.unusedVariables false
theorem Fr.two (w : World) (t t' : TypeId) (a b : Array Value) : Fr w [(w.heap.size, t, a), (w.heap.size + 1, t', b)] ((w.alloc (.cells a t)).alloc (.cells b t')) := by
  have h := ((Fr.nil w).new t a).new t' b
  simpa using h
theorem Fr.three (w : World) (t t' t2 : TypeId) (a b c : Array Value) : Fr w [(w.heap.size, t, a), (w.heap.size + 1, t', b), (w.heap.size + 1 + 1, t2, c)] (((w.alloc (.cells a t)).alloc (.cells b t')).alloc (.cells c t2)) := by
  have h := (((Fr.nil w).new t a).new t' b).new t2 c
  simpa using h
set_option maxHeartbeats 4000000 in
theorem back_long (k sz mk st wh n op b : Nat) (s : ByteArray) (hs : (1000 : Int) < (s.size : Int)) (w : World) :
    Calls Try.prog 7 #[.agg #[.int .u8 k, .int .u32 sz, .int .u64 mk, .int .u64 st], .agg #[.int .u8 wh, .int .u64 n, .int .u8 op, .int .u64 b], .string s] w fun e w' => e = .returned (.bool true) ∧ Below w.heap.size w w' := by
  have HX := Lib.hid (((Fr.nil w).new 25 #[.int .u8 k, .int .u32 sz, .int .u64 mk, .int .u64 st]).new 41 #[.int .u8 wh, .int .u64 n, .int .u8 op, .int .u64 b])
  go_enter Try.func7, Try.ntmps7
  go_wp2_with fail
  refine (awake_any _).mono ?_; rintro e w1 ⟨rfl, hb⟩
  replace HX := Lib.hid (HX.out.later hb)
  go_wp2_with fail
  go_ret
  exact ⟨rfl, HX.out.below⟩
set_option maxHeartbeats 16000000 in
theorem back_core (k sz mk st wh n op b : Nat) (s : ByteArray) (hs : ¬ (1000 : Int) < (s.size : Int)) (T1 T2 : ByteArray) (E1 F1 G1 H1 E2 F2 X0 X1 X2 X3 Y0 Y1 Y2 Y3 V0 V1 V2 V3 U0 U1 U2 U3 : Nat) (w : World)
    (P1 : Hid (∀ w, Calls Try.prog 10 #[.agg #[.int .u8 k, .int .u32 sz, .int .u64 mk, .int .u64 st]] w fun e w' => e = .returned (.tuple #[.string T1, .int .i64 E1]) ∧ Below w.heap.size w w'))
    (K1 : Hid (∀ w, Calls Try.prog 12 #[.string T1] w fun e w' => e = .returned (.tuple #[.agg #[.int .u8 X0, .int .u32 X1, .int .u64 X2, .int .u64 X3], .int .i64 F1]) ∧ Below w.heap.size w w'))
    (P2 : Hid (∀ w, Calls Try.prog 15 #[.agg #[.int .u8 wh, .int .u64 n, .int .u8 op, .int .u64 b]] w fun e w' => e = .returned (.tuple #[.string T2, .int .i64 G1]) ∧ Below w.heap.size w w'))
    (K2 : Hid (∀ w, Calls Try.prog 18 #[.string T2] w fun e w' => e = .returned (.tuple #[.agg #[.int .u8 Y0, .int .u64 Y1, .int .u8 Y2, .int .u64 Y3], .int .i64 H1]) ∧ Below w.heap.size w w'))
    (K3 : Hid (∀ w, Calls Try.prog 12 #[.string s] w fun e w' => e = .returned (.tuple #[.agg #[.int .u8 V0, .int .u32 V1, .int .u64 V2, .int .u64 V3], .int .i64 E2]) ∧ Below w.heap.size w w'))
    (K4 : Hid (∀ w, Calls Try.prog 18 #[.string s] w fun e w' => e = .returned (.tuple #[.agg #[.int .u8 U0, .int .u64 U1, .int .u8 U2, .int .u64 U3], .int .i64 F2]) ∧ Below w.heap.size w w'))
    (D1 : Hid (E1 = 0 ∧ F1 = 0 ∧ X0 = k ∧ X1 = sz ∧ X2 = mk ∧ X3 = st ∨ E1 = 4))
    (D2 : Hid (G1 = 0 ∧ H1 = 0 ∧ Y0 = wh ∧ Y1 = n ∧ Y2 = op ∧ Y3 = b ∨ G1 = 4))
    (D3 : Hid (E2 = 0 ∧ ((F2 : Int) == 0) = false ∧ ((F2 : Int) != 0) = true ∧ (∀ w, Calls Try.prog 10 #[.agg #[.int .u8 V0, .int .u32 V1, .int .u64 V2, .int .u64 V3]] w fun e w' => e = .returned (.tuple #[.string s, .int .i64 0]) ∧ Below w.heap.size w w')
      ∨ (((E2 : Int) == 0) = false ∧ ((E2 : Int) != 0) = true) ∧ (F2 = 0 ∧ (∀ w, Calls Try.prog 15 #[.agg #[.int .u8 U0, .int .u64 U1, .int .u8 U2, .int .u64 U3]] w fun e w' => e = .returned (.tuple #[.string s, .int .i64 0]) ∧ Below w.heap.size w w') ∨ ((F2 : Int) == 0) = false))) :
    Calls Try.prog 7 #[.agg #[.int .u8 k, .int .u32 sz, .int .u64 mk, .int .u64 st], .agg #[.int .u8 wh, .int .u64 n, .int .u8 op, .int .u64 b], .string s] w fun e w' => e = .returned (.bool true) ∧ Below w.heap.size w w' := by
  have hp : Fr w [(w.heap.size, 25, #[.int .u8 k, .int .u32 sz, .int .u64 mk, .int .u64 st]), (w.heap.size + 1, 41, #[.int .u8 wh, .int .u64 n, .int .u8 op, .int .u64 b])] _ := Fr.two w 25 41 #[.int .u8 k, .int .u32 sz, .int .u64 mk, .int .u64 st] #[.int .u8 wh, .int .u64 n, .int .u8 op, .int .u64 b]
  have HP := Lib.hid hp; clear hp
  have HE := neM
  have HE2 := neC
  go_enter Try.func7, Try.ntmps7
  go_wp2_with fail
  refine (P1.out _).mono ?_; rintro e w1 ⟨rfl, hb⟩
  replace HP := Lib.hid (HP.out.later hb); clear hb
  go_wp2_with fail
  refine (K1.out _).mono ?_; rintro e w2 ⟨rfl, hb⟩
  replace HP := Lib.hid ((HP.out.later hb).new 25 #[.int .u8 X0, .int .u32 X1, .int .u64 X2, .int .u64 X3]); clear hb
  obtain ⟨c0, c1, c2, c3⟩ := HP.out.c4 1 rfl
  go_wp2_with fail
  clear c0 c1 c2 c3
  refine (P2.out _).mono ?_; rintro e w3 ⟨rfl, hb⟩
  replace HP := Lib.hid (HP.out.later hb); clear hb
  go_wp2_with fail
  refine (K2.out _).mono ?_; rintro e w4 ⟨rfl, hb⟩
  replace HP := Lib.hid ((HP.out.later hb).new 41 #[.int .u8 Y0, .int .u64 Y1, .int .u8 Y2, .int .u64 Y3]); clear hb
  go_upto_region 7 with fail
  generalize w4.alloc _ = w5 at *
  go_cut [62] from 15 (fun v wx => v = .bool false ∧ Fr w [(w.heap.size, 25, #[.int .u8 k, .int .u32 sz, .int .u64 mk, .int .u64 st]), (w.heap.size + 1, 41, #[.int .u8 wh, .int .u64 n, .int .u8 op, .int .u64 b]), (w2.heap.size, 25, #[.int .u8 X0, .int .u32 X1, .int .u64 X2, .int .u64 X3]), (w4.heap.size, 41, #[.int .u8 Y0, .int .u64 Y1, .int .u8 Y2, .int .u64 Y3])] wx)
  case first =>
    obtain ⟨a0, a1, a2, a3⟩ := HP.out.c4 0 rfl
    obtain ⟨b0, b1, b2, b3⟩ := HP.out.c4 1 rfl
    obtain ⟨c0, c1, c2, c3⟩ := HP.out.c4 2 rfl
    obtain ⟨d0, d1, d2, d3⟩ := HP.out.c4 3 rfl
    rcases D1.out with ⟨rfl, rfl, rfl, rfl, rfl, rfl⟩ | rfl
    all_goals
      rcases D2.out with ⟨rfl, rfl, rfl, rfl, rfl, rfl⟩ | rfl
      all_goals
        go_wp2_with fail
        go_meet
        case rel => exact ⟨rfl, HP.out⟩
  case rest =>
    obtain ⟨rfl, hp⟩ := hcut
    clear HP
    have HP := Lib.hid hp; clear hp
    go_wp2_with fail
    refine (K3.out _).mono ?_; rintro e w6 ⟨rfl, hb⟩
    replace HP := Lib.hid (HP.out.later hb); clear hb
    obtain ⟨c0, c1, c2, c3⟩ := HP.out.c4 2 rfl
    obtain ⟨⟨f0, f1, f2, f3⟩, hl⟩ := HP.out.f4 2 rfl
    go_wp2_with fail
    clear c0 c1 c2 c3 f0 f1 f2 f3 hl
    replace HP := Lib.hid (HP.out.four 2 rfl (.int .u8 V0) (.int .u32 V1) (.int .u64 V2) (.int .u64 V3))
    refine (K4.out _).mono ?_; rintro e w7 ⟨rfl, hb⟩
    replace HP := Lib.hid (HP.out.later hb); clear hb
    obtain ⟨c0, c1, c2, c3⟩ := HP.out.c4 3 rfl
    obtain ⟨⟨f0, f1, f2, f3⟩, hl⟩ := HP.out.f4 3 rfl
    have HQ := Lib.hid (HP.out.four 3 rfl (.int .u8 U0) (.int .u64 U1) (.int .u8 U2) (.int .u64 U3))
    rcases D3.out with ⟨rfl, hF, hF', hP⟩ | ⟨⟨hE, hE'⟩, hD⟩
    · obtain ⟨d0, d1, d2, d3⟩ := HQ.out.c4 2 rfl
      have hl2 := (HQ.out.f4 2 rfl).2
      go_wp2_with fail
      clear c0 c1 c2 c3 f0 f1 f2 f3 hl d0 d1 d2 d3 hl2
      refine (hP _).mono ?_; rintro e w8 ⟨rfl, hb⟩
      replace HQ := Lib.hid (HQ.out.later hb); clear hb
      go_wp2_with fail
      refine (awake_any _).mono ?_; rintro e w9 ⟨rfl, hb⟩
      replace HQ := Lib.hid (HQ.out.later hb); clear hb
      go_wp2_with fail
      go_ret
      exact ⟨rfl, HQ.out.below⟩
    · rcases hD with ⟨rfl, hP⟩ | hF
      · obtain ⟨d0, d1, d2, d3⟩ := HQ.out.c4 3 rfl
        have hl2 := (HQ.out.f4 3 rfl).2
        go_wp2_with fail
        clear c0 c1 c2 c3 f0 f1 f2 f3 hl d0 d1 d2 d3 hl2
        refine (hP _).mono ?_; rintro e w8 ⟨rfl, hb⟩
        replace HQ := Lib.hid (HQ.out.later hb); clear hb
        go_wp2_with fail
        refine (awake_any _).mono ?_; rintro e w9 ⟨rfl, hb⟩
        replace HQ := Lib.hid (HQ.out.later hb); clear hb
        go_wp2_with fail
        go_ret
        exact ⟨rfl, HQ.out.below⟩
      · go_wp2_with fail
        refine (awake_any _).mono ?_; rintro e w9 ⟨rfl, hb⟩
        replace HQ := Lib.hid (HQ.out.later hb); clear hb
        go_wp2_with fail
        go_ret
        exact ⟨rfl, HQ.out.below⟩
theorem back_any (k sz mk st wh n op b : Nat) (hk : k < 256) (hz : sz < 4294967296) (hm : mk < 18446744073709551616) (hst : st < 18446744073709551616) (hn : n < 18446744073709551616) (ho : op < 256) (hb : b < 18446744073709551616) (s : ByteArray) (w : World) :
    Calls Try.prog 7 #[.agg #[.int .u8 k, .int .u32 sz, .int .u64 mk, .int .u64 st], .agg #[.int .u8 wh, .int .u64 n, .int .u8 op, .int .u64 b], .string s] w fun e w' => e = .returned (.bool true) ∧ Below w.heap.size w w' := by
  by_cases hs : (1000 : Int) < (s.size : Int)
  · exact back_long k sz mk st wh n op b s hs w
  have hl : ∀ l, bs l = bs l := fun _ => rfl
  have hp1 : (putM k sz mk st).length ≤ 21 := by
    unfold putM
    split
    · rw [textM_len]; omega
    · simp
  have hp2 : (putC wh n op b).length ≤ 10 := by
    unfold putC
    split
    · rename_i h
      rw [(textC_nums hn ho hb h).1]
      unfold long; split <;> (try split) <;> omega
    · simp
  refine back_core k sz mk st wh n op b s hs _ _ _ _ _ _ _ _ _ _ _ _ _ _ _ _ _ _ _ _ _ _ _ _ w (Lib.hid fun w => put_any k sz mk st hk hm w) (Lib.hid fun w => take_any _ (by rw [bs_size]; omega) w) (Lib.hid fun w => putChange_any wh n op b ho w) (Lib.hid fun w => takeChange_any _ _ (bs_list _) (by rw [bs_size]; omega) w)
    (Lib.hid fun w => take_any s (by omega) w) (Lib.hid fun w => takeChange_any s _ rfl (by omega) w) ?_ ?_ ?_
  · rw [bs_list]
    cases h : mayM k sz mk with
    | false => exact Lib.hid (.inr (by simp [ckM, h]))
    | true =>
      have e : putM k sz mk st = textM k sz mk st := by simp [putM, h]
      obtain ⟨e0, e1, e2, e3⟩ := textM_nums hk hz hm hst
      rw [e, take_put hk hz hm hst h, e0, e1, e2, e3]
      exact Lib.hid (.inl ⟨by simp [ckM, h], rfl, rfl, rfl, rfl, rfl⟩)
  · cases h : mayC wh n op b with
    | false => exact Lib.hid (.inr (by simp [ckC, h]))
    | true =>
      have e : putC wh n op b = textC wh n op b := by simp [putC, h]
      obtain ⟨-, -, e0, e1, e2, e3⟩ := textC_nums hn ho hb h
      rw [e, take_putC hn ho hb h, e0, e1, e2, e3]
      exact Lib.hid (.inl ⟨by simp [ckC, h], rfl, rfl, rfl, rfl, rfl⟩)
  · generalize hl : s.data.toList = l
    by_cases h1 : takeE l = 0
    · obtain ⟨hlen, hmay⟩ := Go.Mt.take_ok h1
      have h2 : takeCE l ≠ 0 := fun h2 => by have := (textC_take h2).2.2; omega
      refine Lib.hid (.inl ⟨h1, by simp; omega, by simp; omega, ?_⟩)
      rw [h1]
      have P := fun w => put_any (num l 0 1) (num l 1 5) (num l 5 13) (num l 13 21) (num1 l 0) (num8 l 5) w
      have e : putM (num l 0 1) (num l 1 5) (num l 5 13) (num l 13 21) = l := by rw [putM, hmay, if_pos rfl, text_take hlen]
      have e2 : ckM (num l 0 1) (num l 1 5) (num l 5 13) = 0 := by simp [ckM, hmay]
      rw [e, e2, ← hl, list_bs] at P
      rw [← hl]
      exact P
    · refine Lib.hid (.inr ⟨⟨by simp; omega, by simp; omega⟩, ?_⟩)
      by_cases h2 : takeCE l = 0
      · obtain ⟨e, hmay, -⟩ := textC_take h2
        refine .inl ⟨h2, ?_⟩
        rw [h2]
        have ho : cOp l (num l 0 1) < 256 := by
          unfold cOp
          split
          · exact num1 l 1
          · omega
        have P := fun w => putChange_any (num l 0 1) (cN l (num l 0 1)) (cOp l (num l 0 1)) (cBy l (num l 0 1)) ho w
        have e1 : putC (num l 0 1) (cN l (num l 0 1)) (cOp l (num l 0 1)) (cBy l (num l 0 1)) = l := by rw [putC, hmay, if_pos rfl, e]
        have e2 : ckC (num l 0 1) (cN l (num l 0 1)) (cOp l (num l 0 1)) (cBy l (num l 0 1)) = 0 := by simp [ckC, hmay]
        rw [e1, e2] at P
        have e3 : bs l = s := by rw [← hl, list_bs]
        rw [e3] at P
        exact P
      · exact .inr (by simp; omega)
end Go.Proofs.Ytoeaclfbmppnmaa
