/- The laws' helpers. Conditions: numbers of their kinds. -/
import Derived.Test.YtoeaclfbmppnmaaMtK
namespace Go.Proofs.Ytoeaclfbmppnmaa
open Go.ChangeShapes Go.WideShapes Go.RowKit Go.Codec Go.Num Go.Mt
set_option maxRecDepth 100000
set_option linter.unusedSimpArgs false
set_option linter.unusedVariables false
set_option maxHeartbeats 4000000 in
theorem theirs_any (wh n op b : Nat) (w : World) :
    Calls Try.prog 17 #[.agg #[.int .u8 wh, .int .u64 n, .int .u8 op, .int .u64 b]] w fun e w' => e = .returned (.agg #[.int .u8 wh, .int .u64 n, .int .u8 op, .int .u64 b]) ∧ Below w.heap.size w w' := by
  go_enter Try.func17, Try.ntmps17
  go_wp2
  exact bodyPost_ret (v := .agg #[.int .u8 wh, .int .u64 n, .int .u8 op, .int .u64 b]) (by simp [results, Try.results17, go_sem]) rfl ⟨rfl, below_alloc (below_alloc (Below.refl _ _) _) _⟩
set_option maxHeartbeats 4000000 in
theorem file_any (sz : Nat) (w : World) :
    Calls Try.prog 23 #[.int .u32 sz] w fun e w' => e = .returned (.agg #[.int .u8 1, .int .u32 sz, .int .u64 0, .int .u64 0]) ∧ Below w.heap.size w w' := by
  go_enter Try.func23, Try.ntmps23
  go_wp2
  exact bodyPost_ret (v := .agg #[.int .u8 1, .int .u32 sz, .int .u64 0, .int .u64 0]) (by simp [results, Try.results23, go_sem]) rfl ⟨rfl, below_alloc (Below.refl _ _) _⟩
theorem field1 (a : Value) (X : Int) (c d : Value) (w : World) : (Instr.field 25 (.agg #[a, .int .u32 X, c, d]) 1).run Try.prog w = .ok (.int .u32 X) w := by kernel_rfl
set_option maxHeartbeats 4000000 in
theorem does_any (wh n X : Nat) (hX : aSz 1 5 0 wh n 0 0 = X) (w : World) :
    Calls Try.prog 25 #[.int .u8 wh, .int .u64 n] w fun e w' => e = .returned (.int .u32 X) ∧ Below w.heap.size w w' := by
  have H := fun w => apply_any 1 5 0 0 wh n 0 0 (by omega) (by omega) w
  rw [hX] at H
  have HA := Lib.hid H; clear H
  have hf := field1
  go_enter Try.func25, Try.ntmps25
  go_wp2_with fail
  refine (file_any 5 _).mono ?_; rintro e w1 ⟨rfl, hb⟩
  go_wp2_with fail
  refine (HA.out _).mono ?_; rintro e w2 ⟨rfl, hb2⟩
  go_wp2_with fail
  go_ret
  exact ⟨rfl, hb.trans (hb2.mono hb.size)⟩
set_option maxHeartbeats 4000000 in
theorem none_no (k sz mk st : Nat) (hk : k < 256) (hm : mk < 18446744073709551616) (h : mayM k sz mk = false) (w : World) :
    Calls Try.prog 22 #[.agg #[.int .u8 k, .int .u32 sz, .int .u64 mk, .int .u64 st]] w fun e w' => e = .returned (.bool true) ∧ Below w.heap.size w w' := by
  have H1 := fun w => put_any k sz mk st hk hm w
  have H2 := fun w => check_any k sz mk st hm w
  have e1 : putM k sz mk st = [] := by simp [putM, h]
  have e2 : ckM k sz mk = 4 := by simp [ckM, h]
  rw [e1, bs_nil, e2] at H1
  rw [e2] at H2
  have HX := Lib.hid (Box.new w 25 #[.int .u8 k, .int .u32 sz, .int .u64 mk, .int .u64 st])
  clear e1 e2 h
  go_enter Try.func22, Try.ntmps22
  go_wp2_with fail
  refine (H1 _).mono ?_; rintro e w1 ⟨rfl, hb⟩
  replace HX := Lib.hid (HX.out.later hb)
  clear hb
  obtain ⟨c0, c1, c2, c3⟩ := HX.out.cells
  go_wp2_with fail
  refine (H2 _).mono ?_; rintro e w2 ⟨rfl, hb⟩
  replace HX := Lib.hid (HX.out.later hb)
  go_wp2_with fail
  go_ret
  exact ⟨rfl, HX.out.below⟩
set_option maxHeartbeats 4000000 in
theorem none_yes (k sz mk st : Nat) (hk : k < 256) (hm : mk < 18446744073709551616) (h : mayM k sz mk = true) (w : World) :
    Calls Try.prog 22 #[.agg #[.int .u8 k, .int .u32 sz, .int .u64 mk, .int .u64 st]] w fun e w' => e = .returned (.bool false) ∧ Below w.heap.size w w' := by
  have H1 := fun w => put_any k sz mk st hk hm w
  have e2 : ckM k sz mk = 0 := by simp [ckM, h]
  rw [e2] at H1
  obtain ⟨T, hT⟩ : ∃ T, bs (putM k sz mk st) = T := ⟨_, rfl⟩
  have hTs : T.size = 21 := by rw [← hT, bs_size]; simp [putM, h, textM, be_length]
  rw [hT] at H1
  have hne : (T.toList == []) = false := by
    rw [Lib.toList_data]
    rcases h : T.data.toList with _ | ⟨x, y⟩
    · rw [Lib.size_eq, h] at hTs; simp at hTs
    · rfl
  have hne2 : T.toList.isEmpty = false := by
    rcases h : T.toList with _ | ⟨x, y⟩
    · rw [h] at hne; simp at hne
    · rfl
  have HX := Lib.hid (Box.new w 25 #[.int .u8 k, .int .u32 sz, .int .u64 mk, .int .u64 st])
  clear e2 h hTs hT
  go_enter Try.func22, Try.ntmps22
  go_wp2_with fail
  refine (H1 _).mono ?_; rintro e w1 ⟨rfl, hb⟩
  replace HX := Lib.hid (HX.out.later hb)
  clear hb
  go_wp2_with fail
  go_ret
  exact ⟨rfl, HX.out.below⟩
set_option maxHeartbeats 4000000 in
theorem fails_any (s : ByteArray) (hs : s.size ≤ 1099511627776) (E : Nat) (hE : takeCE s.data.toList = E) (h0 : E ≠ 0) (w : World) :
    Calls Try.prog 24 #[.string s, .int .i64 E] w fun e w' => e = .returned (.bool true) ∧ Below w.heap.size w w' := by
  have H := fun w => takeChange_any s _ rfl hs w
  rw [hE] at H
  have z : ∀ n, okI E n = 0 := fun n => if_neg h0
  rw [z, z, z, z] at H
  have HE := eqC
  clear hE z
  go_enter Try.func24, Try.ntmps24
  go_wp2_with fail
  refine (H _).mono ?_; rintro e w1 ⟨rfl, hb⟩
  go_wp2_with fail
  go_ret
  exact ⟨by simp, below_alloc hb _⟩
def partN (wh : Nat) : Nat := if wh = 1 ∨ wh = 2 then 1 else if wh = 3 then 2 else 3
set_option maxHeartbeats 4000000 in
theorem part_any (wh n op b : Nat) (w : World) :
    Calls Try.prog 26 #[.agg #[.int .u8 wh, .int .u64 n, .int .u8 op, .int .u64 b]] w fun e w' => e = .returned (.int .i64 (partN wh : Nat)) ∧ Below w.heap.size w w' := by
  unfold partN
  by_cases h1 : wh = 1
  · subst h1
    go_enter Try.func26, Try.ntmps26
    go_wp2
    go_ret
    exact ⟨rfl, below_alloc (Below.refl _ _) _⟩
  by_cases h2 : wh = 2
  · subst h2
    go_enter Try.func26, Try.ntmps26
    go_wp2
    go_ret
    exact ⟨rfl, below_alloc (Below.refl _ _) _⟩
  by_cases h3 : wh = 3
  · subst h3
    go_enter Try.func26, Try.ntmps26
    go_wp2
    go_ret
    exact ⟨rfl, below_alloc (Below.refl _ _) _⟩
  have h1' : ((wh : Int) == 1) = false := by simp; omega
  have h2' : ((wh : Int) == 2) = false := by simp; omega
  have h3' : ((wh : Int) == 3) = false := by simp; omega
  rw [if_neg (by omega), if_neg h3]
  go_enter Try.func26, Try.ntmps26
  go_wp2
  go_ret
  exact ⟨rfl, below_alloc (Below.refl _ _) _⟩
theorem later2 {a b c : World} (h : Below a.heap.size a b) (k : Below b.heap.size b c) : Below a.heap.size a c := h.trans (k.mono h.size)
set_option maxHeartbeats 4000000 in
theorem awake_any (w : World) : Calls Try.prog 9 #[] w fun e w' => e = .returned (.bool true) ∧ Below w.heap.size w w' := by
  have H1 := fun w => putChange_any 1 5 0 0 (by omega) w
  have e1 : bs (putC 1 5 0 0) = ⟨#[1, 0, 0, 0, 5]⟩ := by rfl
  have e2 : ckC 1 5 0 0 = 0 := by rfl
  rw [e1, e2] at H1
  clear e1 e2
  go_enter Try.func9, Try.ntmps9
  go_wp2_with fail
  refine (H1 _).mono ?_; rintro e w1 ⟨rfl, b1⟩
  go_wp2_with fail
  refine (does_any 1 3 5 (by rfl) _).mono ?_; rintro e w2 ⟨rfl, b2⟩
  replace b2 := later2 b1 b2; clear b1
  go_wp2_with fail
  refine (does_any 2 3 3 (by rfl) _).mono ?_; rintro e w3 ⟨rfl, b3⟩
  replace b3 := later2 b2 b3; clear b2
  go_wp2_with fail
  refine (none_no 3 0 0 0 (by omega) (by omega) (by rfl) _).mono ?_; rintro e w4 ⟨rfl, b4⟩
  replace b4 := later2 b3 b4; clear b3
  go_wp2_with fail
  refine (fails_any ⟨#[]⟩ (by decide) 10 (by rfl) (by decide) _).mono ?_; rintro e w5 ⟨rfl, b5⟩
  replace b5 := later2 b4 b5; clear b4
  go_wp2_with fail
  go_ret
  exact ⟨rfl, b5⟩
end Go.Proofs.Ytoeaclfbmppnmaa
