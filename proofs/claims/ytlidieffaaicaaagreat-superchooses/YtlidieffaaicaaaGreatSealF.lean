/- What bytes are that may be stamped, in the program: the contract. Conditions: lengths below 2^30. -/
import Derived.Test.YtlidieffaaicaaaGreatSealE
namespace Go.Proofs.YtlidieffaaicaaaGreat
open Go.ChangeShapes Go.WideShapes Go.RowKit Go.Codec
set_option maxRecDepth 100000
set_option linter.unusedVariables false
theorem steps_of (s : ByteArray) (hs : s.size ≤ 1073741824) (m : Nat) (mi : Int) (x1 x2 x3 x4 x5 x6 : R) (e1 : (⟨s.data.toList, 0⟩ : R).drop 8 = x1) (e2 : x1.drop 4 = x2) (e3 : x2.behind = x3) (hm : mi < 0 ∧ m = 0 ∨ mi = m) (e4 : x3.drop m = x4) (e5 : x4.drop 4 = x5) (e6 : x5.drop 8 = x6) :
    Steps s (val ((⟨s.data.toList, 0⟩ : R).take 8)) (val (x1.take 4)) (val (x5.take 8)) (val (x4.take 4)) x2.text (x3.take m) x1 x2 x3 x4 x5 x6 mi := by
  have hl : s.data.toList.length = s.size := (Lib.size_eq s).symm
  have l0 : (⟨s.data.toList, 0⟩ : R).rest.length = s.size := hl
  have l1 := drop_len (⟨s.data.toList, 0⟩ : R) 8
  have l2 := drop_len x1 4
  have l3 := behind_len x2
  have l4 := drop_len x3 m
  have l5 := drop_len x4 4
  rw [e1] at l1
  rw [e2] at l2
  rw [e3] at l3
  rw [e4] at l4
  rw [e5] at l5
  subst e1; subst e2; subst e3; subst e4; subst e5; subst e6
  constructor
  · intro r w' h; exact ru64_any r _ (by omega) w' h
  · intro r w' h; exact ru32_any r _ (by omega) w' h
  · intro r w' h; exact rtext_any r _ (by omega) w' h
  · intro r w' h; exact rest_any r _ w' h
  · intro r w' h; exact fixed_any r _ m mi hm (by omega) w' h
  · intro r w' h; exact ru32_any r _ (by omega) w' h
  · intro r w' h; exact ru64_any r _ (by omega) w' h
  · intro r w' h; exact err_any r _ w' h
theorem short12 (l : List UInt8) (h : l.length < 12) : ((((⟨l, 0⟩ : R).drop 0).drop 4).drop 8).er = 10 := by
  have a0 : (⟨l, 0⟩ : R).drop 0 = ⟨l, 0⟩ := R.drop_ok (Nat.zero_le _)
  rw [a0]
  by_cases h4 : 4 ≤ l.length
  · have a1 : (⟨l, 0⟩ : R).drop 4 = ⟨l.drop 4, 0⟩ := R.drop_ok h4
    have a2 : (⟨l.drop 4, 0⟩ : R).drop 8 = ⟨[], 10⟩ := R.drop_not (by rw [List.length_drop]; omega)
    rw [a1, a2]
  · have a1 : (⟨l, 0⟩ : R).drop 4 = ⟨[], 10⟩ := R.drop_not h4
    rw [a1, R.drop_torn]
theorem val_inj {a b : List UInt8} (h : a.length = b.length) (hv : val a = val b) : a = b := by
  rw [← be_val a, ← be_val b, h, hv]
theorem un_any (s : ByteArray) (hs : s.size ≤ 1073741824) (w : World) :
    Calls Tryz.prog 50 #[.string s] w fun e w' => e = .returned (.tuple #[.int .u64 ((Seal.unstamp s.data.toList).1 : Nat), .int .u32 ((Seal.unstamp s.data.toList).2.1 : Nat), .string (bs (Seal.unstamp s.data.toList).2.2.1), .int .i64 (Seal.unstamp s.data.toList).2.2.2]) ∧ Below w.heap.size w w' := by
  have hl : s.data.toList.length = s.size := (Lib.size_eq s).symm
  have H0 := Lib.hid (new_any s (by omega) w)
  by_cases h26 : s.size < 26
  · have e : Seal.unstamp s.data.toList = (0, 0, [], 10) := by unfold Seal.unstamp; rw [if_pos (by omega)]
    rw [e]
    exact un_few s h26 w
  by_cases h65 : 65536 < s.size
  · have e : Seal.unstamp s.data.toList = (0, 0, [], 4) := by unfold Seal.unstamp; rw [if_neg (by omega), if_pos (by omega)]
    rw [e]
    exact un_many s h65 w
  have i26 : ¬ (s.size : Int) < 26 := by omega
  have i65 : ¬ (65536 : Int) < (s.size : Int) := by omega
  have hun : Seal.unstamp s.data.toList = open Classical in if Seal.Good s.data.toList then (val (s.data.toList.take 8), val ((s.data.toList.drop 8).take 4), (s.data.toList.drop 14).take (val ((s.data.toList.drop 12).take 2)), 0) else (0, 0, [], 4) := by
    conv => lhs; unfold Seal.unstamp
    rw [if_neg (by omega), if_neg (by omega)]
  have hgd : Seal.Good s.data.toList ↔ s.data.toList.take 8 = s.data.toList.drop (s.size - 8) ∧ (s.data.toList.drop 8).take 4 = (s.data.toList.drop (s.size - 12)).take 4 ∧ val ((s.data.toList.drop 12).take 2) ≤ s.size - 26 ∧
    (s.data.toList.drop (14 + val ((s.data.toList.drop 12).take 2))).take (s.size - 26 - val ((s.data.toList.drop 12).take 2)) = Seal.noughts (s.size - 26 - val ((s.data.toList.drop 12).take 2)) := by
    unfold Seal.Good; rw [hl]
  rw [hun]; clear hun
  have e1 : (⟨s.data.toList, 0⟩ : R).drop 8 = ⟨s.data.toList.drop 8, 0⟩ := R.drop_ok (by omega)
  have e2 : (⟨s.data.toList.drop 8, 0⟩ : R).drop 4 = ⟨s.data.toList.drop 12, 0⟩ := by rw [R.drop_ok (by rw [List.length_drop]; omega), List.drop_drop]
  have t8 : (⟨s.data.toList, 0⟩ : R).take 8 = s.data.toList.take 8 := R.take_ok (by omega)
  have t4 : (⟨s.data.toList.drop 8, 0⟩ : R).take 4 = (s.data.toList.drop 8).take 4 := R.take_ok (by rw [List.length_drop]; omega)
  have l12 : (s.data.toList.drop 12).length = s.size - 12 := by rw [List.length_drop, hl]
  have d2 : (⟨s.data.toList.drop 12, 0⟩ : R).drop 2 = ⟨s.data.toList.drop 14, 0⟩ := by rw [R.drop_ok (by omega), List.drop_drop]
  have t2 : (⟨s.data.toList.drop 12, 0⟩ : R).take 2 = (s.data.toList.drop 12).take 2 := R.take_ok (by omega)
  have hb : (⟨s.data.toList.drop 12, 0⟩ : R).behind = (⟨s.data.toList.drop 14, 0⟩ : R).drop (val ((s.data.toList.drop 12).take 2)) := by
    unfold R.behind
    rw [d2, t2]
  have hx : (⟨s.data.toList.drop 12, 0⟩ : R).text = (⟨s.data.toList.drop 14, 0⟩ : R).take (val ((s.data.toList.drop 12).take 2)) := by
    unfold R.text
    rw [d2, t2]
  clear t2
  have l14 : (s.data.toList.drop 14).length = s.size - 14 := by rw [List.length_drop, hl]
  generalize val ((s.data.toList.drop 12).take 2) = k at *
  by_cases hk : k ≤ s.size - 26
  · have e3 : (⟨s.data.toList.drop 12, 0⟩ : R).behind = ⟨s.data.toList.drop (14 + k), 0⟩ := by rw [hb, R.drop_ok (by omega), List.drop_drop]
    have hx3 : (⟨s.data.toList.drop 12, 0⟩ : R).text = (s.data.toList.drop 14).take k := by rw [hx, R.take_ok (by omega)]
    have l3 : (s.data.toList.drop (14 + k)).length = s.size - 14 - k := by rw [List.length_drop, hl]; omega
    have e4 : (⟨s.data.toList.drop (14 + k), 0⟩ : R).drop (s.size - 26 - k) = ⟨s.data.toList.drop (s.size - 12), 0⟩ := by
      rw [R.drop_ok (by omega), List.drop_drop]
      congr 2
      omega
    have b4 : (⟨s.data.toList.drop (14 + k), 0⟩ : R).take (s.size - 26 - k) = (s.data.toList.drop (14 + k)).take (s.size - 26 - k) := R.take_ok (by omega)
    have l4 : (s.data.toList.drop (s.size - 12)).length = 12 := by rw [List.length_drop, hl]; omega
    have l5 : (s.data.toList.drop (s.size - 8)).length = 8 := by rw [List.length_drop, hl]; omega
    have e5 : (⟨s.data.toList.drop (s.size - 12), 0⟩ : R).drop 4 = ⟨s.data.toList.drop (s.size - 8), 0⟩ := by
      rw [R.drop_ok (by omega), List.drop_drop]
      congr 2
      omega
    have e6 : (⟨s.data.toList.drop (s.size - 8), 0⟩ : R).drop 8 = ⟨[], 0⟩ := by
      rw [R.drop_ok (by omega), List.drop_of_length_le (by omega)]
    have i4 : (⟨s.data.toList.drop (s.size - 12), 0⟩ : R).take 4 = (s.data.toList.drop (s.size - 12)).take 4 := R.take_ok (by omega)
    have g8 : (⟨s.data.toList.drop (s.size - 8), 0⟩ : R).take 8 = s.data.toList.drop (s.size - 8) := by
      rw [R.take_ok (by omega), List.take_of_length_le (by omega)]
    have H := steps_of s hs (s.size - 26 - k) ((s.size - 26 - k : Nat) : Int) _ _ _ _ _ _ e1 e2 e3 (.inr rfl) e4 e5 e6
    rw [t8, t4, hx3, b4, i4, g8] at H
    have hmi : ((bs (⟨s.data.toList.drop (14 + k), 0⟩ : R).rest).size : Int) - 12 = ((s.size - 26 - k : Nat) : Int) := by
      rw [bs_size]
      show ((s.data.toList.drop (14 + k)).length : Int) - 12 = _
      omega
    have hxl : (bs (⟨s.data.toList.drop (14 + k), 0⟩ : R).rest).size ≤ 1073741824 := by
      rw [bs_size]
      show (s.data.toList.drop (14 + k)).length ≤ _
      omega
    have la : (s.data.toList.take 8).length = 8 := by rw [List.length_take]; omega
    have lb : ((s.data.toList.drop 8).take 4).length = 4 := by rw [List.length_take, List.length_drop]; omega
    have lc : ((s.data.toList.drop (s.size - 12)).take 4).length = 4 := by rw [List.length_take]; omega
    have ld : ((s.data.toList.drop (14 + k)).take (s.size - 26 - k)).length = s.size - 26 - k := by rw [List.length_take]; omega
    clear hb hx
    by_cases c1 : (s.data.toList.drop 8).take 4 = (s.data.toList.drop (s.size - 12)).take 4
    · rw [← c1] at H
      by_cases c2 : s.data.toList.take 8 = s.data.toList.drop (s.size - 8)
      · rw [← c2] at H
        by_cases c3 : (s.data.toList.drop (14 + k)).take (s.size - 26 - k) = Seal.noughts (s.size - 26 - k)
        · rw [if_pos (hgd.2 ⟨c2, c1, hk, c3⟩)]
          exact un_good s _ _ _ _ _ _ _ _ _ _ _ i26 i65 w H0 (Lib.hid H) hmi hxl rfl (Lib.hid fun w' => all_yes _ (by rw [bs_size]; omega) (by rw [bs_list, ld]; exact c3) w')
        · rw [if_neg fun hh => c3 (hgd.1 hh).2.2.2]
          exact un_other s _ _ _ _ _ _ _ _ _ _ _ i26 i65 w H0 (Lib.hid H) hmi hxl rfl (Lib.hid fun w' => all_no _ (by rw [bs_size]; omega) (by rw [bs_list, ld]; exact c3) w')
      · rw [if_neg fun hh => c2 (hgd.1 hh).1]
        exact un_gen s _ _ _ _ _ _ _ _ _ _ _ _ i26 i65 w H0 (Lib.hid H) hmi hxl rfl fun hh => c2 (val_inj (by omega) (by omega))
    · rw [if_neg fun hh => c1 (hgd.1 hh).2.1]
      exact un_idx s _ _ _ _ _ _ _ _ _ _ _ _ _ i26 i65 w H0 (Lib.hid H) hmi hxl rfl fun hh => c1 (val_inj (by omega) (by omega))
  · rw [if_neg fun hh => hk (hgd.1 hh).2.2.1]
    by_cases hk2 : k ≤ s.size - 14
    · have e3 : (⟨s.data.toList.drop 12, 0⟩ : R).behind = ⟨s.data.toList.drop (14 + k), 0⟩ := by rw [hb, R.drop_ok (by omega), List.drop_drop]
      have l3 : (s.data.toList.drop (14 + k)).length = s.size - 14 - k := by rw [List.length_drop, hl]; omega
      have H := steps_of s hs 0 ((s.size : Int) - 26 - k) _ _ _ _ _ _ e1 e2 e3 (.inl ⟨by omega, rfl⟩) rfl rfl rfl
      have he : ((((⟨s.data.toList.drop (14 + k), 0⟩ : R).drop 0).drop 4).drop 8).er = 10 := by
        exact short12 _ (by omega)
      refine un_torn s _ _ _ _ _ _ _ _ _ _ _ _ _ i26 i65 w H0 (Lib.hid H) ?_ ?_ he
      · rw [bs_size]
        show ((s.data.toList.drop (14 + k)).length : Int) - 12 = _
        omega
      · rw [bs_size]
        show (s.data.toList.drop (14 + k)).length ≤ _
        omega
    · have e3 : (⟨s.data.toList.drop 12, 0⟩ : R).behind = ⟨[], 10⟩ := by rw [hb, R.drop_not (by omega)]
      have H := steps_of s hs 0 (-12) _ _ _ _ _ _ e1 e2 e3 (.inl ⟨by omega, rfl⟩) rfl rfl rfl
      have he : ((((⟨[], 10⟩ : R).drop 0).drop 4).drop 8).er = 10 := by rw [R.drop_torn, R.drop_torn, R.drop_torn]
      refine un_torn s _ _ _ _ _ _ _ _ _ _ _ _ _ i26 i65 w H0 (Lib.hid H) ?_ ?_ he
      · rw [bs_size]; rfl
      · rw [bs_size]; simp
end Go.Proofs.YtlidieffaaicaaaGreat
