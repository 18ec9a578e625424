/- Plain mathematics: what is put is taken, and what is taken has that text. No program. Conditions: numbers of their kinds. -/
import Derived.Test.YthledgkjfjdjoaaGreatMeta
namespace Go.Mt
open Go.Codec Go.Num
theorem num_mid (A M B : List UInt8) (a b : Nat) (ha : a = A.length) (hb : b = A.length + M.length) : num (A ++ (M ++ B)) a b = Codec.val M := by
  subst ha; subst hb
  unfold num
  rw [List.drop_left, Nat.add_sub_cancel_left, List.take_left]
theorem num_end (A M : List UInt8) (a b : Nat) (ha : a = A.length) (hb : b = A.length + M.length) : num (A ++ M) a b = Codec.val M := by
  have h := num_mid A M [] a b ha hb
  rw [List.append_nil] at h
  exact h
theorem num_head (M B : List UInt8) (b : Nat) (hb : b = M.length) : num (M ++ B) 0 b = Codec.val M := num_mid [] M B 0 b rfl (by simp [hb])
theorem val_be1 {n : Nat} (h : n < 256) : Codec.val (be 1 n) = n := by rw [val_be]; omega
theorem val_be4 {n : Nat} (h : n < 4294967296) : Codec.val (be 4 n) = n := by
  rw [val_be]
  have : 256 ^ 4 = 4294967296 := by decide
  rw [this]; omega
theorem val_be8 {n : Nat} (h : n < 18446744073709551616) : Codec.val (be 8 n) = n := by
  rw [val_be]
  have : 256 ^ 8 = 18446744073709551616 := by decide
  rw [this]; omega
theorem textM_len (k sz mk st : Nat) : (textM k sz mk st).length = 21 := by simp [textM, be_length]
theorem textM_nums {k sz mk st : Nat} (hk : k < 256) (hz : sz < 4294967296) (hm : mk < 18446744073709551616) (hs : st < 18446744073709551616) :
    num (textM k sz mk st) 0 1 = k ∧ num (textM k sz mk st) 1 5 = sz ∧ num (textM k sz mk st) 5 13 = mk ∧ num (textM k sz mk st) 13 21 = st := by
  unfold textM
  refine ⟨?_, ?_, ?_, ?_⟩
  · rw [List.append_assoc, List.append_assoc, num_head _ _ 1 (by rw [be_length]), val_be1 hk]
  · rw [List.append_assoc, List.append_assoc, num_mid _ _ _ 1 5 (by rw [be_length]) (by rw [be_length, be_length]), val_be4 hz]
  · rw [List.append_assoc (be 1 k ++ be 4 sz), num_mid _ _ _ 5 13 (by simp [be_length]) (by simp [be_length]), val_be8 hm]
  · rw [num_end _ _ 13 21 (by simp [be_length]) (by simp [be_length]), val_be8 hs]
theorem take_put {k sz mk st : Nat} (hk : k < 256) (hz : sz < 4294967296) (hm : mk < 18446744073709551616) (hs : st < 18446744073709551616) (h : mayM k sz mk = true) : takeE (textM k sz mk st) = 0 := by
  obtain ⟨e0, e1, e2, -⟩ := textM_nums (st := st) hk hz hm hs
  unfold takeE
  rw [textM_len, if_neg (by omega), if_neg (by omega), e0, e1, e2, ckM, if_pos h]
theorem cut_join (l : List UInt8) (a b : Nat) (hab : a ≤ b) : (l.drop a).take (b - a) ++ l.drop b = l.drop a := by
  have h := List.take_append_drop (b - a) (l.drop a)
  rw [List.drop_drop] at h
  have e : a + (b - a) = b := by omega
  rw [e] at h
  exact h
theorem be_num (l : List UInt8) (a b : Nat) (hab : a ≤ b) (hb : b ≤ l.length) : be (b - a) (num l a b) = (l.drop a).take (b - a) := by
  unfold num
  exact be_val' (by simp; omega)
theorem text_take {l : List UInt8} (h : l.length = 21) : textM (num l 0 1) (num l 1 5) (num l 5 13) (num l 13 21) = l := by
  have b0 := be_num l 0 1 (by omega) (by omega)
  have b1 := be_num l 1 5 (by omega) (by omega)
  have b2 := be_num l 5 13 (by omega) (by omega)
  have b3 := be_num l 13 21 (by omega) (by omega)
  have c0 := cut_join l 0 1 (by omega)
  have c1 := cut_join l 1 5 (by omega)
  have c2 := cut_join l 5 13 (by omega)
  have c3 := cut_join l 13 21 (by omega)
  rw [List.drop_of_length_le (show l.length ≤ 21 by omega), List.append_nil] at c3
  unfold textM
  rw [show (1 : Nat) = 1 - 0 from rfl, show (4 : Nat) = 5 - 1 from rfl, show (8 : Nat) = 13 - 5 from rfl] 
  rw [b0, b1, b2, show (13 : Nat) - 5 = 21 - 13 from rfl, b3, c3, List.append_assoc, List.append_assoc, c2, c1, c0, List.drop_zero]
theorem textC_nums {wh n op b : Nat} (hn : n < 18446744073709551616) (ho : op < 256) (hb : b < 18446744073709551616) (h : mayC wh n op b = true) :
    (textC wh n op b).length = long wh ∧ (1 ≤ wh ∧ wh ≤ 4) ∧ num (textC wh n op b) 0 1 = wh ∧ cN (textC wh n op b) wh = n ∧ cOp (textC wh n op b) wh = op ∧ cBy (textC wh n op b) wh = b := by
  have hw : wh = 1 ∨ wh = 2 ∨ wh = 3 ∨ wh = 4 := by
    unfold mayC at h
    by_cases h1 : wh = 1 ∨ wh = 2
    · omega
    rw [if_neg h1] at h
    by_cases h3 : wh = 3
    · omega
    rw [if_neg h3] at h
    by_cases h4 : wh = 4
    · omega
    rw [if_neg h4] at h
    cases h
  rcases hw with rfl | rfl | rfl | rfl
  · simp [mayC] at h
    obtain ⟨h1, rfl, rfl⟩ := h
    have e : textC 1 n 0 0 = be 1 1 ++ be 4 n := rfl
    rw [e]
    refine ⟨by simp [be_length, long], by omega, ?_, ?_, rfl, rfl⟩
    · rw [num_head _ _ 1 (by rw [be_length])]; rfl
    · show num _ 1 5 = n
      rw [num_end _ _ 1 5 (by rw [be_length]) (by rw [be_length, be_length]), val_be4 (by omega)]
  · simp [mayC] at h
    obtain ⟨h1, rfl, rfl⟩ := h
    have e : textC 2 n 0 0 = be 1 2 ++ be 4 n := rfl
    rw [e]
    refine ⟨by simp [be_length, long], by omega, ?_, ?_, rfl, rfl⟩
    · rw [num_head _ _ 1 (by rw [be_length])]; rfl
    · show num _ 1 5 = n
      rw [num_end _ _ 1 5 (by rw [be_length]) (by rw [be_length, be_length]), val_be4 (by omega)]
  · simp [mayC] at h
    obtain ⟨rfl, h1, h2⟩ := h
    have e : textC 3 0 op b = be 1 3 ++ (be 1 op ++ be 8 b) := rfl
    rw [e]
    refine ⟨by simp [be_length, long], by omega, ?_, rfl, ?_, ?_⟩
    · rw [num_head _ _ 1 (by rw [be_length])]; rfl
    · show num _ 1 2 = op
      rw [num_mid _ _ _ 1 2 (by rw [be_length]) (by rw [be_length, be_length]), val_be1 ho]
    · show num _ 2 10 = b
      rw [← List.append_assoc, num_end _ _ 2 10 (by simp [be_length]) (by simp [be_length]), val_be8 hb]
  · simp [mayC] at h
    obtain ⟨rfl, rfl⟩ := h
    have e : textC 4 n 0 0 = be 1 4 ++ be 8 n := rfl
    rw [e]
    refine ⟨by simp [be_length, long], by omega, ?_, ?_, rfl, rfl⟩
    · rw [num_head _ _ 1 (by rw [be_length])]; rfl
    · show num _ 1 9 = n
      rw [num_end _ _ 1 9 (by rw [be_length]) (by rw [be_length, be_length]), val_be8 hn]
theorem take_putC {wh n op b : Nat} (hn : n < 18446744073709551616) (ho : op < 256) (hb : b < 18446744073709551616) (h : mayC wh n op b = true) : takeCE (textC wh n op b) = 0 := by
  obtain ⟨hl, hw, e0, e1, e2, e3⟩ := textC_nums hn ho hb h
  have hlo : 5 ≤ long wh := by unfold long; split <;> (try split) <;> omega
  have hne : textC wh n op b ≠ [] := by
    intro h0
    rw [h0] at hl
    simp at hl
    omega
  unfold takeCE
  rw [if_neg hne, e0, if_neg (by omega), hl, if_neg (by omega), if_neg (by omega), e1, e2, e3, ckC, if_pos h]
theorem textC_take {l : List UInt8} (h : takeCE l = 0) : textC (num l 0 1) (cN l (num l 0 1)) (cOp l (num l 0 1)) (cBy l (num l 0 1)) = l ∧ mayC (num l 0 1) (cN l (num l 0 1)) (cOp l (num l 0 1)) (cBy l (num l 0 1)) = true ∧ l.length ≤ 10 := by
  unfold takeCE at h
  by_cases hne : l = []
  · rw [if_pos hne] at h; cases h
  rw [if_neg hne] at h
  by_cases hw : num l 0 1 < 1 ∨ 4 < num l 0 1
  · rw [if_pos hw] at h; cases h
  rw [if_neg hw] at h
  by_cases h1 : l.length < long (num l 0 1)
  · rw [if_pos h1] at h; cases h
  rw [if_neg h1] at h
  by_cases h2 : long (num l 0 1) < l.length
  · rw [if_pos h2] at h; cases h
  rw [if_neg h2] at h
  have hlen : l.length = long (num l 0 1) := by omega
  have hm : mayC (num l 0 1) (cN l (num l 0 1)) (cOp l (num l 0 1)) (cBy l (num l 0 1)) = true := by
    unfold ckC at h
    by_cases hm : mayC (num l 0 1) (cN l (num l 0 1)) (cOp l (num l 0 1)) (cBy l (num l 0 1)) = true
    · exact hm
    · rw [if_neg hm] at h; cases h
  have hlo : long (num l 0 1) ≤ 10 := by unfold long; split <;> (try split) <;> omega
  refine ⟨?_, hm, by omega⟩
  clear hm h h1 h2
  have hw4 : num l 0 1 = 1 ∨ num l 0 1 = 2 ∨ num l 0 1 = 3 ∨ num l 0 1 = 4 := by omega
  have c0 := cut_join l 0 1 (by omega)
  have hl1 : 1 ≤ l.length := by have := List.length_pos_iff.2 hne; omega
  have b0 : be 1 (num l 0 1) = (l.drop 0).take (1 - 0) := be_num l 0 1 (by omega) hl1
  rcases hw4 with hw | hw | hw | hw
  · rw [hw] at hlen b0 ⊢
    have hl : l.length = 5 := hlen
    have b1 : be 4 (num l 1 5) = (l.drop 1).take (5 - 1) := be_num l 1 5 (by omega) (by omega)
    have c1 := cut_join l 1 5 (by omega)
    rw [List.drop_of_length_le (show l.length ≤ 5 by omega), List.append_nil] at c1
    show be 1 1 ++ be 4 (num l 1 5) = l
    rw [b0, b1, c1, c0, List.drop_zero]
  · rw [hw] at hlen b0 ⊢
    have hl : l.length = 5 := hlen
    have b1 : be 4 (num l 1 5) = (l.drop 1).take (5 - 1) := be_num l 1 5 (by omega) (by omega)
    have c1 := cut_join l 1 5 (by omega)
    rw [List.drop_of_length_le (show l.length ≤ 5 by omega), List.append_nil] at c1
    show be 1 2 ++ be 4 (num l 1 5) = l
    rw [b0, b1, c1, c0, List.drop_zero]
  · rw [hw] at hlen b0 ⊢
    have hl : l.length = 10 := hlen
    have b1 : be 1 (num l 1 2) = (l.drop 1).take (2 - 1) := be_num l 1 2 (by omega) (by omega)
    have b2 : be 8 (num l 2 10) = (l.drop 2).take (10 - 2) := be_num l 2 10 (by omega) (by omega)
    have c1 := cut_join l 1 2 (by omega)
    have c2 := cut_join l 2 10 (by omega)
    rw [List.drop_of_length_le (show l.length ≤ 10 by omega), List.append_nil] at c2
    show be 1 3 ++ (be 1 (num l 1 2) ++ be 8 (num l 2 10)) = l
    rw [b0, b1, b2, c2, c1, c0, List.drop_zero]
  · rw [hw] at hlen b0 ⊢
    have hl : l.length = 9 := hlen
    have b1 : be 8 (num l 1 9) = (l.drop 1).take (9 - 1) := be_num l 1 9 (by omega) (by omega)
    have c1 := cut_join l 1 9 (by omega)
    rw [List.drop_of_length_le (show l.length ≤ 9 by omega), List.append_nil] at c1
    show be 1 4 ++ be 8 (num l 1 9) = l
    rw [b0, b1, c1, c0, List.drop_zero]
theorem take_ok {l : List UInt8} (h : takeE l = 0) : l.length = 21 ∧ mayM (num l 0 1) (num l 1 5) (num l 5 13) = true := by
  unfold takeE at h
  by_cases h1 : l.length < 21
  · rw [if_pos h1] at h; cases h
  rw [if_neg h1] at h
  by_cases h2 : 21 < l.length
  · rw [if_pos h2] at h; cases h
  rw [if_neg h2] at h
  refine ⟨by omega, ?_⟩
  unfold ckM at h
  by_cases hm : mayM (num l 0 1) (num l 1 5) (num l 5 13) = true
  · exact hm
  · rw [if_neg hm] at h; cases h
end Go.Mt
