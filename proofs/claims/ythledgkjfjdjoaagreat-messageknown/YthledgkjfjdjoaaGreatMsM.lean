/- Plain mathematics: what is put is taken as what it was; what is taken has that text. Conditions: none. -/
import Derived.Test.YthledgkjfjdjoaaGreatMsC
namespace Go.Proofs.YthledgkjfjdjoaaGreat.Ms
open Go.ChangeShapes Go.WideShapes Go.RowKit Go.Codec Go.Mt Go.Blk
theorem tx_len (s : ByteArray) : (tx s).length = 2 + s.size := by
  rw [tx, List.length_append, be_length, ← Lib.size_eq]
theorem val2_lt (l : List UInt8) (h : l.length ≤ 2) : val l < 65536 := by
  have h1 := val_lt l
  have h2 : 256 ^ l.length ≤ 256 ^ 2 := Nat.pow_le_pow_right (by decide) h
  omega
theorem read_tx (s : ByteArray) (hs : s.size < 65536) (B : List UInt8) : (⟨tx s ++ B, 0⟩ : R).text = s.data.toList ∧ (⟨tx s ++ B, 0⟩ : R).behind = ⟨B, 0⟩ := by
  have hz := Lib.size_eq s
  have e1 : (⟨tx s ++ B, 0⟩ : R).take 2 = be 2 s.data.toList.length := by
    unfold R.take
    rw [if_pos (by simp only [List.length_append, tx_len]; omega)]
    show (tx s ++ B).take 2 = _
    rw [tx, List.append_assoc, List.take_append_of_le_length (by rw [be_length]; omega), List.take_of_length_le (by rw [be_length]; omega)]
  have e2 : (⟨tx s ++ B, 0⟩ : R).drop 2 = ⟨s.data.toList ++ B, 0⟩ := by
    unfold R.drop
    rw [if_pos (by simp only [List.length_append, tx_len]; omega)]
    show R.mk ((tx s ++ B).drop 2) 0 = _
    rw [tx, List.append_assoc, List.drop_append_of_le_length (by rw [be_length]; omega), List.drop_of_length_le (by rw [be_length]; omega), List.nil_append]
  have e3 : val (be 2 s.data.toList.length) = s.data.toList.length := by rw [val_be]; omega
  unfold R.text R.behind
  rw [e1, e2, e3]
  unfold R.take R.drop
  rw [if_pos (by simp), if_pos (by simp)]
  simp
theorem drop_ok {x : R} {n : Nat} (h : (x.drop n).er = 0) : n ≤ x.rest.length ∧ x.er = 0 := by
  unfold R.drop at h
  split at h
  · exact ⟨by assumption, h⟩
  · simp at h
theorem text_back {x : R} (h : x.behind.er = 0) : x.er = 0 ∧ x.rest = tx (bs x.text) ++ x.behind.rest := by
  unfold R.behind at h
  obtain ⟨h1, h2⟩ := drop_ok h
  obtain ⟨h3, h4⟩ := drop_ok h2
  refine ⟨h4, ?_⟩
  unfold R.text R.behind
  have e1 : x.take 2 = x.rest.take 2 := by unfold R.take; rw [if_pos h3]
  have e2 : x.drop 2 = ⟨x.rest.drop 2, x.er⟩ := by unfold R.drop; rw [if_pos h3]
  rw [e1, e2] at h1
  dsimp only at h1
  rw [e1, e2]
  generalize hv : val (x.rest.take 2) = v at *
  have e3 : (⟨x.rest.drop 2, x.er⟩ : R).take v = (x.rest.drop 2).take v := by unfold R.take; rw [if_pos h1]
  have e4 : (⟨x.rest.drop 2, x.er⟩ : R).drop v = ⟨(x.rest.drop 2).drop v, x.er⟩ := by unfold R.drop; rw [if_pos h1]
  rw [e3, e4, tx, bs_list]
  have e5 : ((x.rest.drop 2).take v).length = v := by rw [List.length_take]; omega
  rw [e5, ← hv, be_val' (by rw [List.length_take]; omega), List.append_assoc, hv, List.take_append_drop, List.take_append_drop]
theorem one_drop (o : Nat) (B : List UInt8) (ho : o < 256) : val ((⟨be 1 o ++ B, 0⟩ : R).take 1) = o ∧ (⟨be 1 o ++ B, 0⟩ : R).drop 1 = ⟨B, 0⟩ := by
  unfold R.take R.drop
  have hl : (be 1 o).length = 1 := be_length 1 o
  rw [if_pos (by simp only [List.length_append]; omega), if_pos (by simp only [List.length_append]; omega)]
  refine ⟨?_, ?_⟩
  · show val ((be 1 o ++ B).take 1) = o
    rw [List.take_append_of_le_length (by omega), List.take_of_length_le (by omega), val_be]
    omega
  · show R.mk ((be 1 o ++ B).drop 1) 0 = _
    rw [List.drop_append_of_le_length (by omega), List.drop_of_length_le (by omega), List.nil_append]
/-- What may be is small. -/
theorem may_sizes {m : Msg} (h : may m = true) : 1 ≤ m.k.size ∧ m.k.size ≤ 108 ∧ m.t.size ≤ 108 ∧ m.v.size ≤ 68 ∧ (m.o ≠ 3 → m.t.size = 0) ∧ (m.o ≠ 1 → m.o ≠ 4 → m.v.size = 0) := by
  have ho := may_ops h
  obtain ⟨o, k, t, v⟩ := m
  have hz := Lib.size_eq v
  unfold may key at h
  dsimp only at ho h ⊢
  rw [Bool.and_eq_true, decide_eq_true_eq] at h
  obtain ⟨⟨h1, h2⟩, h⟩ := h
  refine ⟨h1, h2, ?_⟩
  rcases ho with rfl | rfl | rfl | rfl
  · rw [if_pos rfl, Bool.and_eq_true, decide_eq_true_eq] at h
    obtain ⟨h3, h4⟩ := h
    refine ⟨by omega, ?_, fun _ => h3, fun e => absurd rfl e⟩
    unfold okV at h4
    split at h4
    · have := (take_ok (of_decide_eq_true h4)).1; omega
    · split at h4
      · have h5 := of_decide_eq_true h4
        unfold ckV at h5
        split at h5
        · cases h5
        · rename_i hn; simp only [not_or] at hn; omega
      · have := of_decide_eq_true h4; omega
  · rw [if_neg (by decide), if_pos rfl, Bool.and_eq_true, decide_eq_true_eq] at h
    obtain ⟨h3, h4⟩ := h
    refine ⟨by omega, ?_, fun _ => h3, fun _ e => absurd rfl e⟩
    unfold okP at h4
    split at h4
    · have := (textC_take (of_decide_eq_true h4)).2.2; omega
    · split at h4
      · have h5 := of_decide_eq_true h4
        have h6 := (tk_back _ h5).1
        have h7 := putP_len (tk v.data.toList).c (tk v.data.toList).a (tk v.data.toList).n (tk v.data.toList).s
        rw [h6] at h7
        omega
      · cases h4
  · rw [if_neg (by decide), if_neg (by decide), if_pos rfl, Bool.and_eq_true, decide_eq_true_eq, decide_eq_true_eq] at h
    exact ⟨by omega, by omega, fun _ => h.1, fun _ _ => h.2⟩
  · rw [if_neg (by decide), if_neg (by decide), if_neg (by decide), if_pos rfl, Bool.and_eq_true, Bool.and_eq_true, decide_eq_true_eq, decide_eq_true_eq] at h
    exact ⟨h.1.2.2, by omega, fun e => absurd rfl e, fun _ _ => h.2⟩
theorem text_len {m : Msg} (h : may m = true) : (text m).length ≤ 221 := by
  obtain ⟨h1, h2, h3, h4, h5, h6⟩ := may_sizes h
  unfold text
  simp only [List.length_append, be_length, tx_len]
  split
  · rw [tx_len]; omega
  · split
    · rw [tx_len]; omega
    · simp; omega
theorem fin_ok (m : Msg) (h : may m = true) : fin m ⟨[], 0⟩ = ⟨m, 0⟩ := by
  unfold fin
  rw [if_neg (by simp), if_neg (by simp [h])]
theorem put_take {m : Msg} (h : may m = true) : tkM (text m) = ⟨m, 0⟩ := by
  obtain ⟨h1, h2, h3, h4, h5, h6⟩ := may_sizes h
  have ho := may_ops h
  have hm := h
  obtain ⟨o, k, t, v⟩ := m
  dsimp only at h1 h2 h3 h4 h5 h6 ho
  have rk := fun B => read_tx k (by omega) B
  have rt := read_tx t (by omega) []
  have rv := read_tx v (by omega) []
  rw [List.append_nil] at rt rv
  rcases ho with rfl | rfl | rfl | rfl
  · obtain ⟨e1, e2⟩ := one_drop 1 (tx k ++ tx v) (by decide)
    have e0 := size_nil.1 (h5 (by decide))
    subst e0
    have et : text ⟨1, k, ⟨#[]⟩, v⟩ = be 1 1 ++ (tx k ++ tx v) := rfl
    rw [et]
    unfold tkM
    dsimp only
    rw [e1, e2, if_pos (show (1 : Nat) = 1 ∨ (1 : Nat) = 4 from .inl rfl), (rk _).1, (rk _).2, rv.1, rv.2, list_bs, list_bs]
    exact fin_ok _ hm
  · obtain ⟨e1, e2⟩ := one_drop 4 (tx k ++ tx v) (by decide)
    have e0 := size_nil.1 (h5 (by decide))
    subst e0
    have et : text ⟨4, k, ⟨#[]⟩, v⟩ = be 1 4 ++ (tx k ++ tx v) := rfl
    rw [et]
    unfold tkM
    dsimp only
    rw [e1, e2, if_pos (show (4 : Nat) = 1 ∨ (4 : Nat) = 4 from .inr rfl), (rk _).1, (rk _).2, rv.1, rv.2, list_bs, list_bs]
    exact fin_ok _ hm
  · obtain ⟨e1, e2⟩ := one_drop 2 (tx k ++ []) (by decide)
    have e0 := size_nil.1 (h5 (by decide))
    have e3 := size_nil.1 (h6 (by decide) (by decide))
    subst e0; subst e3
    have et : text ⟨2, k, ⟨#[]⟩, ⟨#[]⟩⟩ = be 1 2 ++ (tx k ++ []) := rfl
    rw [et]
    unfold tkM
    dsimp only
    rw [e1, e2, if_neg (show ¬ ((2 : Nat) = 1 ∨ (2 : Nat) = 4) by decide), if_pos (show (2 : Nat) = 2 from rfl), (rk _).1, (rk _).2, list_bs]
    exact fin_ok _ hm
  · obtain ⟨e1, e2⟩ := one_drop 3 (tx k ++ tx t) (by decide)
    have e3 := size_nil.1 (h6 (by decide) (by decide))
    subst e3
    have et : text ⟨3, k, t, ⟨#[]⟩⟩ = be 1 3 ++ (tx k ++ tx t) := rfl
    rw [et]
    unfold tkM
    dsimp only
    rw [e1, e2, if_neg (show ¬ ((3 : Nat) = 1 ∨ (3 : Nat) = 4) by decide), if_neg (show ¬ (3 : Nat) = 2 by decide), if_pos (show (3 : Nat) = 3 from rfl), (rk _).1, (rk _).2, rt.1, rt.2, list_bs, list_bs]
    exact fin_ok _ hm
theorem fin_err {m : Msg} {y : R} (h : (fin m y).e ≠ 0) : (fin m y).m = nil := by
  unfold fin at h ⊢
  split
  · rfl
  · split
    · rfl
    · rename_i h1 h2
      rw [if_neg h1, if_neg h2] at h
      exact absurd rfl h
theorem take_err (l : List UInt8) (h : (tkM l).e ≠ 0) : (tkM l).m = nil := by
  unfold tkM at h ⊢
  dsimp only at h ⊢
  split
  · rename_i h1; rw [if_pos h1] at h; exact fin_err h
  · rename_i h1; rw [if_neg h1] at h
    split
    · rename_i h2; rw [if_pos h2] at h; exact fin_err h
    · rename_i h2; rw [if_neg h2] at h
      split
      · rename_i h3; rw [if_pos h3] at h; exact fin_err h
      · rename_i h3; rw [if_neg h3] at h; exact fin_err h
theorem fin_fine {m : Msg} {y : R} (h : (fin m y).e = 0) : (fin m y).m = m ∧ may m = true ∧ y = ⟨[], 0⟩ := by
  unfold fin at h ⊢
  split at h
  · cases h
  · split at h
    · cases h
    · rename_i h1 h2
      simp only [not_or, ne_eq, Decidable.not_not, Bool.not_eq_false] at h1 h2
      rw [if_neg (by simp [h1]), if_neg (by simp [h2])]
      exact ⟨rfl, h2.2, by obtain ⟨r, e⟩ := y; simp only at h1 h2; rw [h1, h2.1]⟩
theorem first_back {l : List UInt8} {x : R} (hx : (⟨l, 0⟩ : R).drop 1 = x) (he : x.er = 0) : l = be 1 (val ((⟨l, 0⟩ : R).take 1)) ++ x.rest := by
  subst hx
  obtain ⟨h1, -⟩ := drop_ok he
  dsimp only at h1
  unfold R.take R.drop
  rw [if_pos h1, if_pos h1]
  show l = be 1 (val (l.take 1)) ++ l.drop 1
  rw [be_val' (by rw [List.length_take]; omega), List.take_append_drop]
theorem take_put {l : List UInt8} (h : (tkM l).e = 0) : may (tkM l).m = true ∧ text (tkM l).m = l := by
  unfold tkM at h ⊢
  dsimp only at h ⊢
  obtain ⟨x, hx⟩ : ∃ x, (⟨l, 0⟩ : R).drop 1 = x := ⟨_, rfl⟩
  have hf := fun he => first_back hx he
  generalize hv : val ((⟨l, 0⟩ : R).take 1) = o at *
  rw [hx] at h ⊢
  by_cases h1 : o = 1 ∨ o = 4
  · rw [if_pos h1] at h ⊢
    obtain ⟨e1, e2, e3⟩ := fin_fine h
    rw [e1]
    refine ⟨e2, ?_⟩
    obtain ⟨a1, a2⟩ := text_back (x := x.behind) (by rw [e3])
    obtain ⟨b1, b2⟩ := text_back (x := x) a1
    unfold text
    dsimp only
    rw [if_pos (by omega), hf b1, b2, a2, e3, List.append_nil, Int.toNat_natCast]
  · rw [if_neg h1] at h ⊢
    by_cases h2 : o = 2
    · rw [if_pos h2] at h ⊢
      obtain ⟨e1, e2, e3⟩ := fin_fine h
      rw [e1]
      refine ⟨e2, ?_⟩
      obtain ⟨b1, b2⟩ := text_back (x := x) (by rw [e3])
      unfold text
      dsimp only
      rw [if_neg (by omega), if_neg (by omega), hf b1, b2, e3, Int.toNat_natCast]
    · rw [if_neg h2] at h ⊢
      by_cases h3 : o = 3
      · rw [if_pos h3] at h ⊢
        obtain ⟨e1, e2, e3⟩ := fin_fine h
        rw [e1]
        refine ⟨e2, ?_⟩
        obtain ⟨a1, a2⟩ := text_back (x := x.behind) (by rw [e3])
        obtain ⟨b1, b2⟩ := text_back (x := x) a1
        unfold text
        dsimp only
        rw [if_neg (by omega), if_pos (by omega), hf b1, b2, a2, e3, List.append_nil, Int.toNat_natCast]
      · rw [if_neg h3] at h ⊢
        obtain ⟨e1, e2, e3⟩ := fin_fine h
        exfalso
        have := may_ops e2
        dsimp only at this
        omega
theorem put_empty_iff {m : Msg} : ck m = 0 ↔ may m = true := by
  unfold ck
  split <;> simp_all
end Go.Proofs.YthledgkjfjdjoaaGreat.Ms
