/- Plain facts on changes: what may be may be behind them, which ask for no order, which may be done twice. Conditions: marks of 64 bits. -/
import Derived.Test.YtoeaclfbmppnmaaMtL
namespace Go.Proofs.Ytoeaclfbmppnmaa
open Go.ChangeShapes Go.WideShapes Go.RowKit Go.Codec Go.Num Go.Mt
set_option maxRecDepth 100000
theorem quiet_out (o : Option Nat) : quietN (outN o) = outN o := by
  cases o with
  | none => show quietN 9221120237041090561 = 9221120237041090561; rfl
  | some r => exact quiet_quiet r
theorem stp_quiet {mk op b : Nat} (h1 : 1 ≤ op) (h5 : op ≤ 5) : quietN (stp mk op b) = stp mk op b := by
  have q : ∀ x : Int, quietN (Nm.quietI x).toNat = (Nm.quietI x).toNat := fun x => by
    unfold Nm.quietI
    rw [Int.toNat_natCast]
    exact quiet_quiet _
  have o : ∀ o, quietN (((outN o : Nat) : Int)).toNat = (((outN o : Nat) : Int)).toNat := fun o => by
    rw [Int.toNat_natCast]
    exact quiet_out o
  unfold stp Nm.stepI
  have ho : op = 1 ∨ op = 2 ∨ op = 3 ∨ op = 4 ∨ op = 5 := by omega
  rcases ho with rfl | rfl | rfl | rfl | rfl
  · exact q b
  · exact o _
  · show quietN (Nm.grI _ _).toNat = (Nm.grI _ _).toNat
    unfold Nm.grI; split
    · exact q mk
    · exact q b
  · show quietN (Nm.leI _ _).toNat = (Nm.leI _ _).toNat
    unfold Nm.leI; split
    · exact q mk
    · exact q b
  · exact o _
theorem aMk_lt {k sz mk wh n op b : Nat} (hm : mk < 18446744073709551616) (hb : b < 18446744073709551616) : aMk k sz mk wh n op b < 18446744073709551616 := by
  unfold aMk apMk
  have := (stp_nat (op := op) hm hb).2
  split
  · split <;> assumption
  · exact hm
theorem mayM_eq (k sz mk : Nat) : mayM k sz mk = true ↔ ((k = 1 ∧ sz ≤ 2048 ∨ k = 2 ∧ sz = 0) ∧ quietN mk = mk) := by
  unfold mayM okSz
  by_cases h1 : k = 1
  · simp [h1]
  · by_cases h2 : k = 2
    · simp [h2]
    · simp [h1, h2]
theorem mayC_eq (wh n op b : Nat) : mayC wh n op b = true ↔ ((wh = 1 ∨ wh = 2) ∧ n ≤ 2048 ∧ op = 0 ∧ b = 0 ∨ wh = 3 ∧ n = 0 ∧ 1 ≤ op ∧ op ≤ 5 ∨ wh = 4 ∧ op = 0 ∧ b = 0) := by
  unfold mayC
  by_cases h1 : wh = 1 ∨ wh = 2
  · rw [if_pos h1]; simp; omega
  · rw [if_neg h1]
    by_cases h3 : wh = 3
    · rw [if_pos h3]; simp; omega
    · rw [if_neg h3]
      by_cases h4 : wh = 4
      · rw [if_pos h4]; simp; omega
      · rw [if_neg h4]; simp; omega
/-- What may be may be behind any change. -/
theorem may_behind (k sz mk wh n op b : Nat) : mayM k (aSz k sz mk wh n op b) (aMk k sz mk wh n op b) = mayM k sz mk := by
  unfold aSz aMk
  cases hb : both k sz mk wh n op b with
  | false => simp
  | true =>
    simp only [if_true]
    unfold both at hb
    rw [Bool.and_eq_true] at hb
    obtain ⟨h1, h2⟩ := hb
    rw [h1]
    rw [mayM_eq] at h1 ⊢
    rw [mayC_eq] at h2
    refine ⟨?_, ?_⟩
    · unfold apSz
      split
      · omega
      · split <;> omega
    · unfold apMk
      split
      · exact stp_quiet (by omega) (by omega)
      · exact h1.2
theorem both_behind (k sz mk wh n op b wh' n' op' b' : Nat) : both k (aSz k sz mk wh n op b) (aMk k sz mk wh n op b) wh' n' op' b' = both k sz mk wh' n' op' b' := by
  unfold both
  rw [may_behind]
theorem order_any (k sz mk st wh n op b wh' n' op' b' : Nat) (h : partN wh ≠ partN wh' ∨ wh = 1 ∧ wh' = 1) :
    aSz k (aSz k sz mk wh n op b) (aMk k sz mk wh n op b) wh' n' op' b' = aSz k (aSz k sz mk wh' n' op' b') (aMk k sz mk wh' n' op' b') wh n op b ∧
    aMk k (aSz k sz mk wh n op b) (aMk k sz mk wh n op b) wh' n' op' b' = aMk k (aSz k sz mk wh' n' op' b') (aMk k sz mk wh' n' op' b') wh n op b ∧
    aSt k (aSz k sz mk wh n op b) (aMk k sz mk wh n op b) (aSt k sz mk st wh n op b) wh' n' op' b' = aSt k (aSz k sz mk wh' n' op' b') (aMk k sz mk wh' n' op' b') (aSt k sz mk st wh' n' op' b') wh n op b := by
  have e1 : aSz k (aSz k sz mk wh n op b) (aMk k sz mk wh n op b) wh' n' op' b' = if both k sz mk wh' n' op' b' then apSz k (aSz k sz mk wh n op b) wh' n' else aSz k sz mk wh n op b := by rw [aSz, both_behind]
  have e2 : aSz k (aSz k sz mk wh' n' op' b') (aMk k sz mk wh' n' op' b') wh n op b = if both k sz mk wh n op b then apSz k (aSz k sz mk wh' n' op' b') wh n else aSz k sz mk wh' n' op' b' := by rw [aSz, both_behind]
  have e3 : aMk k (aSz k sz mk wh n op b) (aMk k sz mk wh n op b) wh' n' op' b' = if both k sz mk wh' n' op' b' then apMk (aMk k sz mk wh n op b) wh' op' b' else aMk k sz mk wh n op b := by rw [aMk, both_behind]
  have e4 : aMk k (aSz k sz mk wh' n' op' b') (aMk k sz mk wh' n' op' b') wh n op b = if both k sz mk wh n op b then apMk (aMk k sz mk wh' n' op' b') wh op b else aMk k sz mk wh' n' op' b' := by rw [aMk, both_behind]
  have e5 : aSt k (aSz k sz mk wh n op b) (aMk k sz mk wh n op b) (aSt k sz mk st wh n op b) wh' n' op' b' = if both k sz mk wh' n' op' b' then apSt (aSt k sz mk st wh n op b) wh' n' else aSt k sz mk st wh n op b := by rw [aSt, both_behind]
  have e6 : aSt k (aSz k sz mk wh' n' op' b') (aMk k sz mk wh' n' op' b') (aSt k sz mk st wh' n' op' b') wh n op b = if both k sz mk wh n op b then apSt (aSt k sz mk st wh' n' op' b') wh n else aSt k sz mk st wh' n' op' b' := by rw [aSt, both_behind]
  rw [e1, e2, e3, e4, e5, e6]
  unfold aSz aMk aSt
  cases hb : both k sz mk wh n op b <;> cases hb' : both k sz mk wh' n' op' b' <;> simp only [if_true, Bool.false_eq_true, if_false, and_self]
  unfold both at hb hb'
  rw [Bool.and_eq_true, mayC_eq] at hb hb'
  have h' : ¬ ((wh = 1 ∨ wh = 2) ∧ (wh' = 1 ∨ wh' = 2)) ∨ wh = 1 ∧ wh' = 1 := by
    rcases h with h | h
    · refine .inl fun ⟨a, c⟩ => h ?_
      rw [partN, partN, if_pos a, if_pos c]
    · exact .inr h
  unfold partN at h
  clear e1 e2 e3 e4 e5 e6
  refine ⟨?_, ?_, ?_⟩
  · unfold apSz
    split <;> split <;> (try split) <;> (try split) <;> omega
  · unfold apMk
    by_cases c1 : wh = 3
    · by_cases c2 : wh' = 3
      · exfalso; subst c1; subst c2; simp at h
      · simp [c1, c2]
    · simp [c1]
  · unfold apSt
    by_cases c1 : wh = 4
    · by_cases c2 : wh' = 4
      · exfalso; subst c1; subst c2; simp at h
      · simp [c1, c2]
    · simp [c1]
theorem twice (k sz mk st wh n op b : Nat) (h : partN wh ≠ 2) :
    aSz k (aSz k sz mk wh n op b) (aMk k sz mk wh n op b) wh n op b = aSz k sz mk wh n op b ∧
    aMk k (aSz k sz mk wh n op b) (aMk k sz mk wh n op b) wh n op b = aMk k sz mk wh n op b ∧
    aSt k (aSz k sz mk wh n op b) (aMk k sz mk wh n op b) (aSt k sz mk st wh n op b) wh n op b = aSt k sz mk st wh n op b := by
  have h3 : wh ≠ 3 := by rintro rfl; simp [partN] at h
  have e1 : aSz k (aSz k sz mk wh n op b) (aMk k sz mk wh n op b) wh n op b = if both k sz mk wh n op b then apSz k (aSz k sz mk wh n op b) wh n else aSz k sz mk wh n op b := by rw [aSz, both_behind]
  have e3 : aMk k (aSz k sz mk wh n op b) (aMk k sz mk wh n op b) wh n op b = if both k sz mk wh n op b then apMk (aMk k sz mk wh n op b) wh op b else aMk k sz mk wh n op b := by rw [aMk, both_behind]
  have e5 : aSt k (aSz k sz mk wh n op b) (aMk k sz mk wh n op b) (aSt k sz mk st wh n op b) wh n op b = if both k sz mk wh n op b then apSt (aSt k sz mk st wh n op b) wh n else aSt k sz mk st wh n op b := by rw [aSt, both_behind]
  rw [e1, e3, e5]
  unfold aSz aMk aSt
  cases hb : both k sz mk wh n op b <;> simp only [if_true, Bool.false_eq_true, if_false, and_self]
  refine ⟨?_, ?_, ?_⟩
  · unfold apSz
    split <;> (try split) <;> omega
  · unfold apMk; simp [h3]
  · unfold apSt; split <;> rfl
theorem only_part (k sz mk st wh n op b : Nat) : (partN wh ≠ 1 → aSz k sz mk wh n op b = sz) ∧ (partN wh ≠ 2 → aMk k sz mk wh n op b = mk) ∧ (partN wh ≠ 3 → aSt k sz mk st wh n op b = st) := by
  unfold aSz aMk aSt partN
  refine ⟨fun h => ?_, fun h => ?_, fun h => ?_⟩
  · have h12 : ¬ (wh = 1 ∨ wh = 2) := fun h12 => by rw [if_pos h12] at h; exact h rfl
    split
    · unfold apSz; rw [if_neg (by omega), if_neg (by omega)]
    · rfl
  · have h3 : wh ≠ 3 := by rintro rfl; simp at h
    split
    · unfold apMk; rw [if_neg h3]
    · rfl
  · have h4 : wh ≠ 4 := by rintro rfl; simp at h
    split
    · unfold apSt; rw [if_neg h4]
    · rfl
end Go.Proofs.Ytoeaclfbmppnmaa
