/- Plain facts on changes: what may be may be behind them. Conditions: marks of 64 bits. -/
import Derived.Test.YthledgkjfjdjoaaGreatMtF
namespace Go.Proofs.YthledgkjfjdjoaaGreat.Mt
open Go.ChangeShapes Go.WideShapes Go.RowKit Go.Codec Go.Num Go.Mt
set_option maxRecDepth 100000
theorem quiet_out (o : Option Nat) : quietN (outN o) = outN o := by
  cases o with
  | none => show quietN 9221120237041090561 = 9221120237041090561; rfl
  | some r => exact quiet_quiet r
theorem stp_quiet {mk op b : Nat} (h1 : 1 ≤ op) (h5 : op ≤ 5) : quietN (stp mk op b) = stp mk op b := by
  have q : ∀ x : Int, quietN (Nm.quietI x).toNat = (Nm.quietI x).toNat := fun x => by
    unfold Nm.quietI
    rw [Int.toNat_natCast]
    exact quiet_quiet _
  have o : ∀ o, quietN (((outN o : Nat) : Int)).toNat = (((outN o : Nat) : Int)).toNat := fun o => by
    rw [Int.toNat_natCast]
    exact quiet_out o
  unfold stp Nm.stepI
  have ho : op = 1 ∨ op = 2 ∨ op = 3 ∨ op = 4 ∨ op = 5 := by omega
  rcases ho with rfl | rfl | rfl | rfl | rfl
  · exact q b
  · exact o _
  · show quietN (Nm.grI _ _).toNat = (Nm.grI _ _).toNat
    unfold Nm.grI; split
    · exact q mk
    · exact q b
  · show quietN (Nm.leI _ _).toNat = (Nm.leI _ _).toNat
    unfold Nm.leI; split
    · exact q mk
    · exact q b
  · exact o _
theorem aMk_lt {k sz mk wh n op b : Nat} (hm : mk < 18446744073709551616) (hb : b < 18446744073709551616) : aMk k sz mk wh n op b < 18446744073709551616 := by
  unfold aMk apMk
  have := (stp_nat (op := op) hm hb).2
  split
  · split <;> assumption
  · exact hm
theorem mayM_eq (k sz mk : Nat) : mayM k sz mk = true ↔ ((k = 1 ∧ sz ≤ 2048 ∨ k = 2 ∧ sz = 0) ∧ quietN mk = mk) := by
  unfold mayM okSz
  by_cases h1 : k = 1
  · simp [h1]
  · by_cases h2 : k = 2
    · simp [h2]
    · simp [h1, h2]
theorem mayC_eq (wh n op b : Nat) : mayC wh n op b = true ↔ ((wh = 1 ∨ wh = 2) ∧ n ≤ 2048 ∧ op = 0 ∧ b = 0 ∨ wh = 3 ∧ n = 0 ∧ 1 ≤ op ∧ op ≤ 5 ∨ wh = 4 ∧ op = 0 ∧ b = 0) := by
  unfold mayC
  by_cases h1 : wh = 1 ∨ wh = 2
  · rw [if_pos h1]; simp; omega
  · rw [if_neg h1]
    by_cases h3 : wh = 3
    · rw [if_pos h3]; simp; omega
    · rw [if_neg h3]
      by_cases h4 : wh = 4
      · rw [if_pos h4]; simp; omega
      · rw [if_neg h4]; simp; omega
/-- What may be may be behind any change. -/
theorem may_behind (k sz mk wh n op b : Nat) : mayM k (aSz k sz mk wh n op b) (aMk k sz mk wh n op b) = mayM k sz mk := by
  unfold aSz aMk
  cases hb : both k sz mk wh n op b with
  | false => simp
  | true =>
    simp only [if_true]
    unfold both at hb
    rw [Bool.and_eq_true] at hb
    obtain ⟨h1, h2⟩ := hb
    rw [h1]
    rw [mayM_eq] at h1 ⊢
    rw [mayC_eq] at h2
    refine ⟨?_, ?_⟩
    · unfold apSz
      split
      · omega
      · split <;> omega
    · unfold apMk
      split
      · exact stp_quiet (by omega) (by omega)
      · exact h1.2
end Go.Proofs.YthledgkjfjdjoaaGreat.Mt
