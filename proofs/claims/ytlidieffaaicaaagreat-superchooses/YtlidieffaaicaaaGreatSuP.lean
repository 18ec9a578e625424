/- Plain mathematics of superblocks: no program. Conditions: none. -/
import Derived.Test.YtlidieffaaicaaaGreatSeal
namespace Go.Super
open Go.Codec
/-- A superblock. -/
structure S where
  gen : Nat
  calls : Nat
  root : Int
  table : Int
  secs : Int
def S.none : S := ⟨0, 0, 0, 0, 0⟩
def S.Ok (s : S) : Prop := 1 ≤ s.gen ∧ 512 ≤ s.secs ∧ s.secs ≤ 4096 ∧ 66 ≤ s.root ∧ s.root < s.secs ∧ 66 ≤ s.table ∧ s.table < s.secs
instance (s : S) : Decidable s.Ok := by unfold S.Ok; infer_instance
def txt (s : S) : List UInt8 := be 8 s.calls ++ (be 2 s.root.toNat ++ (be 2 s.table.toNat ++ be 2 s.secs.toNat))
def put (s : S) : List UInt8 × Int := if s.Ok then (Seal.sheet s.gen 0 (txt s) 88, 0) else ([], 4)
/-- What a text of fourteen bytes tells. -/
def told (g : Nat) (t : List UInt8) : S := ⟨g, val (t.take 8), (val ((t.drop 8).take 2) : Nat), (val ((t.drop 10).take 2) : Nat), (val ((t.drop 12).take 2) : Nat)⟩
noncomputable def tk (l : List UInt8) : S × Int :=
  if ¬ (Seal.unstamp l).2.2.2 = 0 then (S.none, (Seal.unstamp l).2.2.2)
  else if ¬ l.length = 128 ∨ ¬ (Seal.unstamp l).2.1 = 0 ∨ ¬ (Seal.unstamp l).2.2.1.length = 14 then (S.none, 4)
  else if (told (Seal.unstamp l).1 (Seal.unstamp l).2.2.1).Ok then (told (Seal.unstamp l).1 (Seal.unstamp l).2.2.1, 0) else (S.none, 4)
theorem txt_length (s : S) : (txt s).length = 14 := by simp [txt, be_length]
theorem put_length (s : S) (h : s.Ok) : (put s).1.length = 128 := by
  unfold put
  rw [if_pos h, Seal.sheet_length, txt_length]
theorem told_txt (s : S) (h : s.Ok) (hc : s.calls < 18446744073709551616) : told s.gen (txt s) = s := by
  obtain ⟨g, c, r, t, n⟩ := s
  obtain ⟨_, h1, h2, h3, h4, h5, h6⟩ := h
  simp only at h1 h2 h3 h4 h5 h6 hc
  have e0 : (txt ⟨g, c, r, t, n⟩).take 8 = be 8 c := Seal.take_left (be_length _ _)
  have e1 : (txt ⟨g, c, r, t, n⟩).drop 8 = be 2 r.toNat ++ (be 2 t.toNat ++ be 2 n.toNat) := Seal.drop_left (be_length _ _)
  have e2 : (txt ⟨g, c, r, t, n⟩).drop 10 = be 2 t.toNat ++ be 2 n.toNat := by
    rw [show 10 = 8 + 2 from rfl, ← List.drop_drop, e1]
    exact Seal.drop_left (be_length _ _)
  have e3 : (txt ⟨g, c, r, t, n⟩).drop 12 = be 2 n.toNat := by
    rw [show 12 = 10 + 2 from rfl, ← List.drop_drop, e2]
    exact Seal.drop_left (be_length _ _)
  unfold told
  rw [e0, e1, e2, e3, Seal.be8_val hc, Seal.take_left (be_length _ _), Seal.take_left (be_length _ _), List.take_of_length_le (by rw [be_length]; exact Nat.le_refl _), Seal.be2_val (by omega), Seal.be2_val (by omega), Seal.be2_val (by omega)]
  simp only [S.mk.injEq, true_and]
  omega
theorem tk_sheet (g : Nat) (t : List UInt8) (n : Nat) (hg : g < 18446744073709551616) (ht : t.length + n = 102) : tk (Seal.sheet g 0 t n) = if ¬ t.length = 14 then (S.none, 4) else if (told g t).Ok then (told g t, 0) else (S.none, 4) := by
  have e := Seal.unstamp_sheet g 0 t n (by omega) hg (by omega)
  unfold tk
  rw [e, Seal.sheet_length, if_neg (by simp)]
  simp only
  by_cases h : t.length = 14
  · rw [if_neg (show ¬ (¬ 26 + t.length + n = 128 ∨ ¬ True ∨ ¬ t.length = 14) by rintro (h1 | h1 | h1); omega; exact h1 trivial; exact h1 h), if_neg (show ¬ ¬ t.length = 14 by omega)]
  · rw [if_pos (show ¬ 26 + t.length + n = 128 ∨ ¬ True ∨ ¬ t.length = 14 from .inr (.inr h)), if_pos h]
theorem tk_put (s : S) (h : s.Ok) (hg : s.gen < 18446744073709551616) (hc : s.calls < 18446744073709551616) : tk (put s).1 = (s, 0) := by
  have e : (put s).1 = Seal.sheet s.gen 0 (txt s) 88 := by unfold put; rw [if_pos h]
  rw [e, tk_sheet _ _ _ hg (by rw [txt_length]), if_neg (by rw [txt_length]; omega), told_txt s h hc, if_pos h]
theorem tk_none (l : List UInt8) (h : ¬ (tk l).2 = 0) : (tk l).1 = S.none := by
  unfold tk at h ⊢
  split
  · rfl
  · rename_i h1
    rw [if_neg h1] at h
    split
    · rfl
    · rename_i h2
      rw [if_neg h2] at h
      split
      · rename_i h3
        rw [if_pos h3] at h; exact absurd rfl h
      · rfl
theorem tk_ok (l : List UInt8) (h : (tk l).2 = 0) : (Seal.unstamp l).2.2.2 = 0 ∧ l.length = 128 ∧ (Seal.unstamp l).2.1 = 0 ∧ (Seal.unstamp l).2.2.1.length = 14 ∧ (told (Seal.unstamp l).1 (Seal.unstamp l).2.2.1).Ok ∧ tk l = (told (Seal.unstamp l).1 (Seal.unstamp l).2.2.1, 0) := by
  have h0 := h
  unfold tk at h
  split at h
  · rename_i h1; exact absurd h h1
  · rename_i h1
    split at h
    · simp at h
    · rename_i h2
      split at h
      · rename_i h3
        refine ⟨by omega, by omega, by omega, by omega, h3, ?_⟩
        unfold tk
        rw [if_neg h1, if_neg h2, if_pos h3]
      · simp at h
theorem val2 {t : List UInt8} (h : t.length = 2) : val t < 65536 := by
  have := val_lt t
  rw [h] at this
  exact this
theorem txt_told (g : Nat) (t : List UInt8) (h : t.length = 14) : txt (told g t) = t := by
  unfold txt told
  simp only [Int.toNat_natCast]
  have hb : ∀ (l : List UInt8) (k : Nat), l.length = k → be k (val l) = l := fun l k hl => by rw [← hl]; exact be_val l
  rw [hb _ 8 (by rw [List.length_take]; omega), hb _ 2 (by rw [List.length_take, List.length_drop]; omega), hb _ 2 (by rw [List.length_take, List.length_drop]; omega), hb _ 2 (by rw [List.length_take, List.length_drop]; omega)]
  have e3 : (t.drop 12).take 2 = t.drop 12 := List.take_of_length_le (by rw [List.length_drop]; omega)
  have e2 : (t.drop 10).take 2 ++ t.drop 12 = t.drop 10 := by
    have := List.take_append_drop 2 (t.drop 10)
    rwa [List.drop_drop] at this
  have e1 : (t.drop 8).take 2 ++ t.drop 10 = t.drop 8 := by
    have := List.take_append_drop 2 (t.drop 8)
    rwa [List.drop_drop] at this
  rw [e3, e2, e1, List.take_append_drop]
/-- What is read of a text has that text. -/
theorem put_tk (l : List UInt8) (h : (tk l).2 = 0) : put (tk l).1 = (l, 0) := by
  obtain ⟨h1, h2, h3, h4, h5, h6⟩ := tk_ok l h
  have hb := Seal.stamp_back l h1
  rw [h6]
  unfold put
  simp only
  rw [if_pos h5, txt_told _ _ h4]
  unfold Seal.stamp at hb
  rw [h2, h3, h4] at hb
  split at hb
  · simp at hb
  · have e : (told (Seal.unstamp l).1 (Seal.unstamp l).2.2.1).gen = (Seal.unstamp l).1 := rfl
    rw [e]
    split at hb
    · simp at hb
    · exact hb
end Go.Super
