/- Plain facts on patches: what is put is taken, a beginning is torn, what a patch makes. No program. Conditions: none. -/
import Derived.Test.YthledgkjfjdjoaaGreatBlk
namespace Go.Blk
open Go.Codec
theorem be1 (n : Nat) : be 1 n = [UInt8.ofNat n] := by simp [be]
theorem be2 (n : Nat) : be 2 n = [UInt8.ofNat (n / 256), UInt8.ofNat n] := by simp [be]
theorem textP_cut (a n : Nat) (s : List UInt8) : textP true a n s = [2, UInt8.ofNat n] := by simp [textP, be1]
theorem textP_splice (a n : Nat) (s : List UInt8) : textP false a n s = 1 :: UInt8.ofNat a :: UInt8.ofNat (s.length / 256) :: UInt8.ofNat s.length :: s := by simp [textP, be1, be2]
theorem u8_toNat {n : Nat} (h : n < 256) : (UInt8.ofNat n).toNat = n := by simp; omega
theorem tk_cut {n : Nat} (h : n < 64) : tk [2, UInt8.ofNat n] = ⟨true, 0, n, [], 0⟩ := by
  have e : (UInt8.ofNat n).toNat = n := u8_toNat (by omega)
  have hm : may true 0 (n : Int) [] = true := may_cut.2 ⟨by omega, by omega, rfl, rfl⟩
  simp [tk, byte]
  rw [Nat.mod_eq_of_lt (by omega : n < 256)]
  have e2 : (n : Int) % 256 = n := by omega
  rw [e2, hm]
  simp
theorem tk_splice {a : Nat} {s : List UInt8} (hm : may false a 0 s = true) : tk (1 :: UInt8.ofNat a :: UInt8.ofNat (s.length / 256) :: UInt8.ofNat s.length :: s) = ⟨false, a, 0, s, 0⟩ := by
  obtain ⟨h1, h2, h3, -⟩ := may_splice.1 hm
  have hz : size2 (1 :: UInt8.ofNat a :: UInt8.ofNat (s.length / 256) :: UInt8.ofNat s.length :: s) = s.length := by
    simp [size2, byte]
    omega
  have hb : (byte (1 :: UInt8.ofNat a :: UInt8.ofNat (s.length / 256) :: UInt8.ofNat s.length :: s) 1).toNat = a := u8_toNat (by omega)
  have h0 : (byte (1 :: UInt8.ofNat a :: UInt8.ofNat (s.length / 256) :: UInt8.ofNat s.length :: s) 0).toNat = 1 := rfl
  unfold tk
  rw [hz, hb, h0, if_neg (by simp), if_pos rfl, if_neg (by simp only [List.length_cons]; omega), if_neg]
  · rfl
  · rintro (h | h)
    · simp only [List.length_cons] at h; omega
    · have : may false (a : Int) 0 s = false := h
      rw [hm] at this
      exact absurd this (by simp)
theorem tk_put {c : Bool} {a n : Int} {s : List UInt8} (h : may c a n s = true) : tk (textP c a.toNat n.toNat s) = ⟨c, a.toNat, n.toNat, s, 0⟩ := by
  cases c with
  | true =>
    obtain ⟨h1, h2, rfl, rfl⟩ := may_cut.1 h
    rw [textP_cut, tk_cut (by omega)]
    rfl
  | false =>
    obtain ⟨h1, h2, h3, rfl⟩ := may_splice.1 h
    rw [textP_splice, tk_splice (may_splice.2 ⟨h1, by omega, by omega, rfl⟩)]
    rfl
theorem textP_pos (c : Bool) (a n : Nat) (s : List UInt8) : 0 < (textP c a n s).length := by
  cases c
  · rw [textP_splice]; simp
  · rw [textP_cut]; simp
theorem textP_len (c : Bool) (a n : Nat) (s : List UInt8) : (textP c a n s).length ≤ 4 + s.length := by
  cases c
  · rw [textP_splice]; simp only [List.length_cons]; omega
  · rw [textP_cut]; simp only [List.length_cons, List.length_nil]; omega
theorem putP_len (c : Bool) (a n : Int) (s : List UInt8) : (putP c a n s).length ≤ 68 := by
  unfold putP
  split
  · rename_i h
    refine Nat.le_trans (textP_len _ _ _ _) ?_
    cases c with
    | true => obtain ⟨-, -, -, rfl⟩ := may_cut.1 h; simp
    | false => obtain ⟨-, h2, h3, -⟩ := may_splice.1 h; omega
  · simp
/-- A beginning of a patch's text is torn. -/
theorem tk_torn {c : Bool} {a n : Int} {s : List UInt8} (h : may c a n s = true) {k : Nat} (hk : k < (textP c a.toNat n.toNat s).length) : tk ((textP c a.toNat n.toNat s).take k) = .no 10 := by
  cases k with
  | zero => simp [tk]
  | succ k =>
    cases c with
    | true =>
      rw [textP_cut] at hk ⊢
      obtain rfl : k = 0 := by simp at hk; omega
      simp [tk, byte]
    | false =>
      obtain ⟨h1, h2, h3, rfl⟩ := may_splice.1 h
      rw [textP_splice] at hk ⊢
      rw [List.take_succ_cons]
      simp only [List.length_cons] at hk
      have h0 : ∀ l : List UInt8, (byte (1 :: l) 0).toNat = 1 := fun _ => rfl
      unfold tk
      rw [h0, if_neg (by simp), if_pos rfl]
      refine if_pos ?_
      simp only [List.length_cons, List.length_take]
      by_cases h4 : k < 3
      · exact .inl (by omega)
      · obtain ⟨j, rfl⟩ : ∃ j, k = j + 3 := ⟨k - 3, by omega⟩
        right
        have hz : size2 (1 :: (UInt8.ofNat a.toNat :: UInt8.ofNat (s.length / 256) :: UInt8.ofNat s.length :: s).take (j + 3)) = s.length := by
          simp [size2, byte]
          omega
        rw [hz]
        omega
theorem tk_err (l : List UInt8) (h : (tk l).e ≠ 0) : tk l = .no (tk l).e ∧ ((tk l).e = 4 ∨ (tk l).e = 10) := by
  unfold tk at h ⊢
  repeat' split
  all_goals first | exact ⟨rfl, .inl rfl⟩ | exact ⟨rfl, .inr rfl⟩ | skip
  all_goals
    exfalso
    simp_all
/-- What is taken may be, and has that text. -/
theorem tk_ok (l : List UInt8) (h : (tk l).e = 0) : may (tk l).c (tk l).a (tk l).n (tk l).s = true ∧ textP (tk l).c (tk l).a (tk l).n (tk l).s = l := by
  by_cases h0 : l.length = 0
  · simp [tk, h0, Pt.no] at h
  by_cases h1 : (byte l 0).toNat = 1
  · by_cases h2 : l.length < 4 ∨ l.length < 4 + size2 l
    · simp [tk, h0, h1, h2, Pt.no] at h
    by_cases h3 : 4 + size2 l < l.length ∨ may false (byte l 1).toNat 0 (l.drop 4) = false
    · unfold tk at h; rw [if_neg h0, if_pos h1, if_neg h2, if_pos h3] at h; simp [Pt.no] at h
    have e : tk l = ⟨false, (byte l 1).toNat, 0, l.drop 4, 0⟩ := by unfold tk; rw [if_neg h0, if_pos h1, if_neg h2, if_neg h3]
    rw [e]
    refine ⟨by simpa using (not_or.1 h3).2, ?_⟩
    show textP false (byte l 1).toNat 0 (l.drop 4) = l
    have hlen : l.length = 4 + size2 l := by omega
    rcases l with _ | ⟨b0, _ | ⟨b1, _ | ⟨b2, _ | ⟨b3, s⟩⟩⟩⟩
    · simp at h0
    · simp at h2
    · simp at h2
    · simp at h2
    · rw [textP_splice]
      have g0 : b0.toNat = 1 := h1
      have g1 : byte (b0 :: b1 :: b2 :: b3 :: s) 1 = b1 := rfl
      have g4 : (b0 :: b1 :: b2 :: b3 :: s).drop 4 = s := rfl
      have hz : s.length = b2.toNat * 256 + b3.toNat := by
        have : size2 (b0 :: b1 :: b2 :: b3 :: s) = b2.toNat * 256 + b3.toNat := rfl
        simp only [List.length_cons] at hlen
        omega
      have l2 := b2.toNat_lt; have l3 := b3.toNat_lt
      have e0 : b0 = 1 := by apply UInt8.toNat_inj.1; exact g0
      have e2 : UInt8.ofNat (s.length / 256) = b2 := by apply UInt8.toNat_inj.1; simp; omega
      have e3 : UInt8.ofNat s.length = b3 := by apply UInt8.toNat_inj.1; simp; omega
      have e1 : UInt8.ofNat b1.toNat = b1 := by simp
      rw [g1, g4, e0, e1, e2, e3]
  by_cases h2 : (byte l 0).toNat = 2
  · by_cases h3 : l.length < 2
    · simp [tk, h0, h2, h3, Pt.no] at h
    by_cases h4 : 2 < l.length ∨ may true 0 (byte l 1).toNat [] = false
    · unfold tk at h; rw [if_neg h0, if_neg h1, if_pos h2, if_neg h3, if_pos h4] at h; simp [Pt.no] at h
    have e : tk l = ⟨true, 0, (byte l 1).toNat, [], 0⟩ := by unfold tk; rw [if_neg h0, if_neg h1, if_pos h2, if_neg h3, if_neg h4]
    rw [e]
    refine ⟨by simpa using (not_or.1 h4).2, ?_⟩
    rcases l with _ | ⟨b0, _ | ⟨b1, _ | ⟨b2, s⟩⟩⟩
    · simp at h0
    · simp at h3
    · rw [textP_cut]
      have e0 : b0 = 2 := by apply UInt8.toNat_inj.1; exact h2
      have g1 : byte [b0, b1] 1 = b1 := rfl
      rw [g1, e0]
      simp
    · simp at h4
  · simp [tk, h0, h1, h2, Pt.no] at h
theorem tk_back (l : List UInt8) (h : (tk l).e = 0) : putP (tk l).c (tk l).a (tk l).n (tk l).s = l ∧ ckP (tk l).c (tk l).a (tk l).n (tk l).s = 0 := by
  obtain ⟨h1, h2⟩ := tk_ok l h
  unfold putP ckP
  rw [if_pos h1, if_pos h1]
  exact ⟨h2, rfl⟩
/-- What stands behind a patch, ahead of trimming. -/
def img (l : List UInt8) (c : Bool) (a n : Int) (s : List UInt8) (i : Nat) : UInt8 :=
  if 64 ≤ i then 0 else if may c a n s = true then (if c = true then (if i < n.toNat then byte l i else 0) else if a.toNat ≤ i ∧ i < a.toNat + s.length then byte s (i - a.toNat) else byte l i) else byte l i
theorem apl_byte (l : List UInt8) (c : Bool) (a n : Int) (s : List UInt8) (i : Nat) : byte (apl l c a n s) i = img l c a n s i := by
  unfold apl img
  rw [trim_byte]
  by_cases hm : may c a n s = true
  · rw [if_pos hm, if_pos hm]
    cases c with
    | true =>
      obtain ⟨h1, h2, rfl, rfl⟩ := may_cut.1 hm
      rw [if_pos rfl, if_pos rfl, byte_tell, Nat.zero_add]
      by_cases h : 64 ≤ i
      · rw [if_pos h, if_neg (by omega)]
      · rw [if_neg h]
    | false =>
      obtain ⟨h1, h2, h3, rfl⟩ := may_splice.1 hm
      rw [if_neg (show ¬ (false = true) by simp), if_neg (show ¬ (false = true) by simp), List.append_assoc, byte_append, tell_len, byte_append, byte_tell, byte_tell]
      by_cases h : 64 ≤ i
      · rw [if_pos h, if_neg (by omega), if_neg (by omega), if_neg (by omega)]
      · rw [if_neg h]
        by_cases g1 : i < a.toNat
        · rw [if_pos g1, if_pos g1, if_neg (by omega), Nat.zero_add]
        · rw [if_neg g1]
          by_cases g2 : i - a.toNat < s.length
          · rw [if_pos g2, if_pos (by omega)]
          · rw [if_neg g2, if_pos (by omega), if_neg (by omega)]
            congr 1
            omega
  · rw [if_neg hm, if_neg hm, byte_take]
    by_cases h : 64 ≤ i
    · rw [if_pos h, if_neg (by omega)]
    · rw [if_neg h, if_pos (by omega)]
theorem apl_len (l : List UInt8) (c : Bool) (a n : Int) (s : List UInt8) : (apl l c a n s).length ≤ 64 := by
  unfold apl
  refine Nat.le_trans (trim_len _) ?_
  split
  · rename_i hm
    split
    · rename_i hc
      subst hc
      obtain ⟨h1, h2, -, -⟩ := may_cut.1 hm
      rw [tell_len]; omega
    · rename_i hc
      obtain rfl : c = false := by simpa using hc
      obtain ⟨h1, h2, h3, -⟩ := may_splice.1 hm
      simp only [List.length_append, tell_len]
      omega
  · simp; omega
theorem apl_trim (l : List UInt8) (c : Bool) (a n : Int) (s : List UInt8) : trim (apl l c a n s) = apl l c a n s := trim_idem _
theorem apl_of (m l : List UInt8) (c : Bool) (a n : Int) (s : List UInt8) (h : ∀ i, byte m i = img l c a n s i) : trim m = apl l c a n s := by
  rw [← apl_trim]
  exact trim_ext fun i => by rw [h, apl_byte]
theorem apl_twice (l : List UInt8) (c : Bool) (a n : Int) (s : List UInt8) : apl (apl l c a n s) c a n s = apl l c a n s := by
  have h : ∀ i, byte (apl (apl l c a n s) c a n s) i = byte (apl l c a n s) i := fun i => by
    rw [apl_byte, apl_byte]
    unfold img
    rw [apl_byte]
    unfold img
    repeat' split
    all_goals first | rfl | omega
  have e := trim_ext h
  rwa [apl_trim, apl_trim] at e
theorem apl_check (l : List UInt8) (c : Bool) (a n : Int) (s : List UInt8) (h : apl l c a n s ≠ []) : ckV (apl l c a n s) = 0 := by
  unfold ckV
  refine if_neg ?_
  rintro (h1 | h1 | h1)
  · exact h h1
  · have := apl_len l c a n s; omega
  · exact trim_last _ h h1
theorem apl_no {l : List UInt8} {c : Bool} {a n : Int} {s : List UInt8} (h : may c a n s = false) : apl l c a n s = trim (l.take 64) := by
  unfold apl
  rw [h]
  rfl
theorem apl_cut {l : List UInt8} {a n : Int} {s : List UInt8} (h : may true a n s = true) : tell (apl l true a n s) 0 n.toNat = tell (l.take 64) 0 n.toNat ∧ (apl l true a n s).length ≤ n.toNat := by
  obtain ⟨h1, h2, -, -⟩ := may_cut.1 h
  constructor
  · apply tell_ext
    intro i hi
    rw [apl_byte, Nat.zero_add, byte_take, if_pos (by omega)]
    unfold img
    rw [if_neg (by omega), if_pos h, if_pos rfl, if_pos hi]
  · unfold apl
    rw [if_pos h, if_pos rfl]
    have := trim_len (tell l 0 n.toNat)
    rw [tell_len] at this
    exact this
theorem apl_splice {l : List UInt8} {a n : Int} {s : List UInt8} (h : may false a n s = true) :
    tell (apl l false a n s) a.toNat s.length = s ∧ tell (apl l false a n s) 0 a.toNat = tell (l.take 64) 0 a.toNat ∧
    tell (apl l false a n s) (a.toNat + s.length) (64 - (a.toNat + s.length)) = tell (l.take 64) (a.toNat + s.length) (64 - (a.toNat + s.length)) := by
  obtain ⟨h1, h2, h3, -⟩ := may_splice.1 h
  refine ⟨?_, ?_, ?_⟩
  · apply list_ext (tell_len _ _ _)
    intro i hi
    rw [tell_len] at hi
    rw [byte_tell, if_pos hi, apl_byte]
    unfold img
    rw [if_neg (by omega), if_pos h, if_neg (show ¬ (false = true) by simp), if_pos (by omega)]
    congr 1
    omega
  · apply tell_ext
    intro i hi
    rw [apl_byte, Nat.zero_add, byte_take, if_pos (by omega)]
    unfold img
    rw [if_neg (by omega), if_pos h, if_neg (show ¬ (false = true) by simp), if_neg (by omega)]
  · apply tell_ext
    intro i hi
    rw [apl_byte, byte_take, if_pos (by omega)]
    unfold img
    rw [if_neg (by omega), if_pos h, if_neg (show ¬ (false = true) by simp), if_neg (by omega)]
end Go.Blk
