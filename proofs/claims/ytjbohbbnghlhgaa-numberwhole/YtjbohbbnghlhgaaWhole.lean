/- Of whole numbers of at most 53 binary digits: what float says them, and that sums and products of the floats of whole numbers below 2^26 say the sum and the product. Conditions: the bounds that each lemma names. -/
import Derived.Test.YtjbohbbnghlhgaaNum
namespace Go.Num
open Ieee

theorem cut_none (neg : Bool) (n : Nat) : Toward.even.cut neg n 0 = n := by
  unfold Toward.cut
  simp [Nat.mod_one]
theorem cut_exact (neg : Bool) (q d : Nat) (hq : 0 < q) : Toward.even.cut neg (q * 2 ^ d) d = q := by
  have hp := Nat.two_pow_pos d
  have hl : d ≤ (q * 2 ^ d).log2 := by
    rw [Nat.le_log2 (by have := Nat.mul_pos hq hp; omega)]
    exact Nat.le_mul_of_pos_left _ hq
  unfold Toward.cut
  have hm : min d ((q * 2 ^ d).log2 + 2) = d := by omega
  simp only [hm, Nat.shiftLeft_eq, Nat.one_mul, Nat.mul_div_cancel _ hp, Nat.mul_mod_left]
  have h1 : decide (2 ^ d < 2 * 0) = false := by simp
  have h2 : (2 ^ d == 2 * 0) = false := by simp
  rw [h1, h2]; rfl
theorem word_pos (r : Nat) : double.word false r = r := rfl
theorem word_neg (r : Nat) : double.word true r = 9223372036854775808 + r := by
  have e1 : double.signWeight = 9223372036854775808 := by decide
  unfold Format.word; rw [e1]; rfl
theorem sval_word (neg : Bool) (r : Nat) (h : r < 9223372036854775808) : sval (double.word neg r) = if neg then -(val r : Int) else (val r : Int) := by
  cases neg
  · rw [word_pos]; unfold sval; rw [if_neg (by omega), Nat.mod_eq_of_lt h]; rfl
  · rw [word_neg]; unfold sval; rw [if_pos (by omega), show (9223372036854775808 + r) % 9223372036854775808 = r by omega]; rfl
theorem log2_shift (m k : Nat) (hm : 0 < m) : (m * 2 ^ k).log2 = m.log2 + k := by
  have hp := Nat.two_pow_pos k
  have h0 : m * 2 ^ k ≠ 0 := by have := Nat.mul_pos hm hp; omega
  rw [Nat.log2_eq_iff h0]
  have h := (Nat.log2_eq_iff (n := m) (k := m.log2) (by omega)).1 rfl
  constructor
  · rw [Nat.pow_add]; exact Nat.mul_le_mul_right _ h.1
  · rw [show m.log2 + k + 1 = (m.log2 + 1) + k by omega, Nat.pow_add]; exact Nat.mul_lt_mul_of_pos_right h.2 hp
theorem nearest_step (neg : Bool) (m k l K : Nat) (hm : 0 < m) (hk : m * 2 ^ k = K * 2 ^ l) (hlo : 4503599627370496 ≤ K) (hhi : K < 9007199254740992) (hl : l ≤ 1074) :
    ∃ r, double.nearest neg m (-1074 + (k : Int)) = double.word neg r ∧ val r = K * 2 ^ l ∧ r < 9218868437227405312 := by
  have e1 : double.fractionBits = 52 := rfl
  have e2 : double.binade = 4503599627370496 := by decide
  have e3 : double.leastPlace = -1074 := by decide
  have e4 : double.infRung = 9218868437227405312 := by decide
  have hK : K.log2 = 52 := by
    rw [Nat.log2_eq_iff (by omega)]; omega
  have hL : m.log2 + k = 52 + l := by
    have h1 := log2_shift m k hm
    rw [hk, log2_shift K l (by omega), hK] at h1
    omega
  refine ⟨l * 4503599627370496 + K, ?_, ?_, by omega⟩
  · unfold Format.nearest
    rw [if_neg (by omega)]
    simp only [e1, e2, e3, e4]
    have hlast : max (-1074 + (k : Int) + (m.log2 : Int) - ((52 : Nat) : Int)) (-1074) = -1074 + (l : Int) := by omega
    rw [hlast]
    have hkept : Toward.even.cut neg (m <<< (-1074 + (k : Int) - (-1074 + (l : Int))).toNat) (-1074 + (l : Int) - (-1074 + (k : Int))).toNat = K := by
      by_cases h : l ≤ k
      · have t1 : (-1074 + (k : Int) - (-1074 + (l : Int))).toNat = k - l := by omega
        have t2 : (-1074 + (l : Int) - (-1074 + (k : Int))).toNat = 0 := by omega
        rw [t1, t2, cut_none, Nat.shiftLeft_eq]
        have : m * 2 ^ (k - l) * 2 ^ l = K * 2 ^ l := by rw [Nat.mul_assoc, ← Nat.pow_add, show k - l + l = k by omega]; exact hk
        exact Nat.eq_of_mul_eq_mul_right (Nat.two_pow_pos l) this
      · have t1 : (-1074 + (k : Int) - (-1074 + (l : Int))).toNat = 0 := by omega
        have t2 : (-1074 + (l : Int) - (-1074 + (k : Int))).toNat = l - k := by omega
        have : m = K * 2 ^ (l - k) := by
          apply Nat.eq_of_mul_eq_mul_right (Nat.two_pow_pos k)
          rw [Nat.mul_assoc, ← Nat.pow_add, show l - k + k = l by omega]; exact hk
        rw [t1, t2, Nat.shiftLeft_zero, this, cut_exact _ _ _ (by omega)]
    rw [hkept]
    refine congrArg (double.word neg) ?_
    have h1 : (-1074 + (l : Int) - -1074).toNat = l := by omega
    rw [h1]
    exact Nat.min_eq_left (by omega)
  · unfold val
    rw [if_neg (by omega)]
    have d1 : (l * 4503599627370496 + K) / 4503599627370496 - 1 = l := by omega
    have d2 : 4503599627370496 + (l * 4503599627370496 + K) % 4503599627370496 = K := by omega
    rw [d1, d2]
/-- A magnitude that is a whole number of at most 53 digits is written exactly. -/
theorem nearest_whole (neg : Bool) (m k N E : Nat) (hE : E = 1074) (hN : m * 2 ^ k = N * 2 ^ E) (hb : N < 9007199254740992) :
    ∃ r, double.nearest neg m (-1074 + (k : Int)) = double.word neg r ∧ val r = N * 2 ^ E ∧ r < 9218868437227405312 := by
  by_cases hm : m = 0
  · refine ⟨0, ?_, ?_, by decide⟩
    · unfold Format.nearest; rw [if_pos hm]
    · subst hm
      rw [val_zero, ← hN, Nat.zero_mul]
  · have hN0 : 0 < N := by
      by_cases h : N = 0
      · subst h; rw [Nat.zero_mul] at hN; have := Nat.mul_pos (show 0 < m by omega) (Nat.two_pow_pos k); omega
      · omega
    have hlog : N.log2 ≤ 52 := by
      have h1 : N.log2 < 53 := by rw [Nat.log2_lt (by omega)]; omega
      omega
    have hl := (Nat.log2_eq_iff (n := N) (k := N.log2) (by omega)).1 rfl
    have hs : N * 2 ^ (52 - N.log2) * 2 ^ (1022 + N.log2) = N * 2 ^ E := by
      rw [Nat.mul_assoc, ← Nat.pow_add, show 52 - N.log2 + (1022 + N.log2) = E by omega]
    have p1 : 2 ^ N.log2 * 2 ^ (52 - N.log2) = 4503599627370496 := by
      rw [← Nat.pow_add, show N.log2 + (52 - N.log2) = 52 by omega]
    have p2 : 2 ^ (N.log2 + 1) * 2 ^ (52 - N.log2) = 9007199254740992 := by
      rw [← Nat.pow_add, show N.log2 + 1 + (52 - N.log2) = 53 by omega]
    have b1 := Nat.mul_le_mul_right (2 ^ (52 - N.log2)) hl.1
    have b2 := Nat.mul_lt_mul_of_pos_right hl.2 (Nat.two_pow_pos (52 - N.log2))
    rw [p1] at b1; rw [p2] at b2
    obtain ⟨r, h1, h2, h3⟩ := nearest_step neg m k (1022 + N.log2) (N * 2 ^ (52 - N.log2)) (by omega) (by rw [hs]; exact hN) b1 b2 (by omega)
    exact ⟨r, h1, by rw [h2, hs], h3⟩
/-- A finite word, with a bound on its magnitude. -/
theorem read_fin' {x : Nat} (hx : x < 18446744073709551616) (h : x % 9223372036854775808 < 9218868437227405312) : ∃ m : Nat, ∃ k : Nat, double.read x = .number (decide (9223372036854775808 ≤ x)) m (-1074 + (k : Int)) ∧ m * 2 ^ k = val (x % 9223372036854775808) ∧ m < 9007199254740992 := by
  have hs : (x / 9223372036854775808 % 2 == 1) = decide (9223372036854775808 ≤ x) := by rw [Bool.eq_iff_iff]; simp; omega
  by_cases h1 : x % 9223372036854775808 < 4503599627370496
  · exact ⟨_, 0, by rw [read_lo h1, hs]; rfl, by unfold val; rw [if_pos h1]; simp, by omega⟩
  · exact ⟨_, _, by rw [read_mid h1 h, hs], by unfold val; rw [if_neg h1], by omega⟩
/-- A word that says the whole number n. -/
def Says (E : Nat) (x : Nat) (n : Int) : Prop := x < 18446744073709551616 ∧ x % 9223372036854775808 < 9218868437227405312 ∧ sval x = n * ((2 ^ E : Nat) : Int)
theorem says_of (E : Nat) (hE : E = 1074) (s : Bool) (m k : Nat) (n : Int) (hm : m * 2 ^ k = n.natAbs * 2 ^ E) (hb : n.natAbs < 9007199254740992) (hs : n ≠ 0 → s = decide (n < 0)) :
    Says E (double.nearest s m (-1074 + (k : Int))) n := by
  obtain ⟨r, h1, h2, h3⟩ := nearest_whole s m k n.natAbs E hE hm hb
  rw [h1]
  have hw : double.word s r < 18446744073709551616 ∧ double.word s r % 9223372036854775808 < 9218868437227405312 := by
    cases s
    · rw [word_pos]; omega
    · rw [word_neg]; omega
  refine ⟨hw.1, hw.2, ?_⟩
  rw [sval_word s r (by omega), h2]
  by_cases h0 : n = 0
  · subst h0; cases s <;> simp
  · rw [hs h0]
    by_cases hn : n < 0
    · have e : ((n.natAbs : Nat) : Int) = -n := by omega
      simp only [hn, decide_true, if_true]
      rw [Int.natCast_mul, e, Int.neg_mul, Int.neg_neg]
    · have e : ((n.natAbs : Nat) : Int) = n := by omega
      simp only [hn, decide_false, Bool.false_eq_true, if_false]
      rw [Int.natCast_mul, e]
/-- What says a whole number, opened. -/
theorem says_read {E x : Nat} {n : Int} (h : Says E x n) : ∃ m k : Nat, ∃ s : Bool, double.read x = .number s m (-1074 + (k : Int)) ∧ m * 2 ^ k = n.natAbs * 2 ^ E ∧ m < 9007199254740992 ∧ (n ≠ 0 → s = decide (n < 0)) := by
  obtain ⟨m, k, h1, h2, h3⟩ := read_fin' h.1 h.2.1
  have hv := h.2.2
  have hp : (0 : Int) < ((2 ^ E : Nat) : Int) := by have := Nat.two_pow_pos E; omega
  refine ⟨m, k, _, h1, ?_, h3, ?_⟩
  · rw [h2]
    unfold sval at hv
    have e : ((val (x % 9223372036854775808) : Nat) : Int).natAbs = (n * ((2 ^ E : Nat) : Int)).natAbs := by
      rw [← hv]; split <;> omega
    rw [Int.natAbs_mul, Int.natAbs_natCast, Int.natAbs_natCast] at e
    exact e
  · intro h0
    unfold sval at hv
    rw [decide_eq_decide]
    constructor
    · intro ht
      rw [if_pos ht] at hv
      by_cases hn : n < 0
      · exact hn
      · have := Int.mul_pos (show 0 < n by omega) hp; omega
    · intro hn
      by_cases ht : 9223372036854775808 ≤ x
      · exact ht
      · rw [if_neg ht] at hv
        have := Int.mul_neg_of_neg_of_pos hn hp
        omega
theorem scale' (s : Bool) (m k b E : Nat) (n : Int) (h : b ≤ k) (hm : m * 2 ^ k = n.natAbs * 2 ^ E) (hs : n ≠ 0 → s = decide (n < 0)) : signed s m (k - b) * ((2 ^ b : Nat) : Int) = n * ((2 ^ E : Nat) : Int) := by
  rw [scale s m k b h, hm]
  by_cases h0 : n = 0
  · subst h0; cases s <;> simp
  · rw [hs h0]
    by_cases hn : n < 0
    · have e : ((n.natAbs : Nat) : Int) = -n := by omega
      simp only [hn, decide_true, if_true]
      rw [Int.natCast_mul, e, Int.neg_mul, Int.neg_neg]
    · have e : ((n.natAbs : Nat) : Int) = n := by omega
      simp only [hn, decide_false, Bool.false_eq_true, if_false]
      rw [Int.natCast_mul, e]
/-- The sum of two that say whole numbers says their sum. -/
theorem add_says {E x y : Nat} {a b : Int} (hE : E = 1074) (hx : Says E x a) (hy : Says E y b) (hb : (a + b).natAbs < 9007199254740992) : ∃ r, double.add x y = some r ∧ Says E r (a + b) := by
  obtain ⟨m, k, s, r1, v1, _, s1⟩ := says_read hx
  obtain ⟨n, l, t, r2, v2, _, s2⟩ := says_read hy
  have q1 := scale' s m k (min k l) E a (by omega) v1 s1
  have q2 := scale' t n l (min k l) E b (by omega) v2 s2
  unfold Format.add
  rw [r1, r2]
  simp only [Datum.sum, Option.map]
  have em : min (-1074 + (k : Int)) (-1074 + (l : Int)) = -1074 + ((min k l : Nat) : Int) := by omega
  rw [em]
  have ek : (-1074 + (k : Int) - (-1074 + ((min k l : Nat) : Int))).toNat = k - min k l := by omega
  have el : (-1074 + (l : Int) - (-1074 + ((min k l : Nat) : Int))).toNat = l - min k l := by omega
  rw [ek, el]
  generalize hT : signed s m (k - min k l) + signed t n (l - min k l) = T
  have hv : T * ((2 ^ min k l : Nat) : Int) = (a + b) * ((2 ^ E : Nat) : Int) := by
    rw [← hT, Int.add_mul, Int.add_mul, q1, q2]
  refine ⟨_, rfl, ?_⟩
  refine says_of E hE _ T.natAbs (min k l) (a + b) ?_ hb ?_
  · have := congrArg Int.natAbs hv
    rw [Int.natAbs_mul, Int.natAbs_mul, Int.natAbs_natCast, Int.natAbs_natCast] at this
    exact this
  · intro h0
    have hp : (0 : Int) < ((2 ^ E : Nat) : Int) := by have := Nat.two_pow_pos E; omega
    have hq : (0 : Int) < ((2 ^ min k l : Nat) : Int) := by have := Nat.two_pow_pos (min k l); omega
    have hT0 : T ≠ 0 := by
      intro e; rw [e, Int.zero_mul] at hv
      rcases Int.mul_eq_zero.1 hv.symm with e | e <;> omega
    rw [if_neg hT0, decide_eq_decide]
    constructor
    · intro hn
      have := Int.mul_neg_of_neg_of_pos hn hq
      by_cases h : a + b < 0
      · exact h
      · have := Int.mul_pos (show 0 < a + b by omega) hp; omega
    · intro hn
      have := Int.mul_neg_of_neg_of_pos hn hp
      by_cases h : T < 0
      · exact h
      · have := Int.mul_pos (show 0 < T by omega) hq; omega
theorem place_lo {m k A E : Nat} (hE : E = 1074) (h : m * 2 ^ k = A * 2 ^ E) (hm : m < 9007199254740992) (hA : 0 < A) : 1022 ≤ k := by
  by_cases hk : 1022 ≤ k
  · exact hk
  · exfalso
    have hp := Nat.two_pow_pos k
    have h1 : m * 2 ^ k < 2 ^ 53 * 2 ^ k := Nat.mul_lt_mul_of_pos_right (by omega) hp
    rw [← Nat.pow_add] at h1
    have h2 : 2 ^ (53 + k) ≤ 2 ^ E := Nat.pow_le_pow_right (by decide) (by omega)
    have h3 : 1 * 2 ^ E ≤ A * 2 ^ E := Nat.mul_le_mul_right _ hA
    omega
/-- The product of two that say whole numbers says their product. -/
theorem mul_says {E x y : Nat} {a b : Int} (hE : E = 1074) (hx : Says E x a) (hy : Says E y b) (hb : (a * b).natAbs < 9007199254740992) : ∃ r, double.mul x y = some r ∧ Says E r (a * b) := by
  obtain ⟨m, k, s, r1, v1, m1, s1⟩ := says_read hx
  obtain ⟨n, l, t, r2, v2, m2, s2⟩ := says_read hy
  unfold Format.mul
  rw [r1, r2]
  simp only [Datum.product, Option.map]
  refine ⟨_, rfl, ?_⟩
  have hpE := Nat.two_pow_pos E
  by_cases ha : a = 0
  · subst ha
    have hm : m = 0 := by
      rcases Nat.mul_eq_zero.1 (v1.trans (by simp)) with e | e
      · exact e
      · have := Nat.two_pow_pos k; omega
    subst hm
    have e : double.write (.number (s ^^ t) (0 * n) (-1074 + (k : Int) + (-1074 + (l : Int)))) = double.nearest (s ^^ t) 0 (-1074 + ((0 : Nat) : Int)) := by
      simp [Format.write, Format.nearest]
    rw [e]
    exact says_of E hE _ 0 0 (0 * b) (by simp) hb (fun h => absurd (by simp) h)
  · by_cases hb0 : b = 0
    · subst hb0
      have hn : n = 0 := by
        rcases Nat.mul_eq_zero.1 (v2.trans (by simp)) with e | e
        · exact e
        · have := Nat.two_pow_pos l; omega
      subst hn
      have e : double.write (.number (s ^^ t) (m * 0) (-1074 + (k : Int) + (-1074 + (l : Int)))) = double.nearest (s ^^ t) 0 (-1074 + ((0 : Nat) : Int)) := by
        simp [Format.write, Format.nearest]
      rw [e]
      exact says_of E hE _ 0 0 (a * 0) (by simp) hb (fun h => absurd (by simp) h)
    · have k1 := place_lo hE v1 m1 (by omega)
      have k2 := place_lo hE v2 m2 (by omega)
      have ep : (-1074 + (k : Int) + (-1074 + (l : Int))) = -1074 + ((k + l - E : Nat) : Int) := by omega
      rw [ep]
      refine says_of E hE _ (m * n) (k + l - E) (a * b) ?_ hb ?_
      · apply Nat.eq_of_mul_eq_mul_right hpE
        rw [Nat.mul_assoc, ← Nat.pow_add, show k + l - E + E = k + l by omega, Nat.pow_add, Int.natAbs_mul]
        have := congr (congrArg HMul.hMul v1) v2
        rw [Nat.mul_mul_mul_comm, Nat.mul_mul_mul_comm a.natAbs] at this
        rw [this]
        simp only [Nat.mul_assoc]
      · intro _
        rw [s1 ha, s2 hb0]
        by_cases h1 : a < 0 <;> by_cases h2 : b < 0
        · have := Int.mul_pos_of_neg_of_neg h1 h2
          simp only [h1, h2, decide_true]; symm; simp; omega
        · have := Int.mul_neg_of_neg_of_pos h1 (show 0 < b by omega)
          simp only [h1, h2, decide_true, decide_false]; symm; simp; omega
        · have := Int.mul_neg_of_pos_of_neg (show 0 < a by omega) h2
          simp only [h1, h2, decide_true, decide_false]; symm; simp; omega
        · have := Int.mul_pos (show 0 < a by omega) (show 0 < b by omega)
          simp only [h1, h2, decide_false]; symm; simp; omega
/-- The float of a whole number says it. -/
theorem float_says (n : Int) (hb : n.natAbs < 9007199254740992) : Says 1074 (floatOfInt .f64 n) n := by
  have e : floatOfInt .f64 n = double.nearest (decide (n < 0)) n.natAbs (-1074 + ((1074 : Nat) : Int)) := rfl
  rw [e]
  generalize hE : (1074 : Nat) = E
  exact says_of E hE.symm _ n.natAbs E n rfl hb (fun _ => rfl)
theorem says_same {E x y : Nat} {n : Int} (hx : Says E x n) (hy : Says E y n) : sameN x y = true := by
  unfold sameN
  rw [order_val hx.1 hy.1 (by have := hx.2.1; omega) (by have := hy.2.1; omega), hx.2.2, hy.2.2]
  simp
theorem says_quiet {E x : Nat} {n : Int} (hx : Says E x n) : quietN x = x := by
  unfold quietN nanN
  rw [if_neg (by simp; have := hx.2.1; omega)]
end Go.Num
