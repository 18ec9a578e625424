/- Plain mathematics of marks: the order of a mark, its mark back, which marks say a NaN. Conditions: none but the bounds that each lemma names. -/
import Derived.Laws.FloatArith
import Derived.Laws.BitsAllLaws
namespace Go.Num
open Ieee

/-- Does a word of 64 bits say a NaN? -/
def nanN (x : Nat) : Bool := decide (9218868437227405312 < x % 9223372036854775808)
def quietN (x : Nat) : Nat := if nanN x then 9221120237041090561 else x
def ordN (x : Nat) : Nat := if 9223372036854775808 ≤ x then 18446744073709551615 - x else x + 9223372036854775808
def backN (o : Nat) : Nat := if 9223372036854775808 ≤ o then o - 9223372036854775808 else 18446744073709551615 - o
def sameN (a b : Nat) : Bool := Ieee.double.order a b == some .eq

theorem quietN_lt {x : Nat} (h : x < 18446744073709551616) : quietN x < 18446744073709551616 := by
  unfold quietN; split <;> omega
theorem ordN_lt {x : Nat} (h : x < 18446744073709551616) : ordN x < 18446744073709551616 := by
  unfold ordN; split <;> omega
theorem backN_lt {x : Nat} (h : x < 18446744073709551616) : backN x < 18446744073709551616 := by
  unfold backN; split <;> omega
theorem back_ord {x : Nat} (h : x < 18446744073709551616) : backN (ordN x) = x := by
  unfold backN ordN; split <;> split <;> omega
theorem ord_back {x : Nat} (h : x < 18446744073709551616) : ordN (backN x) = x := by
  unfold backN ordN; split <;> split <;> omega
theorem quiet_quiet (x : Nat) : quietN (quietN x) = quietN x := by
  by_cases h : nanN x = true
  · simp [quietN, h]
  · simp [quietN, h]

/-! ### bits -/
theorem top_bit (x : Nat) (h : x < 18446744073709551616) : x &&& 9223372036854775808 = if 9223372036854775808 ≤ x then 9223372036854775808 else 0 := by
  have e : (9223372036854775808 : Nat) = 2 ^ 63 := by decide
  have := nat_bit 63 x
  rw [← e] at this
  rw [this]
  split <;> omega
theorem and_top_set {x : Nat} (h : x < 18446744073709551616) (ht : 9223372036854775808 ≤ x) : (bits .and .u64 (x : Int) 9223372036854775808 != 0) = true := by
  have := u64_and_nat x 9223372036854775808 h (by decide)
  rw [top_bit x h, if_pos ht] at this
  have e : bits .and .u64 (x : Int) 9223372036854775808 = 9223372036854775808 := this
  rw [e]; decide
theorem and_top_not {x : Nat} (h : x < 18446744073709551616) (ht : ¬ 9223372036854775808 ≤ x) : (bits .and .u64 (x : Int) 9223372036854775808 != 0) = false := by
  have := u64_and_nat x 9223372036854775808 h (by decide)
  rw [top_bit x h, if_neg ht] at this
  have e : bits .and .u64 (x : Int) 9223372036854775808 = 0 := this
  rw [e]; decide
theorem turned (x : Nat) (h : x < 18446744073709551616) : bits .xor .u64 IntKind.u64.max (x : Int) = ((18446744073709551615 - x : Nat) : Int) := by
  have e : IntKind.u64.max = ((18446744073709551615 : Nat) : Int) := by decide
  rw [e, u64_xor_nat _ _ (by decide) h]
  congr 1
  have := BitVec.toNat_not (x := BitVec.ofNat 64 x)
  rw [BitVec.not_def, BitVec.toNat_xor, BitVec.toNat_ofNat, Nat.mod_eq_of_lt (show x < 2 ^ 64 by omega)] at this
  exact this
theorem or_top {x : Nat} (h : x < 9223372036854775808) : bits .or .u64 (x : Int) 9223372036854775808 = ((x + 9223372036854775808 : Nat) : Int) := by
  have := u64_or_nat x 9223372036854775808 (by omega) (by decide)
  rw [Nat.or_comm, nat_join 63 9223372036854775808 x (by decide) (by omega)] at this
  rw [Nat.add_comm]; exact this
theorem andNot_top {x : Nat} (h : x < 18446744073709551616) (ht : 9223372036854775808 ≤ x) : bits .andNot .u64 (x : Int) 9223372036854775808 = ((x - 9223372036854775808 : Nat) : Int) := by
  have := u64_andNot_nat x 9223372036854775808 h (by decide)
  have e : x &&& (18446744073709551615 - 9223372036854775808) = x - 9223372036854775808 := by
    have : (18446744073709551615 - 9223372036854775808 : Nat) = 2 ^ 63 - 1 := by decide
    rw [this, Nat.and_two_pow_sub_one_eq_mod]; omega
  rw [e] at this; exact this
theorem nan_exp (x : Nat) (h : x < 18446744073709551616) : bits .and .u64 ((x : Int) / 4503599627370496) 2047 = (((x / 4503599627370496) % 2048 : Nat) : Int) := by
  have := u64_and_nat (x / 4503599627370496) 2047 (by omega) (by decide)
  rw [show (2047 : Nat) = 2 ^ 11 - 1 by decide, Nat.and_two_pow_sub_one_eq_mod] at this
  exact this
theorem nan_frac (x : Nat) : (IntKind.u64.wrap ((x : Int) * 4096) != 0) = decide (x % 4503599627370496 ≠ 0) := by
  rw [IntKind.wrap_u64, Bool.eq_iff_iff]; simp; omega
theorem nan_parts (x : Nat) : nanN x = (decide ((x / 4503599627370496) % 2048 = 2047) && decide (x % 4503599627370496 ≠ 0)) := by
  unfold nanN; rw [Bool.eq_iff_iff]; simp; omega
/-- The magnitude of a rung, in units of the least one (infinity as the rung behind the greatest number). -/
def val (r : Nat) : Nat := if r < 4503599627370496 then r else (4503599627370496 + r % 4503599627370496) * 2 ^ (r / 4503599627370496 - 1)
def sval (x : Nat) : Int := if 9223372036854775808 ≤ x then -(val (x % 9223372036854775808) : Int) else (val (x % 9223372036854775808) : Int)

theorem val_succ (r : Nat) : val r < val (r + 1) := by
  unfold val
  by_cases h1 : r + 1 < 4503599627370496
  · rw [if_pos (by omega), if_pos h1]; omega
  · by_cases h2 : r < 4503599627370496
    · have e : r = 4503599627370495 := by omega
      subst e; decide
    · rw [if_neg h2, if_neg h1]
      by_cases h3 : r % 4503599627370496 + 1 < 4503599627370496
      · have e1 : (r + 1) / 4503599627370496 = r / 4503599627370496 := by omega
        have e2 : (r + 1) % 4503599627370496 = r % 4503599627370496 + 1 := by omega
        rw [e1, e2]
        exact Nat.mul_lt_mul_of_pos_right (by omega) (Nat.two_pow_pos _)
      · have e1 : (r + 1) / 4503599627370496 - 1 = (r / 4503599627370496 - 1) + 1 := by omega
        have e2 : (r + 1) % 4503599627370496 = 0 := by omega
        rw [e1, e2, Nat.pow_succ]
        have hp := Nat.two_pow_pos (r / 4503599627370496 - 1)
        generalize 2 ^ (r / 4503599627370496 - 1) = p at hp ⊢
        have : (4503599627370496 + r % 4503599627370496) * p < (4503599627370496 * 2) * p := Nat.mul_lt_mul_of_pos_right (by omega) hp
        have e : (4503599627370496 + 0) * (p * 2) = 4503599627370496 * 2 * p := by omega
        omega
theorem val_lt {a b : Nat} (h : a < b) : val a < val b := by
  induction b with
  | zero => omega
  | succ b ih =>
    by_cases e : a = b
    · subst e; exact val_succ a
    · exact Nat.lt_trans (ih (by omega)) (val_succ b)
theorem val_le {a b : Nat} (h : a ≤ b) : val a ≤ val b := by
  by_cases e : a = b
  · subst e; exact Nat.le_refl _
  · exact Nat.le_of_lt (val_lt (by omega))
theorem val_zero : val 0 = 0 := by decide
theorem val_pos {a : Nat} (h : 0 < a) : 0 < val a := by have := val_lt h; rw [val_zero] at this; exact this
theorem val_inj {a b : Nat} (h : val a = val b) : a = b := by
  by_cases h1 : a < b
  · have := val_lt h1; omega
  · by_cases h2 : b < a
    · have := val_lt h2; omega
    · omega

theorem read_lo {x : Nat} (h : x % 9223372036854775808 < 4503599627370496) : double.read x = .number (x / 9223372036854775808 % 2 == 1) (x % 9223372036854775808) (-1074) := by
  have e1 : double.signWeight = 9223372036854775808 := by decide
  have e2 : double.binade = 4503599627370496 := by decide
  have e3 : double.leastPlace = -1074 := by decide
  simp only [Format.read, e1, e2, e3]
  rw [if_pos h]
theorem read_mid {x : Nat} (h : ¬ x % 9223372036854775808 < 4503599627370496) (h2 : x % 9223372036854775808 < 9218868437227405312) : double.read x = .number (x / 9223372036854775808 % 2 == 1) (4503599627370496 + x % 9223372036854775808 % 4503599627370496) (-1074 + (x % 9223372036854775808 / 4503599627370496 - 1 : Nat)) := by
  have e1 : double.signWeight = 9223372036854775808 := by decide
  have e2 : double.binade = 4503599627370496 := by decide
  have e3 : double.leastPlace = -1074 := by decide
  have e4 : double.infRung = 9218868437227405312 := by decide
  simp only [Format.read, e1, e2, e3, e4]
  rw [if_neg h, if_pos h2]
theorem read_inf {x : Nat} (h : x % 9223372036854775808 = 9218868437227405312) : double.read x = .infinity (x / 9223372036854775808 % 2 == 1) := by
  have e1 : double.signWeight = 9223372036854775808 := by decide
  have e2 : double.binade = 4503599627370496 := by decide
  have e3 : double.leastPlace = -1074 := by decide
  have e4 : double.infRung = 9218868437227405312 := by decide
  simp only [Format.read, e1, e2, e3, e4]
  rw [if_neg (by omega), if_neg (by omega), if_pos h]
theorem read_nan {x : Nat} (h : 9218868437227405312 < x % 9223372036854775808) : ∃ s f, double.read x = .nan s f := by
  have e1 : double.signWeight = 9223372036854775808 := by decide
  have e2 : double.binade = 4503599627370496 := by decide
  have e3 : double.leastPlace = -1074 := by decide
  have e4 : double.infRung = 9218868437227405312 := by decide
  simp only [Format.read, e1, e2, e3, e4]
  rw [if_neg (by omega), if_neg (by omega), if_neg (by omega)]
  exact ⟨_, _, rfl⟩
/-- A finite word: its sign, its magnitude and its place, which make its value. -/
theorem read_fin {x : Nat} (hx : x < 18446744073709551616) (h : x % 9223372036854775808 < 9218868437227405312) : ∃ m : Nat, ∃ k : Nat, double.read x = .number (decide (9223372036854775808 ≤ x)) m (-1074 + (k : Int)) ∧ m * 2 ^ k = val (x % 9223372036854775808) := by
  have hs : (x / 9223372036854775808 % 2 == 1) = decide (9223372036854775808 ≤ x) := by rw [Bool.eq_iff_iff]; simp; omega
  by_cases h1 : x % 9223372036854775808 < 4503599627370496
  · exact ⟨_, 0, by rw [read_lo h1, hs]; rfl, by unfold val; rw [if_pos h1]; simp⟩
  · exact ⟨_, _, by rw [read_mid h1 h, hs], by unfold val; rw [if_neg h1]⟩

theorem signed_eq (s : Bool) (m u : Nat) : signed s m u = if s then -((m * 2 ^ u : Nat) : Int) else ((m * 2 ^ u : Nat) : Int) := by
  unfold signed; rw [Nat.shiftLeft_eq]
/-- Both over a common place: the values, less a common power. -/
theorem scale (s : Bool) (m k b : Nat) (h : b ≤ k) : signed s m (k - b) * ((2 ^ b : Nat) : Int) = if s then -((m * 2 ^ k : Nat) : Int) else ((m * 2 ^ k : Nat) : Int) := by
  have e : 2 ^ (k - b) * 2 ^ b = 2 ^ k := by rw [← Nat.pow_add]; congr 1; omega
  rw [signed_eq]
  cases s
  · simp only [Bool.false_eq_true, if_false]
    rw [← Int.natCast_mul, Nat.mul_assoc, e]
  · simp only [if_true]
    rw [Int.neg_mul, ← Int.natCast_mul, Nat.mul_assoc, e]
theorem cmp_scale (a b : Int) (p : Int) (hp : 0 < p) : compare (a * p) (b * p) = compare a b := by
  by_cases h1 : a < b
  · rw [Int.compare_eq_lt.2 h1, Int.compare_eq_lt.2 (Int.mul_lt_mul_of_pos_right h1 hp)]
  · by_cases h2 : b < a
    · rw [Int.compare_eq_gt.2 h2, Int.compare_eq_gt.2 (Int.mul_lt_mul_of_pos_right h2 hp)]
    · have : a = b := by omega
      subst this; simp
/-- The rule: no NaN; then by the values. -/
theorem order_val {a b : Nat} (ha : a < 18446744073709551616) (hb : b < 18446744073709551616) (na : ¬ 9218868437227405312 < a % 9223372036854775808) (nb : ¬ 9218868437227405312 < b % 9223372036854775808) :
    double.order a b = some (compare (sval a) (sval b)) := by
  have top : val 9218868437227405312 = val 9218868437227405312 := rfl
  by_cases fa : a % 9223372036854775808 < 9218868437227405312
  · obtain ⟨m, k, ra, va⟩ := read_fin ha fa
    have ta := val_lt fa
    by_cases fb : b % 9223372036854775808 < 9218868437227405312
    · obtain ⟨n, l, rb, vb⟩ := read_fin hb fb
      unfold Format.order
      rw [ra, rb]
      simp only [Datum.order]
      refine congrArg some ?_
      have em : min (-1074 + (k : Int)) (-1074 + (l : Int)) = -1074 + ((min k l : Nat) : Int) := by omega
      rw [em]
      have ek : (-1074 + (k : Int) - (-1074 + ((min k l : Nat) : Int))).toNat = k - min k l := by omega
      have el : (-1074 + (l : Int) - (-1074 + ((min k l : Nat) : Int))).toNat = l - min k l := by omega
      rw [ek, el, ← cmp_scale _ _ ((2 ^ min k l : Nat) : Int) (by have := Nat.two_pow_pos (min k l); omega), scale _ _ _ _ (by omega), scale _ _ _ _ (by omega), va, vb]
      unfold sval
      simp
    · have ib : b % 9223372036854775808 = 9218868437227405312 := by omega
      unfold Format.order
      rw [ra, read_inf ib]
      simp only [Datum.order]
      refine congrArg some ?_
      unfold sval
      rw [ib]
      by_cases hs : 9223372036854775808 ≤ b
      · have e : (b / 9223372036854775808 % 2 == 1) = true := by rw [beq_iff_eq]; omega
        rw [e, if_pos rfl, if_pos hs]; symm; rw [Int.compare_eq_gt]; split <;> omega
      · have e : (b / 9223372036854775808 % 2 == 1) = false := by rw [beq_eq_false_iff_ne]; omega
        rw [e, if_neg (by decide), if_neg hs]; symm; rw [Int.compare_eq_lt]; split <;> omega
  · have ia : a % 9223372036854775808 = 9218868437227405312 := by omega
    by_cases fb : b % 9223372036854775808 < 9218868437227405312
    · obtain ⟨n, l, rb, vb⟩ := read_fin hb fb
      have tb := val_lt fb
      unfold Format.order
      rw [rb, read_inf ia]
      simp only [Datum.order]
      refine congrArg some ?_
      unfold sval
      rw [ia]
      by_cases hs : 9223372036854775808 ≤ a
      · have e : (a / 9223372036854775808 % 2 == 1) = true := by rw [beq_iff_eq]; omega
        rw [e, if_pos rfl, if_pos hs]; symm; rw [Int.compare_eq_lt]; split <;> omega
      · have e : (a / 9223372036854775808 % 2 == 1) = false := by rw [beq_eq_false_iff_ne]; omega
        rw [e, if_neg (by decide), if_neg hs]; symm; rw [Int.compare_eq_gt]; split <;> omega
    · have ib : b % 9223372036854775808 = 9218868437227405312 := by omega
      have tp := val_pos (show 0 < 9218868437227405312 by decide)
      unfold Format.order
      rw [read_inf ia, read_inf ib]
      simp only [Datum.order]
      refine congrArg some ?_
      unfold sval
      rw [ia, ib]
      have e1 : (a / 9223372036854775808 % 2 == 1) = decide (9223372036854775808 ≤ a) := by rw [Bool.eq_iff_iff]; simp; omega
      have e2 : (b / 9223372036854775808 % 2 == 1) = decide (9223372036854775808 ≤ b) := by rw [Bool.eq_iff_iff]; simp; omega
      rw [e1, e2]
      generalize val 9218868437227405312 = v at tp
      by_cases h1 : 9223372036854775808 ≤ a <;> by_cases h2 : 9223372036854775808 ≤ b
      · rw [if_pos h1, if_pos h2]; simp [h1, h2]
      · rw [if_pos h1, if_neg h2]; simp only [h1, h2, decide_true, decide_false]; symm; rw [show compare false.toNat true.toNat = .lt by decide, Int.compare_eq_lt]; omega
      · rw [if_neg h1, if_pos h2]; simp only [h1, h2, decide_true, decide_false]; symm; rw [show compare true.toNat false.toNat = .gt by decide, Int.compare_eq_gt]; omega
      · rw [if_neg h1, if_neg h2]; simp [h1, h2]
theorem order_nan_l {a b : Nat} (na : 9218868437227405312 < a % 9223372036854775808) : double.order a b = none := by
  obtain ⟨s, f, e⟩ := read_nan na
  unfold Format.order; rw [e]; rfl
theorem order_nan_r {a b : Nat} (nb : 9218868437227405312 < b % 9223372036854775808) : double.order a b = none := by
  obtain ⟨s, f, e⟩ := read_nan nb
  unfold Format.order; rw [e]; cases double.read a <;> rfl

/-! ### the same as floats; how floats sort -/
theorem nan_not {x : Nat} (h : nanN x = false) : ¬ 9218868437227405312 < x % 9223372036854775808 := by
  unfold nanN at h; exact of_decide_eq_false h
theorem nan_is {x : Nat} (h : nanN x = true) : 9218868437227405312 < x % 9223372036854775808 := by
  unfold nanN at h; exact of_decide_eq_true h
theorem order_self {x : Nat} (h : x < 18446744073709551616) : (double.order x x != some .eq) = nanN x := by
  cases hn : nanN x
  · rw [order_val h h (nan_not hn) (nan_not hn)]; simp
  · rw [order_nan_l (nan_is hn)]; rfl
theorem sval_eq {a b : Nat} (ha : a < 18446744073709551616) (hb : b < 18446744073709551616) : sval a = sval b ↔ (a = b ∨ a % 9223372036854775808 = 0 ∧ b % 9223372036854775808 = 0) := by
  constructor
  · intro h
    unfold sval at h
    have za : 0 < a % 9223372036854775808 → 0 < val (a % 9223372036854775808) := val_pos
    have zb : 0 < b % 9223372036854775808 → 0 < val (b % 9223372036854775808) := val_pos
    split at h <;> split at h
    · have := val_inj (show val (a % 9223372036854775808) = val (b % 9223372036854775808) by omega); omega
    · by_cases h1 : 0 < a % 9223372036854775808
      · have := za h1; omega
      · by_cases h2 : 0 < b % 9223372036854775808
        · have := zb h2; omega
        · omega
    · by_cases h1 : 0 < a % 9223372036854775808
      · have := za h1; omega
      · by_cases h2 : 0 < b % 9223372036854775808
        · have := zb h2; omega
        · omega
    · have := val_inj (show val (a % 9223372036854775808) = val (b % 9223372036854775808) by omega); omega
  · rintro (rfl | ⟨h1, h2⟩)
    · rfl
    · unfold sval; rw [h1, h2, val_zero]; split <;> split <;> rfl
theorem sval_lt {a b : Nat} (ha : a < 18446744073709551616) (hb : b < 18446744073709551616) (hne : sval a ≠ sval b) : sval a < sval b ↔ ordN a < ordN b := by
  have hz := mt (sval_eq ha hb).2 hne
  have za : 0 < a % 9223372036854775808 → 0 < val (a % 9223372036854775808) := val_pos
  have zb : 0 < b % 9223372036854775808 → 0 < val (b % 9223372036854775808) := val_pos
  have l1 : a % 9223372036854775808 < b % 9223372036854775808 → val (a % 9223372036854775808) < val (b % 9223372036854775808) := val_lt
  have l2 : b % 9223372036854775808 < a % 9223372036854775808 → val (b % 9223372036854775808) < val (a % 9223372036854775808) := val_lt
  have l3 : b % 9223372036854775808 = a % 9223372036854775808 → val (b % 9223372036854775808) = val (a % 9223372036854775808) := fun h => by rw [h]
  unfold sval ordN
  generalize val (a % 9223372036854775808) = A at *
  generalize val (b % 9223372036854775808) = B at *
  split <;> split <;> omega
theorem same_eq {a b : Nat} (ha : a < 18446744073709551616) (hb : b < 18446744073709551616) :
    sameN a b = (!nanN a && (!nanN b && (a == b || (decide (a % 9223372036854775808 = 0) && decide (b % 9223372036854775808 = 0))))) := by
  unfold sameN
  cases hn : nanN a
  · cases hm : nanN b
    · rw [order_val ha hb (nan_not hn) (nan_not hm), Bool.eq_iff_iff]
      simp [sval_eq ha hb]
    · rw [order_nan_r (nan_is hm)]; simp
  · rw [order_nan_l (nan_is hn)]; simp
/-! ### sums and products ask for no order of the two -/
theorem sum_comm (d e : Datum) : d.sum e = e.sum d := by
  cases d <;> cases e <;> simp only [Datum.sum]
  · rename_i s m i t n j
    rw [Int.min_comm i j, Int.add_comm]
    simp [Bool.and_comm]
  · rename_i s t
    by_cases h : s = t
    · subst h; rfl
    · rw [if_neg h, if_neg (fun e => h e.symm)]
theorem product_comm (d e : Datum) : d.product e = e.product d := by
  cases d <;> cases e <;> simp only [Datum.product]
  · rename_i s m i t n j
    rw [Int.add_comm i j, Nat.mul_comm m n, Bool.xor_comm]
  · rename_i s t
    rw [Bool.xor_comm]
theorem add_comm64 (a b : Nat) : double.add a b = double.add b a := by unfold Format.add; rw [sum_comm]
theorem mul_comm64 (a b : Nat) : double.mul a b = double.mul b a := by unfold Format.mul; rw [product_comm]
/-- The quiet mark of an outcome; of none the quiet NaN. -/
def outN : Option Nat → Nat | some r => quietN r | none => 9221120237041090561
def sumN (a b : Nat) : Nat := outN (double.add a b)
def proN (a b : Nat) : Nat := outN (double.mul a b)
theorem quiet_of_nan {x : Nat} (h : nanN x = true) : quietN x = 9221120237041090561 := by unfold quietN; rw [if_pos h]
theorem add_lt64 {a b r : Nat} (h : double.add a b = some r) : r < 18446744073709551616 := double.add_lt h
theorem mul_lt64 {a b r : Nat} (h : double.mul a b = some r) : r < 18446744073709551616 := double.mul_lt h
theorem sumN_lt (a b : Nat) : sumN a b < 18446744073709551616 := by
  unfold sumN
  cases h : double.add a b with
  | none => simp [outN]
  | some r => exact quietN_lt (add_lt64 h)
theorem proN_lt (a b : Nat) : proN a b < 18446744073709551616 := by
  unfold proN
  cases h : double.mul a b with
  | none => simp [outN]
  | some r => exact quietN_lt (mul_lt64 h)
theorem nan_drawn (x y t : Nat) : nanN ((Question.nanBits .f64 x y).cut t) = true ∧ (Question.nanBits .f64 x y).cut t < 18446744073709551616 := by
  have e : (Question.nanBits .f64 x y).cut t = t % 2 * 9223372036854775808 + 9218868437227405312 + 1 + t / 2 % 4503599627370495 := rfl
  rw [e]
  unfold nanN
  constructor
  · rw [decide_eq_true_eq]
    have h1 : t / 2 % 4503599627370495 < 4503599627370495 := Nat.mod_lt _ (by decide)
    generalize t / 2 % 4503599627370495 = f at h1 ⊢
    rcases (by omega : t % 2 = 0 ∨ t % 2 = 1) with h | h <;> rw [h] <;> omega
  · omega
end Go.Num
