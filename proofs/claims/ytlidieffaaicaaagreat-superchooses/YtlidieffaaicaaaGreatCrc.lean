/- Plain mathematics of sums: one bit's step is linear and loses nothing; what steps by bytes, noughts, and turned bits make of a number. Conditions: none. -/
import Derived.Lib.TrailingZeros
namespace Go.Crc

/-- One bit's step. -/
def L (c : Nat) : Nat := c / 2 ^^^ (if c % 2 = 1 then 2197175160 else 0)
def Ln : Nat → Nat → Nat
  | 0, c => c
  | n + 1, c => Ln n (L c)
/-- A step by a byte. -/
def M (c : Nat) : Nat := Ln 8 c
def step (c b : Nat) : Nat := M (c ^^^ b)
def S (c : Nat) (bs : List Nat) : Nat := bs.foldl step c
def T (c : Nat) : Nat := c ^^^ 4294967295
def upd (c : Nat) (bs : List Nat) : Nat := T (S (T c) bs)

theorem xor_eq {a b : Nat} (h : a ^^^ b = 0) : a = b := by
  have := congrArg (· ^^^ b) h
  simpa [Nat.xor_assoc] using this
theorem xor_cancel {a b c : Nat} (h : a ^^^ c = b ^^^ c) : a = b := by
  have := congrArg (· ^^^ c) h
  simpa [Nat.xor_assoc] using this
theorem xor_lt32 {a b : Nat} (ha : a < 4294967296) (hb : b < 4294967296) : a ^^^ b < 4294967296 := Nat.xor_lt_two_pow (n := 32) ha hb
theorem L_lt {c : Nat} (h : c < 4294967296) : L c < 4294967296 := by
  unfold L
  apply xor_lt32 (by omega)
  split <;> omega
theorem Ln_lt (n : Nat) : ∀ {c : Nat}, c < 4294967296 → Ln n c < 4294967296 := by
  induction n with
  | zero => intro c h; exact h
  | succ n ih => intro c h; exact ih (L_lt h)
theorem M_lt {c : Nat} (h : c < 4294967296) : M c < 4294967296 := Ln_lt 8 h
theorem step_lt {c b : Nat} (h : c < 4294967296) (hb : b < 256) : step c b < 4294967296 := M_lt (xor_lt32 h (by omega))
theorem S_lt {bs : List Nat} : ∀ {c : Nat}, c < 4294967296 → (∀ b ∈ bs, b < 256) → S c bs < 4294967296 := by
  induction bs with
  | nil => intro c h _; exact h
  | cons b bs ih => intro c h hb; exact ih (step_lt h (hb b (by simp))) (fun x hx => hb x (by simp [hx]))
theorem T_lt {c : Nat} (h : c < 4294967296) : T c < 4294967296 := xor_lt32 h (by omega)
theorem upd_lt {c : Nat} {bs : List Nat} (h : c < 4294967296) (hb : ∀ b ∈ bs, b < 256) : upd c bs < 4294967296 := T_lt (S_lt (T_lt h) hb)
theorem T_T (c : Nat) : T (T c) = c := by unfold T; rw [Nat.xor_assoc, Nat.xor_self, Nat.xor_zero]

theorem xor4 (a b c d : Nat) : (a ^^^ b) ^^^ (c ^^^ d) = (a ^^^ c) ^^^ (b ^^^ d) := by
  rw [Nat.xor_assoc, Nat.xor_assoc, ← Nat.xor_assoc b c d, Nat.xor_comm b c, Nat.xor_assoc c b d]
theorem L_xor (a b : Nat) : L (a ^^^ b) = L a ^^^ L b := by
  unfold L
  have hd : (a ^^^ b) / 2 = a / 2 ^^^ b / 2 := Nat.xor_div_two_pow (n := 1)
  have hm : (a ^^^ b) % 2 = 1 ↔ ¬(a % 2 = 1 ↔ b % 2 = 1) := Nat.xor_mod_two_eq_one
  rw [hd, xor4]
  congr 1
  by_cases h1 : a % 2 = 1 <;> by_cases h2 : b % 2 = 1
  · rw [if_neg (by rw [hm]; simp [h1, h2]), if_pos h1, if_pos h2, Nat.xor_self]
  · rw [if_pos (by rw [hm]; simp [h1, h2]), if_pos h1, if_neg h2, Nat.xor_zero]
  · rw [if_pos (by rw [hm]; simp [h1, h2]), if_neg h1, if_pos h2, Nat.zero_xor]
  · rw [if_neg (by rw [hm]; simp [h1, h2]), if_neg h1, if_neg h2, Nat.xor_zero]
theorem Ln_xor (n : Nat) : ∀ a b : Nat, Ln n (a ^^^ b) = Ln n a ^^^ Ln n b := by
  induction n with
  | zero => intro a b; rfl
  | succ n ih => intro a b; show Ln n (L _) = _; rw [L_xor, ih]; rfl
theorem Ln_add (m n : Nat) : ∀ c : Nat, Ln (m + n) c = Ln m (Ln n c) := by
  induction n with
  | zero => intro c; rfl
  | succ n ih => intro c; exact ih (L c)
theorem L_zero : L 0 = 0 := by decide
theorem Ln_zero (n : Nat) : Ln n 0 = 0 := by
  induction n with
  | zero => rfl
  | succ n ih => show Ln n (L 0) = 0; rw [L_zero, ih]

/-- Nothing is lost. -/
theorem L_inj0 {c : Nat} (hc : c < 4294967296) (h : L c = 0) : c = 0 := by
  unfold L at h
  have e := xor_eq h
  split at e <;> omega
theorem Ln_inj0 (n : Nat) : ∀ {c : Nat}, c < 4294967296 → Ln n c = 0 → c = 0 := by
  induction n with
  | zero => intro c _ h; exact h
  | succ n ih => intro c hc h; exact L_inj0 hc (ih (L_lt hc) h)

/-- A lone bit k comes down to the lowest one by k steps. -/
theorem L_two_mul (c : Nat) : L (2 * c) = c := by
  unfold L
  rw [if_neg (by omega), Nat.xor_zero]
  omega
theorem Ln_pow (k : Nat) : Ln k (2 ^ k) = 1 := by
  induction k with
  | zero => rfl
  | succ k ih => show Ln k (L (2 ^ (k + 1))) = 1; rw [Nat.pow_succ, Nat.mul_comm, L_two_mul, ih]
theorem Ln_pow_ge {n k : Nat} (h : k ≤ n) : Ln n (2 ^ k) = Ln (n - k) 1 := by
  have e : n = (n - k) + k := by omega
  rw [e, Ln_add, Ln_pow]
  congr 1
  omega

/-- Four bits at once, by the table. -/
def tab : List Nat := [0, 274646895, 549293790, 820201905, 1098587580, 1361435347, 1640403810, 1905808397, 2197175160, 2460548119, 2722870694, 2987750089, 3280807620, 3553878443, 3811616794, 4084100981]
theorem Ln4_mul (c : Nat) : Ln 4 (16 * c) = c := by
  have e : 16 * c = 2 * (2 * (2 * (2 * c))) := by omega
  show L (L (L (L (16 * c)))) = c
  rw [e, L_two_mul, L_two_mul, L_two_mul, L_two_mul]
theorem tab_low : ∀ k, k < 16 → Ln 4 k = tab.getD k 0 := by decide
theorem tab_lt : ∀ k, k < 16 → tab.getD k 0 < 4294967296 := by decide
theorem mul16_xor (c : Nat) : 16 * (c / 16) ^^^ c % 16 = c := by
  apply Nat.eq_of_testBit_eq
  intro i
  have e : c = 2 ^ 4 * (c / 16) + c % 16 := by omega
  have e1 : 16 * (c / 16) = 2 ^ 4 * (c / 16) + 0 := by omega
  have h0 : c % 16 < 2 ^ 4 := by omega
  rw [Nat.testBit_xor, e1, Nat.testBit_two_pow_mul_add _ (by omega)]
  conv => rhs; rw [e, Nat.testBit_two_pow_mul_add _ h0]
  by_cases hi : i < 4
  · simp [hi]
  · simp only [hi, if_false]
    have : (c % 16).testBit i = false := Nat.testBit_lt_two_pow (Nat.lt_of_lt_of_le h0 (Nat.pow_le_pow_right (by decide) (by omega)))
    simp [this]
theorem Ln4 (c : Nat) : Ln 4 c = c / 16 ^^^ tab.getD (c % 16) 0 := by
  conv => lhs; rw [← mul16_xor c, Ln_xor, Ln4_mul, tab_low _ (by omega)]
theorem M_four (c : Nat) : M c = Ln 4 (Ln 4 c) := Ln_add 4 4 c

/-- Bytes of 0. -/
def Mn (n c : Nat) : Nat := Ln (8 * n) c
theorem Mn_zero (c : Nat) : Mn 0 c = c := rfl
theorem Mn_succ (n c : Nat) : Mn (n + 1) c = Mn n (M c) := by
  unfold Mn M
  rw [← Ln_add, Nat.mul_add]
theorem Mn_add (m n c : Nat) : Mn (m + n) c = Mn m (Mn n c) := by
  unfold Mn
  rw [Nat.mul_add, Ln_add]
theorem Mn_xor (n a b : Nat) : Mn n (a ^^^ b) = Mn n a ^^^ Mn n b := Ln_xor _ a b
theorem Mn_lt (n : Nat) {c : Nat} (h : c < 4294967296) : Mn n c < 4294967296 := Ln_lt _ h
theorem M_xor (a b : Nat) : M (a ^^^ b) = M a ^^^ M b := Ln_xor 8 a b

theorem S_append (c : Nat) (a b : List Nat) : S c (a ++ b) = S (S c a) b := List.foldl_append
theorem S_xor (bs : List Nat) : ∀ x y : Nat, S (x ^^^ y) bs = S x bs ^^^ Mn bs.length y := by
  induction bs with
  | nil => intro x y; rfl
  | cons b bs ih =>
    intro x y
    show S (step (x ^^^ y) b) bs = S (step x b) bs ^^^ Mn (bs.length + 1) y
    have e : step (x ^^^ y) b = step x b ^^^ M y := by
      unfold step
      rw [Nat.xor_assoc, Nat.xor_comm y b, ← Nat.xor_assoc, M_xor]
    rw [e, ih, Mn_succ]
theorem S_noughts (n : Nat) : ∀ c : Nat, S c (List.replicate n 0) = Mn n c := by
  induction n with
  | zero => intro c; rfl
  | succ n ih =>
    intro c
    rw [List.replicate_succ]
    show S (step c 0) _ = _
    rw [ih, Mn_succ]
    unfold step
    rw [Nat.xor_zero]

/-- The sum of two texts, by going on, and by joining. -/
theorem upd_append (c : Nat) (a b : List Nat) : upd c (a ++ b) = upd (upd c a) b := by
  unfold upd
  rw [T_T, S_append]
theorem T_xor (a b : Nat) : T a ^^^ T b = a ^^^ b := by
  unfold T
  rw [xor4, Nat.xor_self, Nat.xor_zero]
theorem S_one (bs : List Nat) (x : Nat) : S x bs = S 0 bs ^^^ Mn bs.length x := by
  have := S_xor bs 0 x
  rwa [Nat.zero_xor] at this
theorem upd_join (c : Nat) (b : List Nat) : upd c b = Mn b.length c ^^^ upd 0 b := by
  unfold upd
  have e : T c = T 0 ^^^ c := by unfold T; rw [Nat.zero_xor, Nat.xor_comm]
  rw [e, S_xor]
  unfold T
  rw [Nat.xor_assoc, Nat.xor_comm (Mn _ _), ← Nat.xor_assoc, Nat.xor_comm]
theorem join_doc (a b n : Nat) : (upd a (List.replicate n 0) ^^^ b) ^^^ upd 0 (List.replicate n 0) = Mn n a ^^^ b := by
  rw [upd_join a, List.length_replicate, Nat.xor_assoc, Nat.xor_assoc, Nat.xor_comm b, ← Nat.xor_assoc (upd _ _), Nat.xor_self, Nat.zero_xor]
theorem upd_apart {a b : Nat} (ha : a < 4294967296) (hb : b < 4294967296) (bs : List Nat) (h : upd a bs = upd b bs) : a = b := by
  rw [upd_join a, upd_join b] at h
  have h1 := xor_cancel h
  have h2 : Mn bs.length (a ^^^ b) = 0 := by rw [Mn_xor, h1, Nat.xor_self]
  exact xor_eq (Ln_inj0 _ (xor_lt32 ha hb) h2)

/-- A text with one bit turned. -/
def flip (bs : List Nat) (j : Nat) : List Nat := bs.modify (j / 8) (· ^^^ 2 ^ (j % 8))
theorem S_flip (bs : List Nat) : ∀ (x j : Nat), j < 8 * bs.length → S x (flip bs j) = S x bs ^^^ Ln (8 * bs.length - j) 1 := by
  induction bs with
  | nil => intro x j h; simp at h
  | cons b bs ih =>
    intro x j h
    simp only [List.length_cons] at h ⊢
    by_cases hj : j < 8
    · have e1 : j / 8 = 0 := by omega
      have e2 : j % 8 = j := by omega
      have : flip (b :: bs) j = (b ^^^ 2 ^ j) :: bs := by unfold flip; rw [e1, e2]; rfl
      rw [this]
      show S (step x (b ^^^ 2 ^ j)) bs = S (step x b) bs ^^^ _
      have e : step x (b ^^^ 2 ^ j) = step x b ^^^ M (2 ^ j) := by
        unfold step
        rw [← Nat.xor_assoc, M_xor]
      rw [e, S_xor]
      congr 1
      unfold Mn M
      rw [← Ln_add, Ln_pow_ge (by omega)]
      congr 1
    · have : flip (b :: bs) j = b :: flip bs (j - 8) := by
        unfold flip
        have e1 : j / 8 = (j - 8) / 8 + 1 := by omega
        have e2 : j % 8 = (j - 8) % 8 := by omega
        rw [e1, e2]; rfl
      rw [this]
      show S (step x b) (flip bs (j - 8)) = S (step x b) bs ^^^ _
      rw [ih _ _ (by omega)]
      congr 2
      omega
theorem flip_length (bs : List Nat) (j : Nat) : (flip bs j).length = bs.length := by simp [flip]
/-- The first k bits of x, turned in bs from 'from' on. -/
def flips (bs : List Nat) (at_ x : Nat) : Nat → List Nat
  | 0 => bs
  | k + 1 => if x / 2 ^ k % 2 = 1 then flip (flips bs at_ x k) (at_ + k) else flips bs at_ x k
theorem flips_length (bs : List Nat) (at_ x : Nat) : ∀ k, (flips bs at_ x k).length = bs.length
  | 0 => rfl
  | k + 1 => by unfold flips; split; · rw [flip_length, flips_length]
                · exact flips_length bs at_ x k
theorem mod_succ_xor (x k : Nat) : x % 2 ^ (k + 1) = x % 2 ^ k ^^^ (if x / 2 ^ k % 2 = 1 then 2 ^ k else 0) := by
  apply Nat.eq_of_testBit_eq
  intro i
  have hb : x.testBit k = decide (x / 2 ^ k % 2 = 1) := by
    rw [Nat.testBit_eq_decide_div_mod_eq]
  rw [Nat.testBit_xor, Nat.testBit_mod_two_pow, Nat.testBit_mod_two_pow]
  split
  · rename_i h
    rw [Nat.testBit_two_pow]
    by_cases hik : i = k
    · subst hik; rw [hb]; simp [h]
    · have e : (k = i) = False := by simp; omega
      have e1 : (i < k + 1) = (i < k) := by simp; omega
      simp [e, e1]
  · rename_i h
    rw [Nat.zero_testBit, Bool.xor_false]
    by_cases hik : i = k
    · subst hik; rw [hb]; simp [h]
    · have e1 : (i < k + 1) = (i < k) := by simp; omega
      simp [e1]
theorem S_flips (bs : List Nat) (y at_ x : Nat) : ∀ k, k ≤ 32 → at_ + k ≤ 8 * bs.length → S y (flips bs at_ x k) = S y bs ^^^ Ln (8 * bs.length - at_) (x % 2 ^ k)
  | 0, _, _ => by show S y bs = _; rw [Nat.pow_zero, Nat.mod_one, Ln_zero, Nat.xor_zero]
  | k + 1, hk, ha => by
    have ih := S_flips bs y at_ x k (by omega) (by omega)
    unfold flips
    rw [mod_succ_xor, Ln_xor, ← Nat.xor_assoc, ← ih]
    split
    · rw [S_flip _ _ _ (by rw [flips_length]; omega), flips_length, Ln_pow_ge (by omega)]
      congr 2
      omega
    · rw [Ln_zero, Nat.xor_zero]
theorem flips_none (bs : List Nat) (at_ x : Nat) : ∀ k, x % 2 ^ k = 0 → flips bs at_ x k = bs
  | 0, _ => rfl
  | k + 1, h => by
    have hlt : x % 2 ^ (k + 1) = x % 2 ^ k + 2 ^ k * (x / 2 ^ k % 2) := by
      rw [Nat.pow_succ, Nat.mod_mul]
    have h1 : x % 2 ^ k = 0 := by omega
    have hp : 0 < 2 ^ k := Nat.two_pow_pos k
    have h2 : ¬ x / 2 ^ k % 2 = 1 := by
      intro e; rw [e] at hlt; omega
    unfold flips
    rw [if_neg h2]
    exact flips_none bs at_ x k h1
/-- Turned bits are told. -/
theorem upd_flips (bs : List Nat) (c at_ x k : Nat) (hk : k ≤ 32) (ha : at_ + k ≤ 8 * bs.length) : (upd c (flips bs at_ x k) = upd c bs) ↔ flips bs at_ x k = bs := by
  constructor
  · intro h
    have h1 : S (T c) (flips bs at_ x k) = S (T c) bs := by
      have := congrArg T h
      unfold upd at this
      rwa [T_T, T_T] at this
    rw [S_flips _ _ _ _ _ hk ha] at h1
    have h2 : Ln (8 * bs.length - at_) (x % 2 ^ k) = 0 := by
      have := congrArg (S (T c) bs ^^^ ·) h1
      simpa [← Nat.xor_assoc] using this
    apply flips_none
    apply Ln_inj0 _ _ h2
    have : x % 2 ^ k < 2 ^ k := Nat.mod_lt _ (Nat.two_pow_pos k)
    have h3 : (2 : Nat) ^ k ≤ 2 ^ 32 := Nat.pow_le_pow_right (by decide) hk
    omega
  · intro h; rw [h]

/-- The lowest bit put out. -/
theorem low_out {c : Nat} (h0 : c ≠ 0) (hc : c < 4294967296) : c &&& (c - 1) = c ^^^ 2 ^ Lib.ctz 32 c ∧ Lib.ctz 32 c < 32 := by
  have e : Lib.ctz 32 c = Lib.ctzFrom 32 c := by simp [Lib.ctz, h0]
  obtain ⟨m, hm, hk⟩ := Lib.ctzFrom_spec 32 c (by omega) hc
  rw [e]
  refine ⟨?_, hk⟩
  generalize Lib.ctzFrom 32 c = k at hm
  have hp : 0 < 2 ^ k := Nat.two_pow_pos k
  have e1 : c = 2 ^ (k + 1) * m + 2 ^ k := by rw [hm, Nat.pow_succ, Nat.mul_add, Nat.mul_one, Nat.mul_assoc]
  have e2 : c - 1 = 2 ^ (k + 1) * m + (2 ^ k - 1) := by omega
  have l1 : 2 ^ k < 2 ^ (k + 1) := by rw [Nat.pow_succ]; omega
  rw [e2]
  conv => lhs; rw [e1]
  conv => rhs; rw [e1]
  apply Nat.eq_of_testBit_eq
  intro i
  rw [Nat.testBit_and, Nat.testBit_xor, Nat.testBit_two_pow_mul_add _ l1, Nat.testBit_two_pow_mul_add _ (by omega)]
  by_cases hi : i < k + 1
  · simp only [hi, if_true, Nat.testBit_two_pow, Nat.testBit_two_pow_sub_one]
    simp
    omega
  · simp only [hi, if_false, Nat.testBit_two_pow]
    have : (k = i) = False := by simp; omega
    simp [this]
theorem low_less {c : Nat} (h0 : c ≠ 0) : c &&& (c - 1) < c := by
  have : c &&& (c - 1) ≤ c - 1 := Nat.and_le_right
  omega
end Go.Crc
