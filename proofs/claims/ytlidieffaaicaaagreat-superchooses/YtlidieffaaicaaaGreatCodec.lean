/- Plain mathematics of numbers and texts as bytes: no program. Conditions: none. -/
import Derived.Lib.Strings
namespace Go.Codec
/-- The last k bytes of a number, the highest first. -/
def be : Nat → Nat → List UInt8
  | 0, _ => []
  | k + 1, n => UInt8.ofNat (n / 256 ^ k) :: be k n
/-- The number that bytes say, the highest first. -/
def val (l : List UInt8) : Nat := l.foldl (fun n b => n * 256 + b.toNat) 0
theorem be_length (k n : Nat) : (be k n).length = k := by
  induction k with
  | zero => rfl
  | succ k ih => simp [be, ih]
theorem val_nil : val [] = 0 := rfl
theorem val_snoc (l : List UInt8) (b : UInt8) : val (l ++ [b]) = val l * 256 + b.toNat := by simp [val]
theorem val_from (l : List UInt8) (n : Nat) : l.foldl (fun n b => n * 256 + b.toNat) n = n * 256 ^ l.length + val l := by
  induction l generalizing n with
  | nil => simp [val]
  | cons b l ih =>
    simp only [val, List.foldl_cons, List.length_cons] at ih ⊢
    rw [ih, ih (0 * 256 + b.toNat)]
    rw [Nat.pow_succ, Nat.add_mul, Nat.zero_mul, Nat.zero_add, Nat.mul_assoc, Nat.mul_comm 256]
    omega
theorem val_cons (b : UInt8) (l : List UInt8) : val (b :: l) = b.toNat * 256 ^ l.length + val l := by
  have := val_from l (0 * 256 + b.toNat)
  simp only [val, List.foldl_cons] at this ⊢
  rw [this]; simp
theorem val_append (l m : List UInt8) : val (l ++ m) = val l * 256 ^ m.length + val m := by
  unfold val
  rw [List.foldl_append, val_from]; rfl
theorem val_lt (l : List UInt8) : val l < 256 ^ l.length := by
  induction l with
  | nil => simp [val]
  | cons b l ih =>
    rw [val_cons, List.length_cons, Nat.pow_succ]
    have hb : b.toNat < 256 := b.toNat_lt
    have : b.toNat * 256 ^ l.length ≤ 255 * 256 ^ l.length := Nat.mul_le_mul_right _ (by omega)
    omega
theorem val_be (k n : Nat) : val (be k n) = n % 256 ^ k := by
  induction k with
  | zero => simp [be, val, Nat.mod_one]
  | succ k ih =>
    rw [be, val_cons, ih, be_length]
    have e : (UInt8.ofNat (n / 256 ^ k)).toNat = n / 256 ^ k % 256 := by simp
    rw [e, Nat.pow_succ, Nat.mod_mul, Nat.mul_comm]
    omega
theorem be_more (k n a : Nat) : be k (n + a * 256 ^ k) = be k n := by
  induction k generalizing a with
  | zero => rfl
  | succ k ih =>
    have e : n + a * 256 ^ (k + 1) = n + a * 256 * 256 ^ k := by rw [Nat.pow_succ, Nat.mul_assoc, Nat.mul_comm (256 ^ k)]
    rw [be, be, e, ih, Nat.add_mul_div_right _ _ (Nat.pow_pos (by decide))]
    have h : UInt8.ofNat (n / 256 ^ k + a * 256) = UInt8.ofNat (n / 256 ^ k) := by
      apply UInt8.toNat_inj.1
      simp
    rw [h]
theorem be_mod (k n : Nat) : be k (n % 256 ^ k) = be k n := by
  have h := be_more k (n % 256 ^ k) (n / 256 ^ k)
  rw [Nat.mul_comm, Nat.mod_add_div] at h
  exact h.symm
theorem be_val (l : List UInt8) : be l.length (val l) = l := by
  induction l with
  | nil => rfl
  | cons b l ih =>
    have hl := val_lt l
    have e : (b.toNat * 256 ^ l.length + val l) / 256 ^ l.length = b.toNat := by
      rw [Nat.mul_comm, Nat.mul_add_div (Nat.pow_pos (by decide)), Nat.div_eq_of_lt hl, Nat.add_zero]
    rw [List.length_cons, be, val_cons, e, Nat.add_comm, be_more, ih]
    simp
theorem be_val' {l : List UInt8} {k : Nat} (h : l.length = k) : be k (val l) = l := by rw [← h, be_val]
theorem be_get (k n i : Nat) (h : i < k) : (be k n)[i]? = some (UInt8.ofNat (n / 256 ^ (k - 1 - i))) := by
  induction k generalizing i with
  | zero => omega
  | succ k ih =>
    cases i with
    | zero => simp [be]
    | succ i =>
      have e : k + 1 - 1 - (i + 1) = k - 1 - i := by omega
      rw [be, List.getElem?_cons_succ, ih i (by omega), e]
theorem be_low (k n : Nat) : be (k + 1) n = be k (n / 256) ++ [UInt8.ofNat n] := by
  induction k with
  | zero => simp [be]
  | succ k ih =>
    rw [be, ih, be, List.cons_append, Nat.div_div_eq_div_mul]
    congr 3
    rw [Nat.pow_succ, Nat.mul_comm]
theorem or_add (a b k : Nat) (h : b < 2 ^ k) : a * 2 ^ k ||| b = a * 2 ^ k + b := by
  rw [← Nat.shiftLeft_eq, ← Nat.shiftLeft_add_eq_or_of_lt h]
theorem pow_eight (k : Nat) : 256 ^ k = 2 ^ (8 * k) := by rw [Nat.pow_mul]
/-- One more byte, or-ed in at its place. -/
theorem val_or (l : List UInt8) (b : UInt8) (k : Nat) : val l * 256 ^ (k + 1) ||| b.toNat * 256 ^ k = val (l ++ [b]) * 256 ^ k := by
  have hb : b.toNat < 256 := b.toNat_lt
  have h : b.toNat * 256 ^ k < 2 ^ (8 * (k + 1)) := by
    rw [← pow_eight, Nat.pow_succ, Nat.mul_comm]
    exact Nat.mul_lt_mul_of_pos_left hb (Nat.pow_pos (by decide))
  have e := or_add (val l) _ _ h
  rw [← pow_eight] at e
  rw [e, val_snoc, Nat.add_mul, Nat.pow_succ, Nat.mul_assoc, Nat.mul_comm 256]
/-- A text as a string. -/
def bs (l : List UInt8) : ByteArray := ⟨l.toArray⟩
theorem bs_size (l : List UInt8) : (bs l).size = l.length := by show l.toArray.size = _; simp
theorem bs_list (l : List UInt8) : (bs l).data.toList = l := by show l.toArray.toList = _; simp
theorem list_bs (s : ByteArray) : bs s.data.toList = s := by
  apply ByteArray.ext
  show s.data.toList.toArray = _
  simp
theorem bs_inj {l m : List UInt8} (h : bs l = bs m) : l = m := by rw [← bs_list l, h, bs_list]
theorem bs_extract (l : List UInt8) (a b : Nat) : (bs l).extract a b = bs ((l.drop a).take (b - a)) := by
  have h := Go.Lib.extract_eq (bs l) a b
  rw [bs_list] at h
  exact h
theorem bs_append (l m : List UInt8) : bs l ++ bs m = bs (l ++ m) := by
  apply ByteArray.ext
  show (bs l ++ bs m).data = _
  rw [ByteArray.data_append]
  simp [bs]
end Go.Codec
