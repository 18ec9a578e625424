/- Plain mathematics of blocks and patches over lists of bytes: no program. Conditions: none. -/
import Derived.Test.YthledgkjfjdjoaaGreatCodec
namespace Go.Blk
open Go.Codec
/-- The byte at a place, 0 where there is none. -/
def byte (l : List UInt8) (i : Nat) : UInt8 := l[i]?.getD 0
/-- A text without the bytes 0 at its end. -/
def trim : List UInt8 → List UInt8
  | [] => []
  | b :: l => if trim l = [] then (if b = 0 then [] else [b]) else b :: trim l
theorem byte_nil (i : Nat) : byte [] i = 0 := rfl
theorem byte_zero (b : UInt8) (l : List UInt8) : byte (b :: l) 0 = b := rfl
theorem byte_succ (b : UInt8) (l : List UInt8) (i : Nat) : byte (b :: l) (i + 1) = byte l i := by simp [byte]
theorem byte_out {l : List UInt8} {i : Nat} (h : l.length ≤ i) : byte l i = 0 := by simp [byte, List.getElem?_eq_none h]
theorem byte_in {l : List UInt8} {i : Nat} (h : i < l.length) : byte l i = l[i] := by simp [byte, h]
theorem byte_append (l m : List UInt8) (i : Nat) : byte (l ++ m) i = if i < l.length then byte l i else byte m (i - l.length) := by
  unfold byte
  split
  · rename_i h; rw [List.getElem?_append_left h]
  · rename_i h; rw [List.getElem?_append_right (by omega)]
theorem byte_take (l : List UInt8) (n i : Nat) : byte (l.take n) i = if i < n then byte l i else 0 := by
  unfold byte
  rw [List.getElem?_take]
  split <;> rfl
theorem byte_drop (l : List UInt8) (n i : Nat) : byte (l.drop n) i = byte l (n + i) := by
  unfold byte
  rw [List.getElem?_drop]
theorem byte_replicate (n i : Nat) : byte (List.replicate n 0) i = 0 := by
  unfold byte
  rw [List.getElem?_replicate]
  split <;> rfl
theorem trim_byte (l : List UInt8) (i : Nat) : byte (trim l) i = byte l i := by
  induction l generalizing i with
  | nil => rfl
  | cons b l ih =>
    unfold trim
    split
    · rename_i h
      rw [h] at ih
      cases i with
      | zero => split <;> simp_all [byte]
      | succ i =>
        rw [byte_succ, ← ih i]
        split
        · rfl
        · rw [byte_succ]
    · cases i with
      | zero => rfl
      | succ i => rw [byte_succ, byte_succ, ih]
theorem trim_len (l : List UInt8) : (trim l).length ≤ l.length := by
  induction l with
  | nil => simp [trim]
  | cons b l ih =>
    unfold trim
    split
    · split <;> simp
    · simp; omega
theorem trim_nil {l : List UInt8} (h : ∀ i, byte l i = 0) : trim l = [] := by
  induction l with
  | nil => rfl
  | cons b l ih =>
    have h0 : b = 0 := h 0
    unfold trim
    rw [if_pos (ih fun i => by rw [← byte_succ b l i]; exact h (i + 1)), if_pos h0]
/-- Texts with the same bytes are trimmed alike. -/
theorem trim_ext {l m : List UInt8} (h : ∀ i, byte l i = byte m i) : trim l = trim m := by
  induction l generalizing m with
  | nil => exact (trim_nil fun i => (h i).symm).symm
  | cons b l ih =>
    cases m with
    | nil => exact trim_nil h
    | cons c m =>
      have e : b = c := h 0
      subst e
      have e2 := ih (m := m) fun i => by have := h (i + 1); rwa [byte_succ, byte_succ] at this
      unfold trim
      rw [e2]
theorem trim_idem (l : List UInt8) : trim (trim l) = trim l := trim_ext fun i => trim_byte l i
theorem trim_last (l : List UInt8) (h : trim l ≠ []) : byte (trim l) ((trim l).length - 1) ≠ 0 := by
  induction l with
  | nil => exact absurd rfl h
  | cons b l ih =>
    unfold trim at h ⊢
    split
    · rename_i h1
      rw [if_pos h1] at h
      split
      · rename_i h2
        rw [if_pos h2] at h
        exact absurd rfl h
      · rename_i h2
        simpa [byte] using h2
    · rename_i h1
      have h2 := ih h1
      obtain ⟨n, hn⟩ : ∃ n, (trim l).length = n + 1 := ⟨(trim l).length - 1, by have := List.length_pos_iff.2 h1; omega⟩
      rw [List.length_cons, hn, Nat.add_sub_cancel, byte_succ]
      rw [hn] at h2
      exact h2
theorem trim_tight {l : List UInt8} (h : l ≠ [] → byte l (l.length - 1) ≠ 0) : trim l = l := by
  induction l with
  | nil => rfl
  | cons b l ih =>
    have h0 := h (by simp)
    unfold trim
    by_cases hl : l = []
    · subst hl
      have : ¬ b = 0 := by simpa [byte] using h0
      simp [trim, this]
    · obtain ⟨n, hn⟩ : ∃ n, l.length = n + 1 := ⟨l.length - 1, by have := List.length_pos_iff.2 hl; omega⟩
      rw [List.length_cons, hn, Nat.add_sub_cancel, byte_succ] at h0
      have e := ih fun _ => by rw [hn]; exact h0
      rw [e, if_neg hl]
theorem trim_eq {l : List UInt8} {m : Nat} (hm : m ≤ l.length) (h0 : ∀ i, m ≤ i → byte l i = 0) (h1 : 0 < m → byte l (m - 1) ≠ 0) : trim l = l.take m := by
  have e1 : trim l = trim (l.take m) := trim_ext fun i => by
    rw [byte_take]
    split
    · rfl
    · exact h0 i (by omega)
  rw [e1]
  apply trim_tight
  intro hne
  have hp := List.length_pos_iff.2 hne
  rw [List.length_take, Nat.min_eq_left hm] at hp ⊢
  rw [byte_take, if_pos (by omega)]
  exact h1 hp
/-- n bytes from f on. -/
def tell (l : List UInt8) (f n : Nat) : List UInt8 := (List.range n).map fun i => byte l (f + i)
theorem tell_len (l : List UInt8) (f n : Nat) : (tell l f n).length = n := by simp [tell]
theorem tell_get (l : List UInt8) (f n i : Nat) (h : i < n) : (tell l f n)[i]? = some (byte l (f + i)) := by simp [tell, h]
theorem byte_tell (l : List UInt8) (f n i : Nat) : byte (tell l f n) i = if i < n then byte l (f + i) else 0 := by
  unfold tell
  split
  · rename_i h; simp [byte, h]
  · rename_i h; exact byte_out (by simp; omega)
theorem list_ext {l m : List UInt8} (hl : l.length = m.length) (h : ∀ i, i < l.length → byte l i = byte m i) : l = m := by
  apply List.ext_getElem hl
  intro i h1 h2
  have := h i h1
  rw [byte_in h1, byte_in h2] at this
  exact this
theorem tell_ext {l m : List UInt8} {f g n : Nat} (h : ∀ i, i < n → byte l (f + i) = byte m (g + i)) : tell l f n = tell m g n := by
  apply list_ext (by rw [tell_len, tell_len])
  intro i hi
  rw [tell_len] at hi
  rw [byte_tell, byte_tell, if_pos hi, if_pos hi, h i hi]
theorem tell_drop (l : List UInt8) (f n : Nat) : tell (l.drop f) 0 n = tell l f n := tell_ext fun i _ => by rw [byte_drop, Nat.zero_add]
theorem tell_out {l : List UInt8} {f : Nat} (h : l.length ≤ f) (n : Nat) : tell l l.length n = tell l f n := tell_ext fun i _ => by rw [byte_out (by omega), byte_out (by omega)]
/-- What Check answers. -/
def ckV (l : List UInt8) : Nat := if l = [] ∨ 64 < l.length ∨ byte l (l.length - 1) = 0 then 4 else 0
/-- May a patch be? -/
def may (c : Bool) (a n : Int) (s : List UInt8) : Bool :=
  if c = true then decide (0 ≤ n ∧ n < 64 ∧ a = 0 ∧ s = []) else decide (s ≠ [] ∧ 0 ≤ a ∧ a + (s.length : Int) ≤ 64 ∧ n = 0)
theorem may_cut {a n : Int} {s : List UInt8} : may true a n s = true ↔ 0 ≤ n ∧ n < 64 ∧ a = 0 ∧ s = [] := by simp [may]
theorem may_splice {a n : Int} {s : List UInt8} : may false a n s = true ↔ s ≠ [] ∧ 0 ≤ a ∧ a + (s.length : Int) ≤ 64 ∧ n = 0 := by simp [may]
/-- The text of a patch. -/
def textP (c : Bool) (a n : Nat) (s : List UInt8) : List UInt8 := if c = true then be 1 2 ++ be 1 n else be 1 1 ++ be 1 a ++ (be 2 s.length ++ s)
def putP (c : Bool) (a n : Int) (s : List UInt8) : List UInt8 := if may c a n s = true then textP c a.toNat n.toNat s else []
def ckP (c : Bool) (a n : Int) (s : List UInt8) : Nat := if may c a n s = true then 0 else 4
/-- What comes of a text that may be a patch's. -/
structure Pt where
  c : Bool
  a : Nat
  n : Nat
  s : List UInt8
  e : Nat
def Pt.no (e : Nat) : Pt := ⟨false, 0, 0, [], e⟩
def size2 (l : List UInt8) : Nat := (byte l 2).toNat * 256 + (byte l 3).toNat
def tk (l : List UInt8) : Pt :=
  if l.length = 0 then .no 10
  else if (byte l 0).toNat = 1 then
    if l.length < 4 ∨ l.length < 4 + size2 l then .no 10
    else if 4 + size2 l < l.length ∨ may false (byte l 1).toNat 0 (l.drop 4) = false then .no 4
    else ⟨false, (byte l 1).toNat, 0, l.drop 4, 0⟩
  else if (byte l 0).toNat = 2 then
    if l.length < 2 then .no 10
    else if 2 < l.length ∨ may true 0 (byte l 1).toNat [] = false then .no 4
    else ⟨true, 0, (byte l 1).toNat, [], 0⟩
  else .no 4
/-- What a patch makes of a text. -/
def apl (l : List UInt8) (c : Bool) (a n : Int) (s : List UInt8) : List UInt8 :=
  trim (if may c a n s = true then (if c = true then tell l 0 n.toNat else tell l 0 a.toNat ++ s ++ tell l (a.toNat + s.length) (64 - (a.toNat + s.length))) else l.take 64)
end Go.Blk
