/- Plain mathematics of metas and changes: no program. Conditions: none. -/
import Derived.Test.YthledgkjfjdjoaaGreatCodec
import Derived.Test.YthledgkjfjdjoaaGreatNum
namespace Go.Mt
open Go.Codec Go.Num
/-- May a file or directory be of this size? -/
def okSz (k sz : Nat) : Bool := if k = 1 then decide (sz ≤ 2048) else if k = 2 then decide (sz = 0) else false
def mayM (k sz mk : Nat) : Bool := okSz k sz && decide (quietN mk = mk)
def mayC (wh n op b : Nat) : Bool :=
  if wh = 1 ∨ wh = 2 then decide (n ≤ 2048 ∧ op = 0 ∧ b = 0)
  else if wh = 3 then decide (n = 0 ∧ 1 ≤ op ∧ op ≤ 5)
  else if wh = 4 then decide (op = 0 ∧ b = 0) else false
/-- What a change asks of its numbers, but for what has to be 0. -/
def fits (wh n op : Nat) : Bool :=
  if wh = 1 ∨ wh = 2 then decide (n ≤ 2048)
  else if wh = 3 then decide (1 ≤ op ∧ op ≤ 5) else decide (wh = 4)
def ckM (k sz mk : Nat) : Nat := if mayM k sz mk then 0 else 4
def textM (k sz mk st : Nat) : List UInt8 := be 1 k ++ be 4 sz ++ be 8 mk ++ be 8 st
def putM (k sz mk st : Nat) : List UInt8 := if mayM k sz mk then textM k sz mk st else []
def textC (wh n op b : Nat) : List UInt8 := be 1 wh ++ if wh = 3 then be 1 op ++ be 8 b else if wh = 4 then be 8 n else be 4 n
def putC (wh n op b : Nat) : List UInt8 := if mayC wh n op b then textC wh n op b else []
def ckC (wh n op b : Nat) : Nat := if mayC wh n op b then 0 else 4
/-- The number that the bytes from a place on, below another one, say. -/
def num (l : List UInt8) (a b : Nat) : Nat := val ((l.drop a).take (b - a))
theorem num_lt (l : List UInt8) (a b : Nat) : num l a b < 256 ^ (b - a) := by
  have h := val_lt ((l.drop a).take (b - a))
  have h2 : 256 ^ ((l.drop a).take (b - a)).length ≤ 256 ^ (b - a) := Nat.pow_le_pow_right (by decide) (by simp; omega)
  unfold num; omega
def takeE (l : List UInt8) : Nat := if l.length < 21 then 10 else if 21 < l.length then 4 else ckM (num l 0 1) (num l 1 5) (num l 5 13)
def long (wh : Nat) : Nat := if wh = 3 then 10 else if wh = 4 then 9 else 5
def cN (l : List UInt8) (wh : Nat) : Nat := if wh = 3 then 0 else num l 1 (long wh)
def cOp (l : List UInt8) (wh : Nat) : Nat := if wh = 3 then num l 1 2 else 0
def cBy (l : List UInt8) (wh : Nat) : Nat := if wh = 3 then num l 2 10 else 0
def takeCE (l : List UInt8) : Nat :=
  if l = [] then 10 else if num l 0 1 < 1 ∨ 4 < num l 0 1 then 4
  else if l.length < long (num l 0 1) then 10 else if long (num l 0 1) < l.length then 4
  else ckC (num l 0 1) (cN l (num l 0 1)) (cOp l (num l 0 1)) (cBy l (num l 0 1))
end Go.Mt
