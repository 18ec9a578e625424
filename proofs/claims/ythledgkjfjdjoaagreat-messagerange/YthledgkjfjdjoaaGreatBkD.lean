/- At, by the document. Conditions: lengths below 2^40. -/
import Derived.Test.YthledgkjfjdjoaaGreatBkC
import Derived.ArgAppend
import Derived.Laws.OwnMore
import Derived.OwnWalk
namespace Go.Proofs.YthledgkjfjdjoaaGreat.Bk
open Go.ChangeShapes Go.WideShapes Go.RowKit Go.Codec Go.Blk
set_option maxRecDepth 100000
set_option linter.unusedVariables false
def cellsOf (l : List UInt8) : List Value := l.map fun b : UInt8 => Value.int .u8 b.toNat
theorem convert_own {w : World} {base n : Nat} {v : Value} {l : List UInt8} (h : w.ownsRow base 5 1 v n (cellsOf l)) (hl : l.length = n) : (convert 66 9 v).run Tryz.prog w = .ok (.string (bs l)) w := by
  rcases h.2 with ⟨rfl, h0⟩ | ⟨g, cap, cur, rfl, _⟩
  · obtain rfl : l = [] := List.eq_nil_of_length_eq_zero (by omega)
    rw [run_convert_bytes_string w 66 9 5 none 0 0 Tryz.underlying66 Tryz.underlying5 Tryz.underlying9]
    rfl
  · subst hl
    exact run_convert_bytes_back (P := Tryz.prog) w 66 9 5 ⟨g, 0, none⟩ cap l Tryz.underlying66 Tryz.underlying5 Tryz.underlying9 (fun j hj => by
      have e : (⟨g, 0, none⟩ : Addr).add j = ⟨g, j, none⟩ := by unfold Addr.add; split <;> simp_all
      rw [e, h.cellAt j (by omega)]
      simp [cellsOf, hj])
theorem byteAt_sum (s : ByteArray) (F k : Nat) (w : World) : Calls Tryz.prog 85 #[.string s, .int .i64 ((F : Int) + (k : Int))] w fun e w' => e = .returned (.int .u8 (byte s.data.toList (F + k)).toNat) ∧ w = w' := by
  have h := byteAt_any s w (F + k)
  rw [Int.natCast_add] at h
  exact h
/-- What the loop holds: the first k bytes, in a row of the call's own. -/
structure Gathers (w : World) (L : List UInt8) (k : Nat) (v : Value) (wr : World) : Prop where
  own : wr.ownsRow w.heap.size 5 1 v k (cellsOf (L.take k))
  below : Below w.heap.size w wr
theorem Gathers.more {w wr w1 : World} {L : List UInt8} {k : Nat} {v v' : Value} {b : UInt8} (h : Gathers w L k v wr) (o : Obj) (hk : k < L.length) (hb : L[k]? = some b)
    (h1 : w1.ownsRow w.heap.size 5 1 v' (k + 1) (cellsOf (L.take k) ++ [.int .u8 b.toNat])) (hg : (wr.alloc o).grownBy w1 v.ownBlock) : Gathers w L (k + 1) v' w1 := by
  refine ⟨?_, (h.below.alloc h.below.size o).grown hg (by have := h.below.size; simp; omega) fun j hj => (h.own.lt j hj).1⟩
  have e : cellsOf (L.take (k + 1)) = cellsOf (L.take k) ++ [.int .u8 b.toNat] := by
    rw [List.take_add_one, hb]; simp [cellsOf]
  rw [e]
  exact h1
end Go.Proofs.YthledgkjfjdjoaaGreat.Bk
