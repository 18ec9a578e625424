/- A patch's text, by the document. Conditions: lengths below 2^40. -/
import Derived.Test.YthledgkjfjdjoaaGreatBkF
namespace Go.Proofs.YthledgkjfjdjoaaGreat.Bk
open Go.ChangeShapes Go.WideShapes Go.RowKit Go.Codec Go.Blk
set_option maxRecDepth 100000
theorem row_text {w : World} {g k : Nat} {l : List UInt8} (hl : l.length = k) (h : Is w g 5 (cellsOf l).toArray) : (convert 66 9 (.slice (some ⟨g, 0, none⟩) k k)).run Tryz.prog w = .ok (.string (bs l)) w := by
  subst hl
  exact run_convert_bytes_back (P := Tryz.prog) w 66 9 5 ⟨g, 0, none⟩ l.length l Tryz.underlying66 Tryz.underlying5 Tryz.underlying9 (fun j hj => by
    have e : (⟨g, 0, none⟩ : Addr).add j = ⟨g, j, none⟩ := by unfold Addr.add; split <;> simp_all
    rw [e, h.cell j]
    simp [cellsOf, hj])
theorem cell_be {n : Nat} (hn : n < 256) : cellsOf (be 1 n) = [.int .u8 n] := by
  simp [cellsOf, be]; omega
theorem splice_text {a : Nat} {s : ByteArray} (hs : s.size ≤ 64) : bs (be 1 1 ++ be 1 a ++ (be 1 0 ++ be 1 s.size)) ++ s = bs (be 1 1 ++ be 1 a ++ (be 2 s.data.toList.length ++ s.data.toList)) := by
  have e : be 2 s.data.toList.length = be 1 0 ++ be 1 s.size := by
    rw [← Lib.size_eq, be1, be1, be2, Nat.div_eq_of_lt (by omega)]
    rfl
  rw [e]
  conv => lhs; rw [← list_bs s, bs_append, list_bs s]
  simp only [List.append_assoc]
end Go.Proofs.YthledgkjfjdjoaaGreat.Bk
