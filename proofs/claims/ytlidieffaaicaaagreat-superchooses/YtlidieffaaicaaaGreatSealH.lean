/- The document's answer: opening and filling up. Conditions: lengths below 2^30. -/
import Derived.Test.YtlidieffaaicaaaGreatSealG
namespace Go.Proofs.YtlidieffaaicaaaGreat
open Go.ChangeShapes Go.WideShapes Go.RowKit Go.Codec
set_option maxRecDepth 100000
set_option linter.unusedVariables false
theorem nought_text (n : Nat) (w : World) : (convert 72 9 (.slice (some ⟨w.heap.size, 0, none⟩) n n)).run Tryz.prog (mk w n) = .ok (.string (bs (Seal.noughts n))) (mk w n) := by
  have h := run_convert_bytes_back (P := Tryz.prog) (mk w n) 72 9 5 ⟨w.heap.size, 0, none⟩ n (Seal.noughts n) Tryz.underlying72 Tryz.underlying5 Tryz.underlying9 (fun j hj => by
    have hj' : j < n := by rw [Seal.noughts_length] at hj; exact hj
    have e : (⟨w.heap.size, 0, none⟩ : Addr).add j = ⟨w.heap.size, j, none⟩ := by unfold Addr.add; split <;> simp_all
    rw [e]
    show (w.alloc (.cells (madeCells #[.int .u8 0] n) 5)).cell? _ = _
    rw [(Is.new w 5 (madeCells #[.int .u8 0] n)).cell j, ← Array.getElem?_toList, toList_madeCells_one]
    simp [Seal.noughts, hj'])
  rw [Seal.noughts_length] at h
  exact h
theorem mk_below (w : World) (n : Nat) : Below w.heap.size w (mk w n) := (Below.refl _ w).alloc (Nat.le_refl _) _
end Go.Proofs.YtlidieffaaicaaaGreat
