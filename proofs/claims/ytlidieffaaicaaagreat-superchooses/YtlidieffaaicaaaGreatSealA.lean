/- Words for stamps: bytes as numbers, a new writer, readers. Conditions: none. -/
import Derived.Test.YtlidieffaaicaaaGreatCodF
import Derived.Test.YtlidieffaaicaaaGreatSeal
import Derived.OwnWalk
namespace Go.Proofs.YtlidieffaaicaaaGreat
open Go.ChangeShapes Go.WideShapes Go.RowKit Go.Codec
set_option maxRecDepth 100000
set_option linter.unusedVariables false
theorem ret_i {k : IntKind} {a b : Int} (h : a = b) : Ending.returned (.int k a) = .returned (.int k b) := by rw [h]
def bl (s : ByteArray) : List Nat := s.data.toList.map (·.toNat)
theorem bl_length (s : ByteArray) : (bl s).length = s.size := by
  show (s.data.toList.map _).length = s.data.size
  rw [List.length_map, Array.length_toList]
theorem bl_lt (s : ByteArray) : ∀ b ∈ bl s, b < 256 := by
  intro b hb
  simp only [bl, List.mem_map] at hb
  obtain ⟨x, _, rfl⟩ := hb
  exact x.toNat_lt
theorem byte_lt (b : UInt8) : b.toNat < 256 := b.toNat_lt

def newW (w : World) : World := w.alloc (.cells #[.pointer none, .int .i64 0, .int .i64 0] 122)
theorem newW_below (w : World) : Below w.heap.size w (newW w) := (Below.refl _ w).alloc (Nat.le_refl _) _

theorem R.drop_torn (n : Nat) : (⟨[], 10⟩ : R).drop n = ⟨[], 10⟩ := by unfold R.drop; split <;> simp
theorem R.drop_ok {l : List UInt8} {e : Int} {n : Nat} (h : n ≤ l.length) : (⟨l, e⟩ : R).drop n = ⟨l.drop n, e⟩ := by unfold R.drop; rw [if_pos h]
theorem R.take_ok {l : List UInt8} {e : Int} {n : Nat} (h : n ≤ l.length) : (⟨l, e⟩ : R).take n = l.take n := by unfold R.take; rw [if_pos h]
theorem R.drop_not {l : List UInt8} {e : Int} {n : Nat} (h : ¬ n ≤ l.length) : (⟨l, e⟩ : R).drop n = ⟨[], 10⟩ := by unfold R.drop; rw [if_neg h]
/-- Where bytes are missing, the reader is torn. -/
theorem torn_rest (l : List UInt8) (h : l.length < 6 ∨ l.length - 6 < val (l.take 2)) : ((⟨l, 0⟩ : R).behind.drop 4).er = 10 := by
  unfold R.behind
  by_cases h2 : 2 ≤ l.length
  · rw [R.drop_ok h2, R.take_ok h2]
    by_cases h3 : val (l.take 2) ≤ (l.drop 2).length
    · rw [R.drop_ok h3, R.drop_not (by rw [List.length_drop] at h3 ⊢; rw [List.length_drop]; omega)]
    · rw [R.drop_not h3, R.drop_torn]
  · rw [R.drop_not h2, R.drop_torn, R.drop_torn]
theorem whole_rest (l : List UInt8) (h : ¬ (l.length < 6 ∨ l.length - 6 < val (l.take 2))) : (⟨l, 0⟩ : R).text = (l.drop 2).take (val (l.take 2)) ∧ (⟨l, 0⟩ : R).behind = ⟨l.drop (2 + val (l.take 2)), 0⟩ ∧ (⟨l.drop (2 + val (l.take 2)), 0⟩ : R).drop 4 = ⟨l.drop (6 + val (l.take 2)), 0⟩ ∧ (⟨l.drop (2 + val (l.take 2)), 0⟩ : R).take 4 = (l.drop (2 + val (l.take 2))).take 4 := by
  have h2 : 2 ≤ l.length := by omega
  have h3 : val (l.take 2) ≤ (l.drop 2).length := by rw [List.length_drop]; omega
  refine ⟨?_, ?_, ?_, ?_⟩
  · unfold R.text
    rw [R.drop_ok h2, R.take_ok h2, R.take_ok h3]
  · unfold R.behind
    rw [R.drop_ok h2, R.take_ok h2, R.drop_ok h3, List.drop_drop]
  · rw [R.drop_ok (by rw [List.length_drop]; omega), List.drop_drop]
    congr 2
    omega
  · rw [R.take_ok (by rw [List.length_drop]; omega)]
theorem behind_len (x : R) : x.behind.rest.length ≤ x.rest.length := by
  unfold R.behind
  exact Nat.le_trans (drop_len _ _) (drop_len _ _)
theorem extract_bs (s : ByteArray) (a b : Nat) : s.extract a b = bs ((s.data.toList.drop a).take (b - a)) := by
  have h := bs_extract s.data.toList a b
  rw [list_bs] at h
  exact h

end Go.Proofs.YtlidieffaaicaaaGreat
