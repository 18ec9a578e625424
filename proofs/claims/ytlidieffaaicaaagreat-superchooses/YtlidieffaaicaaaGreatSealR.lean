/- Rows of bytes that may be written. Conditions: none. -/
import Derived.Test.YtlidieffaaicaaaGreatSealA
import Derived.StillTailTactics
namespace Go.Proofs.YtlidieffaaicaaaGreat
open Go.ChangeShapes Go.WideShapes Go.RowKit
/-- The row b holds the bytes bs, and may be written. -/
structure Row (b : Nat) (bs : List Nat) (w : World) : Prop where
  size : b < w.heap.size
  cell : ∀ j, j < bs.length → w.cell? ⟨b, j, none⟩ = some (.int .u8 (bs.getD j 0 : Nat))
  free : ∀ j, j < bs.length → w.frozen? ⟨b, j, none⟩ = false
  byte : ∀ x ∈ bs, x < 256
theorem Row.at_lt {b : Nat} {bs : List Nat} {w : World} (h : Row b bs w) (j : Nat) (hj : j < bs.length) : bs.getD j 0 < 256 := by
  have e : bs.getD j 0 = bs[j] := by simp [List.getD, hj]
  rw [e]
  exact h.byte _ (List.getElem_mem hj)
theorem bit_odd {x k : Nat} (h : x / 2 ^ k % 2 = 1) : (((x : Int) / 2 ^ k).tmod 2 == 1) = true := by
  have e : (x : Int) / 2 ^ k = ((x / 2 ^ k : Nat) : Int) := by simp
  rw [e]
  generalize x / 2 ^ k = q at h
  rw [Int.tmod_eq_emod_of_nonneg (by omega), beq_iff_eq]; omega
theorem bit_even {x k : Nat} (h : ¬ x / 2 ^ k % 2 = 1) : (((x : Int) / 2 ^ k).tmod 2 == 1) = false := by
  have e : (x : Int) / 2 ^ k = ((x / 2 ^ k : Nat) : Int) := by simp
  rw [e]
  generalize x / 2 ^ k = q at h
  rw [Int.tmod_eq_emod_of_nonneg (by omega), beq_eq_false_iff_ne]; omega
theorem pow_mod8 {k : Nat} (h : k < 8) : (2 : Int) ^ (min k 8) % 256 = ((2 ^ k : Nat) : Int) ∧ 2 ^ k < 256 := by
  rw [Nat.min_eq_left (by omega)]
  have h1 : (2 : Nat) ^ k < 2 ^ 8 := Nat.pow_lt_pow_right (by decide) h
  have e : (2 : Int) ^ k = ((2 ^ k : Nat) : Int) := by simp
  rw [e]
  generalize 2 ^ k = p at *
  omega
theorem setCell_other (w : World) (b i j : Nat) (v : Value) (h : i ≠ j) : (w.setCell ⟨b, i, none⟩ v).cell? ⟨b, j, none⟩ = w.cell? ⟨b, j, none⟩ := World.cell?_setCell_other _ _ _ _ (by intro e; injection e with _ e2 _; omega)
theorem Row.next {b : Nat} {s : List Nat} {w : World} {f x k j r p v : Nat} (h : Row b (Crc.flips s f x k) w) (ho : x / 2 ^ k % 2 = 1) (hj : j = (f + k) / 8) (hr : r = (f + k) % 8) (hp : p = 2 ^ r) (hv : v = (Crc.flips s f x k).getD j 0) (hjl : j < (Crc.flips s f x k).length) :
    Row b (Crc.flips s f x (k + 1)) (w.setCell ⟨b, j, none⟩ (.int .u8 (v ^^^ p : Nat))).drew := by
  have e : Crc.flips s f x (k + 1) = (Crc.flips s f x k).modify j (· ^^^ p) := by
    show (if _ then _ else _) = _
    rw [if_pos ho, Crc.flip, hp, hr, hj]
  have hat := h.at_lt j hjl
  rw [e]
  generalize Crc.flips s f x k = bs at *
  refine ⟨?_, fun i hi => ?_, fun i hi => ?_, fun y hy => ?_⟩
  · show _ < (World.setCell _ _ _).heap.size
    simpa [World.setCell] using h.size
  · rw [List.length_modify] at hi
    show (World.setCell _ _ _).cell? _ = _
    by_cases hij : j = i
    · subst hij
      rw [World.cell?_setCell_same _ _ _ (h.cell j hi)]
      simp [List.getD, hi, hv]
    · rw [setCell_other _ _ _ _ _ hij, h.cell i hi]
      simp [List.getD, hij]
  · rw [List.length_modify] at hi
    show (World.setCell _ _ _).frozen? _ = _
    rw [World.frozen?_setCell]
    exact h.free i hi
  · obtain ⟨i, hi, rfl⟩ := List.getElem_of_mem hy
    rw [List.length_modify] at hi
    rw [List.getElem_modify]
    split
    · have h1 := h.byte _ (List.getElem_mem hi)
      have h2 : p < 256 := by
        rw [hp]
        have : (2 : Nat) ^ r < 2 ^ 8 := Nat.pow_lt_pow_right (by decide) (by omega)
        omega
      exact Nat.xor_lt_two_pow (n := 8) h1 h2
    · exact h.byte _ (List.getElem_mem hi)
theorem Row.same {b : Nat} {s : List Nat} {w : World} {f x k : Nat} (h : Row b (Crc.flips s f x k) w) (ho : ¬ x / 2 ^ k % 2 = 1) : Row b (Crc.flips s f x (k + 1)) w := by
  have e : Crc.flips s f x (k + 1) = Crc.flips s f x k := by
    show (if _ then _ else _) = _
    rw [if_neg ho]
  rw [e]; exact h
def textOf (bs : List Nat) : ByteArray := ⟨(bs.map UInt8.ofNat).toArray⟩
theorem textOf_size (bs : List Nat) : (textOf bs).size = bs.length := by
  show ((bs.map UInt8.ofNat).toArray).size = _
  simp
theorem bl_text {b : Nat} {bs : List Nat} {w : World} (h : Row b bs w) : bl (textOf bs) = bs := by
  show ((bs.map UInt8.ofNat).toArray.toList).map (·.toNat) = bs
  rw [List.map_map]
  conv => rhs; rw [← List.map_id bs]
  apply List.map_congr_left
  intro y hy
  have := h.byte y hy
  simp [Nat.mod_eq_of_lt this]
theorem bl_inj {a b : ByteArray} (h : bl a = bl b) : a = b := by
  apply ByteArray.ext
  apply Array.toList_inj.1
  have hinj : ∀ x y : UInt8, x.toNat = y.toNat → x = y := fun x y h => UInt8.toNat_inj.1 h
  exact (List.map_inj_right hinj).1 h
theorem eq_of_toList {a b : ByteArray} (h : a.toList = b.toList) : a = b := by
  rw [ByteArray.toList_eq, ByteArray.toList_eq] at h
  exact ByteArray.ext (Array.toList_inj.1 h)
theorem text_of {b : Nat} {bs : List Nat} {w : World} (h : Row b bs w) (cap : Nat) : (convert 72 9 (.slice (some ⟨b, 0, none⟩) bs.length cap)).run Tryz.prog w = .ok (.string (textOf bs)) w := by
  have hr := run_convert_bytes_back (P := Tryz.prog) w 72 9 5 ⟨b, 0, none⟩ cap (bs.map UInt8.ofNat) Tryz.underlying72 Tryz.underlying5 Tryz.underlying9 (fun j hj => by
    have hj' : j < bs.length := by simpa using hj
    have e : (⟨b, 0, none⟩ : Addr).add j = ⟨b, j, none⟩ := by unfold Addr.add; split <;> simp_all
    have hl := h.byte _ (List.getElem_mem hj')
    rw [e, h.cell j hj']
    simp [List.getD, hj', Nat.mod_eq_of_lt hl])
  simp only [List.length_map] at hr
  exact hr
theorem bytesRow_at {s : ByteArray} {j cap : Nat} (hj : j < s.size) : (bytesRow s cap)[j]? = some (.int .u8 ((bl s).getD j 0 : Nat)) := by
  have hd : j < s.data.size := hj
  have hb : (bl s).getD j 0 = s.data[j].toNat := by
    unfold bl
    have hq := Array.getElem?_eq_getElem hd
    simp [List.getD, hq]
  rw [hb]
  unfold bytesRow
  rw [Array.getElem?_append_left (by rw [Array.size_map]; exact hd)]
  have hq := Array.getElem?_eq_getElem hd
  simp [hq]
theorem bytes_row (w : World) (s : ByteArray) : ∃ cap w1, (convert 9 72 (.string s)).run Tryz.prog w = .ok (.slice (some ⟨w.heap.size, 0, none⟩) s.size cap) w1 ∧ Row w.heap.size (bl s) w1 ∧ Below w.heap.size w w1 := by
  refine ⟨_, _, run_bytes_of_string (P := Tryz.prog) w 9 72 5 s Tryz.underlying9 Tryz.underlying72 Tryz.underlying5, ⟨?_, ?_, ?_, bl_lt s⟩, ?_⟩
  · show _ < (World.alloc _ _).heap.size
    simp
  · intro j hj
    rw [bl_length] at hj
    rw [show (w.heap.size) = w.drew.heap.size from rfl, World.cell?_alloc_mark, bytesRow_at hj]
  · intro j hj
    rw [bl_length] at hj
    have hsz : s.size ≤ (bytesRow s (grownCap w s.size 0 5)).size := by
      unfold bytesRow
      rw [Array.size_append, Array.size_map]
      exact Nat.le_add_right _ _
    rw [show (w.heap.size) = w.drew.heap.size from rfl, World.frozen?_alloc_mark]
    simp
    omega
  · exact ((Below.refl _ w).drew).alloc (Nat.le_refl _) _
end Go.Proofs.YtlidieffaaicaaaGreat
