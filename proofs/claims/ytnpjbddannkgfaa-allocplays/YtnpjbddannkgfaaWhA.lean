/- Rows that count sectors; the rows of whole. Conditions: none. -/
import Derived.Test.YtnpjbddannkgfaaAlU
namespace Go.Proofs.Ytnpjbddannkgfaa
open Go.ChangeShapes Go.WideShapes Go.RowKit Go.Maps Go.Spans Go.Alloc
set_option maxRecDepth 100000
/-- One for each of S, below n. -/
def ofA (S : List Nat) (n : Nat) : Array Value := ((List.range n).map fun j => Value.int .i64 (if j ∈ S then 1 else 0)).toArray
theorem ofA_size (S : List Nat) (n : Nat) : (ofA S n).size = n := by simp [ofA]
theorem ofA_get {S : List Nat} {n j : Nat} (h : j < n) : (ofA S n)[j]? = some (.int .i64 (if j ∈ S then 1 else 0)) := by
  simp [ofA, List.getElem?_map, List.getElem?_range h]
theorem ofA_set {S : List Nat} {n x : Nat} (h : x < n) : (ofA S n).setIfInBounds x (.int .i64 1) = ofA (S ++ [x]) n := by
  apply Array.ext_getElem?
  intro j
  rw [Array.getElem?_setIfInBounds, ofA_size]
  by_cases hj : j < n
  · rw [ofA_get hj, ofA_get hj]
    by_cases e : x = j
    · subst e
      simp [h]
    · have : ¬ j = x := fun e' => e e'.symm
      simp [e, this]
  · have : ¬ x = j := by omega
    rw [if_neg this]
    rw [Array.getElem?_eq_none (by rw [ofA_size]; omega), Array.getElem?_eq_none (by rw [ofA_size]; omega)]
theorem make_of (n : Nat) (hn : n ≤ 100000) (w : World) : (Instr.makeSlice 46 (.int .i64 (n : Int)) (.int .i64 (n : Int))).run Try.prog w = .ok (.slice (some ⟨w.heap.size, 0, none⟩) n n) (w.alloc (.cells (ofA [] n) 3)) := by
  obtain ⟨i0, hi0, hh⟩ := Option.map_eq_some_iff.1 info3
  simp only [Prod.mk.injEq] at hh
  obtain ⟨hz0, hz1, hz2⟩ := hh
  have hmk := run_make (P := Try.prog) w 46 3 i0 _ Try.underlying46 hi0 hz0 .i64 .i64 (n : Int) (n : Int) (by omega) (by omega) (by rw [hz2]; omega) (by omega)
  rw [hmk]
  have e1 : ((n : Int)).toNat = n := by omega
  have e2 : madeCells (Value.int .i64 0).cells (n * i0.size) = ofA [] n := by
    rw [hz1, Nat.mul_one]
    apply Array.ext_getElem?
    intro j
    by_cases hj : j < n
    · rw [ofA_get hj]
      simp [madeCells, Value.cells, hj, Nat.mod_one]
    · rw [Array.getElem?_eq_none (by rw [size_madeCells]; omega), Array.getElem?_eq_none (by rw [ofA_size]; omega)]
  rw [e1, e2]
/-- All the sectors of a chain, as a row: what whole builds of it. -/
theorem all_row {w : World} (p : Int) {u : Value} {xs : List Int} (hu : Sl w u xs) (hl : xs.length ≤ 8192) (ty : TypeId) :
    ∃ P C w', (Builtin.append_ #[46, 46] ty #[.slice (some ⟨w.heap.size, 0, none⟩) 1 1, u]).run Try.prog (w.alloc (.cells #[.int .i64 p] 3)) = .ok (.slice P (xs.length + 1) C) w' ∧ w'.ownsRow w.heap.size 3 1 (.slice P (xs.length + 1) C) (xs.length + 1) (zs (p :: xs)) ∧ Below w.heap.size w w' := by
  have hb1 := below_alloc (Below.refl _ w) (.cells #[.int .i64 p] 3)
  have hrow : (w.alloc (.cells #[.int .i64 p] 3)).ownsRow w.heap.size 3 1 (.slice (some ⟨w.heap.size, 0, none⟩) 1 1) [p].length (zs [p]) :=
    ⟨rfl, .inr ⟨w.heap.size, 1, #[.int .i64 p], rfl, Nat.le_refl _, Is.new w 3 _, by simp, by unfold maxLen; omega, rfl, rfl⟩⟩
  obtain ⟨P, C, w', hr, hr2, hg, _⟩ := app_ints hrow (hu.below hb1) (by simp; omega) hb1.size ty
  have e1 : ([p] ++ xs).length = xs.length + 1 := by simp
  rw [e1] at hr hr2
  exact ⟨P, C, w', hr, hr2, Below.grown_own hb1 hrow hg⟩
theorem row_off {w w' : World} {base n : Nat} {v : Value} {cs : List Value} {G : Nat} (h : w.ownsRow base 3 1 v n cs) (hk : Kp w w' [G]) (hG : G < base) : w'.ownsRow base 3 1 v n cs := by
  obtain ⟨h0, h | ⟨g, cap, cur, e1, e2, e3, e4⟩⟩ := h
  · exact ⟨h0, .inl h⟩
  · exact ⟨h0, .inr ⟨g, cap, cur, e1, e2, hk.is (g := g) e3 (by simp; omega), e4⟩⟩
theorem allS_take_succ {L : List Ch} {k : Nat} {c : Ch} (h : L[k]? = some c) : allS (L.take (k + 1)) = allS (L.take k) ++ c.secs := by
  unfold allS
  rw [List.take_add_one, h]
  simp
theorem allS_take_len (L : List Ch) (k : Nat) : (allS (L.take k)).length ≤ (allS L).length := by
  have : (allS (L.take k)).Sublist (allS L) := by
    conv => rhs; rw [← List.take_append_drop k L]
    unfold allS
    rw [List.flatMap_append]
    exact List.sublist_append_left _ _
  exact this.length_le
theorem allS_split {L : List Ch} {k : Nat} {c : Ch} (h : L[k]? = some c) : ∃ B, allS L = allS (L.take k) ++ (c.secs ++ B) := by
  refine ⟨allS (L.drop (k + 1)), ?_⟩
  have := (List.getElem?_eq_some_iff.1 h)
  obtain ⟨hlt, e⟩ := this
  conv => lhs; rw [← List.take_append_drop k L, ← List.getElem_cons_drop hlt, e]
  unfold allS
  rw [List.flatMap_append, List.flatMap_cons]
/-- The next sector of a right allocator's chains is not among those that came. -/
theorem fresh_sec {f n : Nat} {xs : List Sp} {L : List Ch} {W : List Nat} (hi : Go.Alloc.Inv f n xs L W) {k j x : Nat} {c : Ch} (hc : L[k]? = some c) (hx : c.secs[j]? = some x) : x ∉ allS (L.take k) ++ c.secs.take j ∧ f ≤ x ∧ x < n := by
  obtain ⟨Bk, e⟩ := allS_split hc
  have hn := hi.snodup
  rw [e] at hn
  have hcm := List.mem_of_getElem? hc
  have hxm := List.mem_of_getElem? hx
  have hs := hi.sec hcm hxm
  refine ⟨fun hm => ?_, hs.1, hs.2.1⟩
  have h2 := List.nodup_append.1 hn
  have h3 := List.nodup_append.1 h2.2.1
  rcases List.mem_append.1 hm with hm | hm
  · exact h2.2.2 x hm x (by simp [hxm]) rfl
  · obtain ⟨i, hi', e'⟩ := List.getElem_of_mem hm
    rw [List.getElem_take] at e'
    rw [List.length_take] at hi'
    have hjl := (List.getElem?_eq_some_iff.1 hx).1
    have hp := List.pairwise_iff_getElem.1 h3.1 i j (by omega) hjl (by omega)
    exact hp (by rw [e', (List.getElem?_eq_some_iff.1 hx).2])
end Go.Proofs.Ytnpjbddannkgfaa
