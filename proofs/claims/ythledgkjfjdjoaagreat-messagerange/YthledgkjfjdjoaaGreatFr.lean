/- A frame: some blocks, told apart, each with what lies in it, and nothing older has turned. Conditions: none. -/
import Derived.Test.YthledgkjfjdjoaaGreatMtA
import Derived.Test.YthledgkjfjdjoaaGreatBack
namespace Go.Proofs.YthledgkjfjdjoaaGreat.Mt
open Go.ChangeShapes Go.WideShapes Go.RowKit Go.Codec Go.Num Go.Mt
set_option maxRecDepth 100000
structure Fr (w : World) (L : List (Nat × TypeId × Array Value)) (wx : World) : Prop where
  below : Below w.heap.size w wx
  all : ∀ (i g : Nat) (t : TypeId) (cs : Array Value), L[i]? = some (g, t, cs) → Is wx g t cs ∧ w.heap.size ≤ g
  apart : ∀ (i j g : Nat) (t : TypeId) (cs : Array Value) (g' : Nat) (t' : TypeId) (cs' : Array Value), L[i]? = some (g, t, cs) → L[j]? = some (g', t', cs') → i ≠ j → g ≠ g'
section
variable {w wx wy : World} {L : List (Nat × TypeId × Array Value)}
theorem Fr.nil (w : World) : Fr w [] w := ⟨Below.refl _ _, fun i g t cs h => by simp at h, fun i j g t cs g' t' cs' h => by simp at h⟩
theorem Fr.at (h : Fr w L wx) (i : Nat) {g : Nat} {t : TypeId} {cs : Array Value} (hi : L[i]? = some (g, t, cs)) : Is wx g t cs := (h.all i g t cs hi).1
theorem Fr.later (h : Fr w L wx) (hb : Below wx.heap.size wx wy) : Fr w L wy :=
  ⟨h.below.trans (hb.mono h.below.size), fun i g t cs hi => ⟨(h.all i g t cs hi).1.kept (grow_below hb none) (by simp), (h.all i g t cs hi).2⟩, h.apart⟩
theorem Fr.drew (h : Fr w L wx) : Fr w L wx.drew := ⟨h.below.drew, fun i g t cs hi => h.all i g t cs hi, h.apart⟩
theorem Fr.new (h : Fr w L wx) (t : TypeId) (cs : Array Value) : Fr w (L ++ [(wx.heap.size, t, cs)]) (wx.alloc (.cells cs t)) := by
  have hl := h.later (below_alloc (Below.refl _ _) (.cells cs t))
  refine ⟨hl.below, fun i g t' cs' hi => ?_, fun i j g t1 cs1 g' t2 cs2 hi hj hij => ?_⟩
  · by_cases hlt : i < L.length
    · rw [List.getElem?_append_left hlt] at hi
      exact hl.all i g t' cs' hi
    · rw [List.getElem?_append_right (by omega)] at hi
      have h0 : i - L.length = 0 := by
        have := (List.getElem?_eq_some_iff.1 hi).1
        simp at this
        omega
      rw [h0] at hi
      simp at hi
      obtain ⟨rfl, rfl, rfl⟩ := hi
      exact ⟨Is.new _ _ _, h.below.size⟩
  · have old : ∀ {i g : Nat} {t : TypeId} {cs : Array Value}, L[i]? = some (g, t, cs) → g < wx.heap.size := fun hi => (h.at _ hi).lt
    by_cases hli : i < L.length <;> by_cases hlj : j < L.length
    · rw [List.getElem?_append_left hli] at hi
      rw [List.getElem?_append_left hlj] at hj
      exact h.apart i j _ _ _ _ _ _ hi hj hij
    · rw [List.getElem?_append_left hli] at hi
      rw [List.getElem?_append_right (by omega)] at hj
      have h0 : j - L.length = 0 := by
        have := (List.getElem?_eq_some_iff.1 hj).1
        simp at this
        omega
      rw [h0] at hj
      simp at hj
      have := old hi
      omega
    · rw [List.getElem?_append_left hlj] at hj
      rw [List.getElem?_append_right (by omega)] at hi
      have h0 : i - L.length = 0 := by
        have := (List.getElem?_eq_some_iff.1 hi).1
        simp at this
        omega
      rw [h0] at hi
      simp at hi
      have := old hj
      omega
    · rw [List.getElem?_append_right (by omega)] at hi hj
      have h1 := (List.getElem?_eq_some_iff.1 hi).1
      have h2 := (List.getElem?_eq_some_iff.1 hj).1
      simp at h1 h2
      omega
theorem Fr.put (h : Fr w L wx) (i : Nat) {g : Nat} {t : TypeId} {cs : Array Value} (hi : L[i]? = some (g, t, cs)) (k : Nat) (v : Value) : Fr w (L.set i (g, t, cs.setIfInBounds k v)) (wx.setCell ⟨g, k, none⟩ v) := by
  have hlt := (List.getElem?_eq_some_iff.1 hi).1
  refine ⟨h.below.setCell (h.all i g t cs hi).2 _, fun j g' t' cs' hj => ?_, fun j1 j2 g1 t1 cs1 g2 t2 cs2 h1 h2 hne => ?_⟩
  · by_cases hij : i = j
    · subst hij
      rw [List.getElem?_set_self hlt] at hj
      injection hj with hj
      injection hj with e1 e2
      injection e2 with e2 e3
      subst e1; subst e2; subst e3
      exact ⟨(h.at i hi).put k v, (h.all i g t cs hi).2⟩
    · rw [List.getElem?_set_ne hij] at hj
      exact ⟨(h.at j hj).other (by have := h.apart j i _ _ _ _ _ _ hj hi (fun e => hij e.symm); exact this) _, (h.all j _ _ _ hj).2⟩
  · have back : ∀ {j g1 : Nat} {t1 : TypeId} {cs1 : Array Value}, (L.set i (g, t, cs.setIfInBounds k v))[j]? = some (g1, t1, cs1) → ∃ t2 cs2, L[j]? = some (g1, t2, cs2) := fun {j g1 t1 cs1} hj => by
      by_cases hij : i = j
      · subst hij
        rw [List.getElem?_set_self hlt] at hj
        injection hj with hj
        injection hj with e1 e2
        subst e1
        exact ⟨t, cs, hi⟩
      · rw [List.getElem?_set_ne hij] at hj
        exact ⟨_, _, hj⟩
    obtain ⟨_, _, h1⟩ := back h1
    obtain ⟨_, _, h2⟩ := back h2
    exact h.apart j1 j2 _ _ _ _ _ _ h1 h2 hne
theorem Fr.c4 (h : Fr w L wx) (i : Nat) {g : Nat} {t : TypeId} {a b c d : Value} (hi : L[i]? = some (g, t, #[a, b, c, d])) :
    wx.cell? ⟨g, 0, none⟩ = some a ∧ wx.cell? ⟨g, 1, none⟩ = some b ∧ wx.cell? ⟨g, 2, none⟩ = some c ∧ wx.cell? ⟨g, 3, none⟩ = some d :=
  ⟨(h.at i hi).cell 0, (h.at i hi).cell 1, (h.at i hi).cell 2, (h.at i hi).cell 3⟩
theorem Fr.f4 (h : Fr w L wx) (i : Nat) {g : Nat} {t : TypeId} {cs : Array Value} (hi : L[i]? = some (g, t, cs)) :
    (wx.frozen? ⟨g, 0, none⟩ = false ∧ wx.frozen? ⟨g, 1, none⟩ = false ∧ wx.frozen? ⟨g, 2, none⟩ = false ∧ wx.frozen? ⟨g, 3, none⟩ = false) ∧ g < wx.heap.size :=
  ⟨⟨(h.at i hi).frozen 0, (h.at i hi).frozen 1, (h.at i hi).frozen 2, (h.at i hi).frozen 3⟩, (h.at i hi).lt⟩
theorem Fr.four (h : Fr w L wx) (i : Nat) {g : Nat} {t : TypeId} {a b c d : Value} (hi : L[i]? = some (g, t, #[a, b, c, d])) (a' b' c' d' : Value) :
    Fr w (L.set i (g, t, #[a', b', c', d'])) ((((wx.setCell ⟨g, 0, none⟩ a').setCell ⟨g, 1, none⟩ b').setCell ⟨g, 2, none⟩ c').setCell ⟨g, 3, none⟩ d') := by
  have hlt := (List.getElem?_eq_some_iff.1 hi).1
  have h1 := h.put i hi 0 a'
  have h2 := h1.put i (List.getElem?_set_self (by simpa using hlt)) 1 b'
  have h3 := h2.put i (List.getElem?_set_self (by simpa using hlt)) 2 c'
  have h4 := h3.put i (List.getElem?_set_self (by simpa using hlt)) 3 d'
  simp at h4
  exact h4
theorem Fr.swap {L : List (Nat × TypeId × Array Value)} {p q : Nat × TypeId × Array Value} (h : Fr w (L ++ [p, q]) wx) : Fr w (L ++ [q, p]) wx := by
  have tr : ∀ (i : Nat) (x : Nat × TypeId × Array Value), (L ++ [q, p])[i]? = some x → ∃ j, (L ++ [p, q])[j]? = some x ∧ (i < L.length → j = i) ∧ (i = L.length → j = L.length + 1) ∧ (i = L.length + 1 → j = L.length) ∧ i < L.length + 2 := fun i x hi => by
    have hlt := (List.getElem?_eq_some_iff.1 hi).1
    simp at hlt
    by_cases h0 : i < L.length
    · rw [List.getElem?_append_left h0] at hi
      exact ⟨i, by rw [List.getElem?_append_left h0]; exact hi, fun _ => rfl, by omega, by omega, by omega⟩
    · by_cases h1 : i = L.length
      · subst h1
        rw [List.getElem?_append_right (by omega), Nat.sub_self] at hi
        refine ⟨L.length + 1, ?_, by omega, fun _ => rfl, by omega, by omega⟩
        rw [List.getElem?_append_right (by omega), Nat.add_sub_cancel_left]
        exact hi
      · obtain rfl : i = L.length + 1 := by omega
        rw [List.getElem?_append_right (by omega), Nat.add_sub_cancel_left] at hi
        refine ⟨L.length, ?_, by omega, by omega, fun _ => rfl, by omega⟩
        rw [List.getElem?_append_right (by omega), Nat.sub_self]
        exact hi
  refine ⟨h.below, fun i g t cs hi => ?_, fun i j g t cs g' t' cs' hi hj hij => ?_⟩
  · obtain ⟨j, hj, -⟩ := tr i _ hi
    exact h.all j g t cs hj
  · obtain ⟨a, ha, a1, a2, a3, a4⟩ := tr i _ hi
    obtain ⟨b, hb, b1, b2, b3, b4⟩ := tr j _ hj
    exact h.apart a b _ _ _ _ _ _ ha hb (by omega)
end
end Go.Proofs.YthledgkjfjdjoaaGreat.Mt
