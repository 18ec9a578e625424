/- Plain: what items are written as is read as they were; a beginning of it is torn. Conditions: texts of 65535 bytes at most. -/
import Derived.Test.YthgpffmgbooncaaWalksM
namespace Go.Proofs.Ythgpffmgbooncaa
open Go.Codec
/-- What an item is written as. -/
def enc (y : It) : List UInt8 :=
  if y.kind % 6 = 0 then be 1 y.n else if y.kind % 6 = 1 then be 2 y.n else if y.kind % 6 = 2 then be 4 y.n else if y.kind % 6 = 3 then be 8 y.n else if y.kind % 6 = 4 then y.s.data.toList else be 2 y.s.data.toList.length ++ y.s.data.toList
theorem step_enc (l : List UInt8) (y : It) (h : y.s.size ≤ 65535) : step (some l) y = some (l ++ enc y) := by
  unfold step enc
  split
  · rfl
  split
  · rfl
  split
  · rfl
  split
  · rfl
  split
  · rfl
  · unfold moreText
    rw [if_neg (by rw [← Lib.size_eq]; omega)]
    rfl
theorem take_app (a l : List UInt8) (e : Int) : (⟨a ++ l, e⟩ : R).take a.length = a := by
  unfold R.take
  rw [if_pos (by simp)]
  simp
theorem drop_app (a l : List UInt8) (e : Int) : (⟨a ++ l, e⟩ : R).drop a.length = ⟨l, e⟩ := by
  unfold R.drop
  rw [if_pos (by simp)]
  simp
theorem take_be (k n : Nat) (l : List UInt8) (e : Int) : (⟨be k n ++ l, e⟩ : R).take k = be k n := by
  have h := take_app (be k n) l e
  rw [be_length] at h
  exact h
theorem drop_be (k n : Nat) (l : List UInt8) (e : Int) : (⟨be k n ++ l, e⟩ : R).drop k = ⟨l, e⟩ := by
  have h := drop_app (be k n) l e
  rw [be_length] at h
  exact h
theorem text_back (s l : List UInt8) (e : Int) (h : s.length ≤ 65535) : (⟨be 2 s.length ++ s ++ l, e⟩ : R).text = s ∧ (⟨be 2 s.length ++ s ++ l, e⟩ : R).behind = ⟨l, e⟩ := by
  have hv : val (be 2 s.length) = s.length := by rw [val_be]; omega
  unfold R.text R.behind
  rw [List.append_assoc, take_be, drop_be, hv]
  exact ⟨take_app s l e, drop_app s l e⟩
theorem good_enc (y : It) (l : List UInt8) (e : Int) (hn : y.n < 18446744073709551616) (h : y.s.size ≤ 65535) : Good ⟨enc y ++ l, e⟩ y ∧ next ⟨enc y ++ l, e⟩ y = ⟨l, e⟩ := by
  unfold Good next enc
  by_cases h0 : y.kind % 6 = 0
  · simp only [if_pos h0]
    rw [take_be, drop_be, val_be]; exact ⟨by omega, rfl⟩
  by_cases h1 : y.kind % 6 = 1
  · simp only [if_neg h0, if_pos h1]
    rw [take_be, drop_be, val_be]; exact ⟨by omega, rfl⟩
  by_cases h2 : y.kind % 6 = 2
  · simp only [if_neg h0, if_neg h1, if_pos h2]
    rw [take_be, drop_be, val_be]; exact ⟨by omega, rfl⟩
  by_cases h3 : y.kind % 6 = 3
  · simp only [if_neg h0, if_neg h1, if_neg h2, if_pos h3]
    rw [take_be, drop_be, val_be]; exact ⟨by omega, rfl⟩
  by_cases h4 : y.kind % 6 = 4
  · simp only [if_neg h0, if_neg h1, if_neg h2, if_neg h3, if_pos h4]
    rw [Lib.size_eq, take_app, drop_app]; exact ⟨rfl, rfl⟩
  · simp only [if_neg h0, if_neg h1, if_neg h2, if_neg h3, if_neg h4]
    exact text_back y.s.data.toList l e (by rw [← Lib.size_eq]; exact h)
theorem drop_torn (n : Nat) : (⟨[], 10⟩ : R).drop n = ⟨[], 10⟩ := by
  unfold R.drop
  split <;> simp
theorem next_torn (y : It) : next ⟨[], 10⟩ y = ⟨[], 10⟩ := by
  unfold next R.behind
  simp only [drop_torn]
  repeat (first | rfl | split)
theorem drop_short (l : List UInt8) (e : Int) (n : Nat) (h : l.length < n) : (⟨l, e⟩ : R).drop n = ⟨[], 10⟩ := by
  unfold R.drop
  rw [if_neg (by simp; omega)]
/-- A beginning of what an item is written as, which is not all of it, is torn. -/
theorem next_short (y : It) (l t : List UInt8) (e : Int) (h : y.s.size ≤ 65535) (ht : t ≠ []) (hl : l ++ t = enc y) : next ⟨l, e⟩ y = ⟨[], 10⟩ := by
  have htl : 0 < t.length := List.length_pos_iff.2 ht
  have hlen : l.length + t.length = (enc y).length := by rw [← hl, List.length_append]
  unfold next
  unfold enc at hl hlen
  by_cases h0 : y.kind % 6 = 0
  · simp only [if_pos h0, be_length] at hlen ⊢
    exact drop_short _ _ _ (by omega)
  by_cases h1 : y.kind % 6 = 1
  · simp only [if_neg h0, if_pos h1, be_length] at hlen ⊢
    exact drop_short _ _ _ (by omega)
  by_cases h2 : y.kind % 6 = 2
  · simp only [if_neg h0, if_neg h1, if_pos h2, be_length] at hlen ⊢
    exact drop_short _ _ _ (by omega)
  by_cases h3 : y.kind % 6 = 3
  · simp only [if_neg h0, if_neg h1, if_neg h2, if_pos h3, be_length] at hlen ⊢
    exact drop_short _ _ _ (by omega)
  by_cases h4 : y.kind % 6 = 4
  · simp only [if_neg h0, if_neg h1, if_neg h2, if_neg h3, if_pos h4] at hlen ⊢
    exact drop_short _ _ _ (by rw [Lib.size_eq]; omega)
  · simp only [if_neg h0, if_neg h1, if_neg h2, if_neg h3, if_neg h4] at hlen hl ⊢
    rw [List.length_append, be_length] at hlen
    unfold R.behind
    by_cases h5 : l.length < 2
    · rw [drop_short _ _ _ h5, drop_torn]
    · obtain ⟨a, b, rfl, ha⟩ : ∃ a b, l = a ++ b ∧ a.length = 2 := ⟨l.take 2, l.drop 2, by simp, by simp; omega⟩
      rw [List.append_assoc] at hl
      have hab := List.append_inj hl (by rw [ha, be_length])
      have hv : val a = y.s.data.toList.length := by
        rw [hab.1, val_be]
        rw [Lib.size_eq] at h
        omega
      have e1 : (⟨a ++ b, e⟩ : R).take 2 = a := by have := take_app a b e; rwa [ha] at this
      have e2 : (⟨a ++ b, e⟩ : R).drop 2 = ⟨b, e⟩ := by have := drop_app a b e; rwa [ha] at this
      rw [e1, e2, hv]
      refine drop_short _ _ _ ?_
      rw [List.length_append, ha] at hlen
      omega
/-- A reader that reads a beginning of what ys are written as, which is not all of it. -/
def Torn (x : R) (ys : List It) : Prop := x = ⟨[], 10⟩ ∨ x.er = 0 ∧ ∃ t, t ≠ [] ∧ x.rest ++ t = ys.flatMap enc
theorem Torn.next {x : R} {y : It} {ys : List It} (h : Torn x (y :: ys)) (hn : y.n < 18446744073709551616) (hs : y.s.size ≤ 65535) : Torn (next x y) ys := by
  rcases h with rfl | ⟨he, t, ht, hx⟩
  · exact .inl (next_torn y)
  · obtain ⟨l, e⟩ := x
    simp only at he hx
    subst he
    rw [List.flatMap_cons] at hx
    by_cases hl : l.length < (enc y).length
    · obtain ⟨u, hu⟩ : ∃ u, l ++ u = enc y := by
        rcases List.append_eq_append_iff.1 hx with ⟨a, h1, h2⟩ | ⟨a, h1, h2⟩
        · exact ⟨a, h1.symm⟩
        · exfalso; rw [h1, List.length_append] at hl; omega
      refine .inl (next_short y l u 0 hs ?_ hu)
      rintro rfl
      rw [List.append_nil] at hu
      rw [hu] at hl
      omega
    · obtain ⟨u, hu⟩ : ∃ u, l = enc y ++ u := by
        rcases List.append_eq_append_iff.1 hx with ⟨a, h1, h2⟩ | ⟨a, h1, h2⟩
        · have : a = [] := by
            apply List.eq_nil_of_length_eq_zero
            rw [h1, List.length_append] at hl
            omega
          subst this
          exact ⟨[], by rw [h1]; simp⟩
        · exact ⟨a, h1⟩
      subst hu
      rw [(good_enc y u 0 hn hs).2]
      refine .inr ⟨rfl, t, ht, ?_⟩
      rw [List.append_assoc] at hx
      exact List.append_cancel_left hx
theorem Torn.done {x : R} (h : Torn x []) : x = ⟨[], 10⟩ := by
  rcases h with h | ⟨_, t, ht, hx⟩
  · exact h
  · simp at hx
    exact absurd hx.2 ht
end Go.Proofs.Ythgpffmgbooncaa
