/- Plain mathematics of ranges: what of a message lies in a range touches just what it touches there. Conditions: ends of at most 108 bytes. -/
import Derived.Test.YthledgkjfjdjoaaGreatMsE
namespace Go.Proofs.YthledgkjfjdjoaaGreat.Ms
open Go.ChangeShapes Go.WideShapes Go.RowKit Go.Codec Go.Mt Go.Blk
theorem lt_le {a b c : ByteArray} (h1 : lt a b = true) (h2 : lt c b = false) : lt a c = true := by
  cases h : lt a c with
  | true => rfl
  | false =>
    cases h3 : lt c a with
    | true => have := lt_trans h3 h1; rw [h2] at this; cases this
    | false => have := lt_tri h h3; subst this; rw [h1] at h2; cases h2
theorem le_lt {a b c : ByteArray} (h1 : lt b a = false) (h2 : lt b c = true) : lt a c = true := by
  cases h : lt a c with
  | true => rfl
  | false =>
    cases h3 : lt c a with
    | true => have := lt_trans h2 h3; rw [h1] at this; cases this
    | false => have := lt_tri h h3; subst this; rw [h2] at h1; cases h1
theorem lt_nil (a : ByteArray) {b : ByteArray} (h : b.size = 0) : lt a b = false := by
  cases h1 : lt a b with
  | false => rfl
  | true => exfalso; have e := size_nil.1 h; subst e; unfold lt at h1; rw [list_nil.2 (by rfl : (⟨#[]⟩ : ByteArray).size = 0)] at h1; cases h2 : a.toList <;> rw [h2] at h1 <;> cases h1
theorem lt_size {a b : ByteArray} (h : lt a b = true) : 1 ≤ b.size := by
  by_cases hb : b.size = 0
  · rw [lt_nil a hb] at h; cases h
  · omega
theorem lt_mx (q k f : ByteArray) : (!lt q (mx k f)) = (!lt q k && !lt q f) := by
  unfold mx
  cases h : lt k f with
  | true =>
    rw [if_pos rfl]
    cases h1 : lt q k with
    | false => simp
    | true => rw [lt_trans h1 h]; simp
  | false =>
    rw [if_neg (by simp)]
    cases h1 : lt q f with
    | false => simp
    | true => rw [lt_le h1 h]; simp
theorem lt_mn (q t u : ByteArray) : lt q (mn t u) = (lt q t && lt q u) := by
  unfold mn
  cases h : lt u t with
  | true =>
    rw [if_pos rfl]
    cases h1 : lt q u with
    | false => simp
    | true => rw [lt_trans h1 h]; simp
  | false =>
    rw [if_neg (by simp)]
    cases h1 : lt q t with
    | false => simp
    | true => rw [lt_le h1 h]; simp
theorem mx_of (k f : ByteArray) : mx k f = k ∨ mx k f = f ∧ lt k f = true := by
  unfold mx; cases h : lt k f
  · left; rw [if_neg (by simp)]
  · right; rw [if_pos rfl]; exact ⟨rfl, rfl⟩
theorem mn_of (t u : ByteArray) : mn t u = t ∨ mn t u = u := by
  unfold mn; split
  · exact .inr rfl
  · exact .inl rfl
theorem tch_nil (q : ByteArray) : tch nil q = false := by
  unfold tch
  rw [show may nil = false by unfold may nil; rw [show key ⟨#[]⟩ = false by decide, Bool.false_and], Bool.false_and]
theorem part_o {m n : Msg} {f u : ByteArray} (h : part m f u = some n) : n.o = m.o ∧ n.v = m.v ∧ may m = true ∧ (m.o ≠ 3 → n = m) := by
  unfold part at h
  split at h
  · cases h
  · rename_i hm
    rw [Bool.not_eq_false] at hm
    split at h
    · rename_i h3
      split at h
      · injection h with h; subst h; exact ⟨rfl, rfl, hm, fun e => absurd h3 e⟩
      · cases h
    · split at h
      · injection h with h; subst h; exact ⟨rfl, rfl, hm, fun _ => rfl⟩
      · cases h
/-- A message's part touches just what the message touches in the range. -/
theorem tch_part (m : Msg) (q f u : ByteArray) (hf : f.size ≤ 108) (hu : u.size ≤ 108) : tch ((part m f u).getD nil) q = (tch m q && inR q f u) := by
  unfold part
  cases hm : may m with
  | false =>
    rw [if_pos rfl]
    show tch nil q = _
    rw [tch_nil]
    unfold tch
    rw [hm]; rfl
  | true =>
    rw [if_neg (by simp)]
    by_cases h3 : m.o = 3
    · rw [if_pos h3]
      have hs := hm
      obtain ⟨o, k, t, v⟩ := m
      dsimp only at h3
      subst h3
      unfold may at hs
      dsimp only at hs
      rw [if_neg (by decide), if_neg (by decide), if_neg (by decide), if_pos rfl] at hs
      simp only [Bool.and_eq_true, decide_eq_true_eq] at hs
      obtain ⟨hk, ⟨hkt, ht⟩, hv⟩ := hs
      unfold cl
      dsimp only
      have hT : lt q (if u.size = 0 then t else mn t u) = (lt q t && (decide (u.size = 0) || lt q u)) := by
        by_cases h0 : u.size = 0
        · rw [if_pos h0, decide_eq_true h0]; simp
        · rw [if_neg h0, decide_eq_false h0, lt_mn]; simp
      have hTs : (if u.size = 0 then t else mn t u).size ≤ 108 := by
        unfold key at ht; simp only [decide_eq_true_eq] at ht
        split
        · exact ht.2
        · rcases mn_of t u with e | e <;> rw [e]
          · exact ht.2
          · exact hu
      generalize (if u.size = 0 then t else mn t u) = T at *
      have hK := lt_mx q k f
      have hKs : key (mx k f) = true := by
        unfold key at hk ⊢
        simp only [decide_eq_true_eq] at hk ⊢
        rcases mx_of k f with e | ⟨e, h⟩ <;> rw [e]
        · exact hk
        · exact ⟨lt_size h, hf⟩
      generalize mx k f = K at *
      have hr : (tch ⟨3, k, t, v⟩ q && inR q f u) = (!lt q K && lt q T) := by
        unfold tch inR
        dsimp only
        rw [hm, if_pos rfl, hK, hT]
        cases lt q k <;> cases lt q t <;> cases lt q f <;> simp
      rw [hr]
      cases hl : lt K T with
      | false =>
        rw [if_neg (by simp)]
        show tch nil q = _
        rw [tch_nil]
        cases h1 : lt q K with
        | true => rfl
        | false =>
          cases h2 : lt q T with
          | false => rfl
          | true => rw [le_lt h1 h2] at hl; cases hl
      | true =>
        rw [if_pos rfl]
        show tch ⟨3, K, T, v⟩ q = _
        unfold tch
        dsimp only
        rw [if_pos rfl]
        have : may ⟨3, K, T, v⟩ = true := by
          unfold may
          dsimp only
          rw [if_neg (by decide), if_neg (by decide), if_neg (by decide), if_pos rfl, hKs, hl]
          have : key T = true := by unfold key; simp only [decide_eq_true_eq]; exact ⟨lt_size hl, hTs⟩
          rw [this, decide_eq_true hv]; rfl
        rw [this, Bool.true_and]
    · rw [if_neg h3]
      cases hi : inR m.k f u with
      | false =>
        rw [if_neg (by simp)]
        show tch nil q = _
        rw [tch_nil]
        unfold tch
        rw [if_neg h3]
        by_cases e : m.k = q
        · subst e; rw [hi, Bool.and_false]
        · rw [decide_eq_false e]; simp
      | true =>
        rw [if_pos rfl]
        show tch m q = _
        unfold tch
        rw [if_neg h3]
        by_cases e : m.k = q
        · subst e; rw [hi, Bool.and_true]
        · rw [decide_eq_false e]; simp
/-- On a key of the range it does what the message does. -/
theorem do_part (m : Msg) (q x f u : ByteArray) (th : Bool) (hf : f.size ≤ 108) (hu : u.size ≤ 108) (hi : inR q f u = true) : doV ((part m f u).getD nil) q x th = doV m q x th := by
  have ht := tch_part m q f u hf hu
  rw [hi, Bool.and_true] at ht
  cases h : tch m q with
  | false => rw [h] at ht; unfold doV; rw [ht, h, if_pos rfl, if_pos rfl]
  | true =>
    rw [h] at ht
    cases hp : part m f u with
    | none => rw [hp] at ht; rw [show tch ((none : Option Msg).getD nil) q = tch nil q from rfl, tch_nil] at ht; cases ht
    | some n =>
      obtain ⟨e1, e2, hm, e3⟩ := part_o hp
      show doV n q x th = _
      by_cases h3 : m.o = 3
      · rw [hp] at ht
        unfold doV
        rw [h, show tch n q = true from ht, e1, h3]
        rfl
      · rw [e3 h3]
theorem do_not {m : Msg} {q x : ByteArray} {th : Bool} (h : tch m q = false) : (doV m q x th).2 = th := by
  unfold doV; rw [if_pos h]
theorem do_1 {m : Msg} {q x : ByteArray} {th : Bool} (h : tch m q = true) (ho : m.o = 1) : doV m q x th = (m.v, true) := by
  unfold doV; rw [if_neg (by simp [h]), if_pos ho]
theorem do_23 {m : Msg} {q x : ByteArray} {th : Bool} (h : tch m q = true) (h1 : m.o ≠ 1) (h4 : m.o ≠ 4) : doV m q x th = (⟨#[]⟩, false) := by
  unfold doV; rw [if_neg (by simp [h]), if_neg h1, if_neg h4]
end Go.Proofs.YthledgkjfjdjoaaGreat.Ms
