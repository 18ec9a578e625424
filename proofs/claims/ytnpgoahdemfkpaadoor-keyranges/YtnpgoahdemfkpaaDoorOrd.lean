/- Plain mathematics of keys in their order: which keys lie in which ranges; moved keys. No program. Conditions: none. -/
import Derived.Test.YtnpgoahdemfkpaaDoorKey
namespace Go.Path
abbrev lt (a b : B) : Bool := Op.bytesLess a b
def inR (k f t : B) : Bool := !lt k f && lt k t
/-- Does b begin with all of a? -/
def within (a b : List B) : Bool := decide (a.length ≤ b.length ∧ b.take a.length = a)
theorem within_self (l : List B) : within l l = true := by simp [within]
theorem within_nil (l : List B) : within [] l = true := by simp [within]
theorem within_append (a b : List B) : within a (a ++ b) = true := by simp [within]
theorem within_of {a b : List B} (h : within a b = true) : ∃ c, b = a ++ c := by
  simp [within] at h
  exact ⟨b.drop a.length, by conv => lhs; rw [← List.take_append_drop a.length b, h.2]⟩
theorem within_both (a b : List B) : (within a b && within b a) = decide (a = b) := by
  by_cases h : a = b
  · subst h; simp [within_self]
  · rw [decide_eq_false h, Bool.and_eq_false_iff]
    by_cases h1 : within a b = true
    · right
      obtain ⟨c, rfl⟩ := within_of h1
      rw [within, decide_eq_false]
      rintro ⟨h2, _⟩
      rw [List.length_append] at h2
      have : c = [] := List.eq_nil_of_length_eq_zero (by omega)
      subst this
      simp at h
    · left; simpa using h1
theorem lt_self : ∀ x : B, lt x x = false
  | [] => rfl
  | a :: x => by
    have := lt_self x
    simp only [lt] at this ⊢
    rw [Op.bytesLess, this]; simp
theorem lt_cons (a : UInt8) (x y : B) : lt (a :: x) (a :: y) = lt x y := by
  simp only [lt]
  rw [Op.bytesLess]; simp
theorem lt_app : ∀ (x p q : B), lt (x ++ p) (x ++ q) = lt p q
  | [], _, _ => rfl
  | a :: x, p, q => by rw [List.cons_append, List.cons_append, lt_cons, lt_app x]
theorem inR_gen : ∀ (x y p q : B), inR y (x ++ p) (x ++ q) = true ↔ ∃ t, y = x ++ t ∧ inR t p q = true
  | [], y, p, q => by simp
  | a :: x, [], p, q => by simp [inR, lt, Op.bytesLess]
  | a :: x, c :: y, p, q => by
    have ih := inR_gen x y p q
    by_cases h : c = a
    · subst h
      unfold inR at ih ⊢
      rw [List.cons_append, List.cons_append, lt_cons, lt_cons, ih]
      simp
    · have hno : ¬ ∃ t, c :: y = a :: x ++ t ∧ inR t p q = true := by
        rintro ⟨t, h1, _⟩
        simp at h1; exact h h1.1
      refine ⟨fun hh => ?_, fun hh => absurd hh hno⟩
      exfalso
      simp only [inR, lt, List.cons_append, Op.bytesLess] at hh
      have hb : (c == a) = false := by simpa using h
      rw [hb] at hh
      simp at hh
theorem inR_one (t : B) : inR t [] [1] = true ↔ t = [] ∨ t.head? = some 0 := by
  rcases t with _ | ⟨c, r⟩
  · simp [inR, lt, Op.bytesLess]
  · simp [inR, lt, Op.bytesLess]
theorem inR_zero (t : B) : inR t [0] [1] = true ↔ t.head? = some 0 := by
  rcases t with _ | ⟨c, r⟩
  · simp [inR, lt, Op.bytesLess]
  · simp [inR, lt, Op.bytesLess]
theorem inR_zeros (t : B) : inR t [0, 0] [0, 1] = true ↔ ∃ r, t = 0 :: 0 :: r := by
  have := inR_gen [0] t [0] [1]
  rw [show ([0, 0] : B) = [0] ++ [0] from rfl, show ([0, 1] : B) = [0] ++ [1] from rfl, this]
  constructor
  · rintro ⟨r, rfl, h⟩
    rw [inR_zero] at h
    rcases r with _ | ⟨c, r⟩
    · simp at h
    · simp at h; subst h; exact ⟨r, rfl⟩
  · rintro ⟨r, rfl⟩
    exact ⟨0 :: r, rfl, (inR_zero _).2 rfl⟩
/-- A joint, or one with a byte 0 behind it. -/
def Tail (t : B) : Prop := t = [] ∨ t.head? = some 0
theorem no0 {l : List B} (h : right l = true) : ∀ x ∈ l, x.contains 0 = false := fun x hx => (name_no ((right_of h).2 x hx)).1
theorem ne0 {l : List B} (h : right l = true) : ∀ x ∈ l, x ≠ [] := fun x hx => (name_no ((right_of h).2 x hx)).2.1
theorem tail_cons {t : B} (h : t.head? = some 0) : ∃ r, t = 0 :: r := by
  rcases t with _ | ⟨c, r⟩
  · simp at h
  · simp at h; subst h; exact ⟨r, rfl⟩
theorem under_meta {a b : List B} (ha : right a = true) (hb : right b = true) (hne : a ≠ []) : (∃ t, joint b = joint a ++ t ∧ Tail t) ↔ within a b = true := by
  constructor
  · rintro ⟨t, h, ht⟩
    rcases ht with rfl | ht
    · rw [List.append_nil] at h
      rw [joint_inj hb ha h]; exact within_self a
    · obtain ⟨r, rfl⟩ := tail_cons ht
      have hb0 : b ≠ [] := by
        rintro rfl
        rw [joint_nil] at h
        have := congrArg List.length h
        simp at this
      have := congrArg cut0 h
      rw [cut_joint b hb0 (no0 hb), cut_joint_more a r hne (no0 ha)] at this
      rw [this]; exact within_append _ _
  · intro h
    obtain ⟨c, rfl⟩ := within_of h
    by_cases hc : c = []
    · subst hc; exact ⟨[], by simp, .inl rfl⟩
    · exact ⟨0 :: joint c, joint_app a c hne hc, .inr rfl⟩
theorem clash {a b : List B} {x y : List B} (ha : ∀ z ∈ a, z ≠ []) (h : b ++ [] :: x = a ++ y) : a.length ≤ b.length := by
  apply Nat.le_of_not_lt
  intro hlt
  have h1 : (b ++ [] :: x)[b.length]? = some [] := by simp
  rw [h, List.getElem?_append_left hlt] at h1
  exact ha _ (List.mem_of_getElem? h1) rfl
theorem prefix_of {a b x y : List B} (h : b ++ x = a ++ y) (hl : a.length ≤ b.length) : within a b = true := by
  have := congrArg (List.take a.length) h
  rw [List.take_append_of_le_length hl, List.take_append_of_le_length (Nat.le_refl _), List.take_length] at this
  simp [within, this, hl]
theorem under_block {a b : List B} (ha : right a = true) (hb : right b = true) (hne : a ≠ []) (hnb : b ≠ []) (z : B) : (∃ t, joint b ++ 0 :: 0 :: z = joint a ++ t ∧ Tail t) ↔ within a b = true := by
  constructor
  · rintro ⟨t, h, ht⟩
    have hc := congrArg cut0 h
    rw [cut_joint_more b _ hnb (no0 hb), show cut0 (0 :: z) = [] :: cut0 z from by simp [cut0]] at hc
    rcases ht with rfl | ht
    · rw [List.append_nil, cut_joint a hne (no0 ha)] at hc
      refine absurd rfl (ne0 ha [] ?_)
      rw [← hc]; simp
    · obtain ⟨r, rfl⟩ := tail_cons ht
      rw [cut_joint_more a r hne (no0 ha)] at hc
      exact prefix_of hc (clash (ne0 ha) hc)
  · intro h
    obtain ⟨c, rfl⟩ := within_of h
    by_cases hc : c = []
    · subst hc; exact ⟨0 :: 0 :: z, by simp, .inr rfl⟩
    · exact ⟨0 :: (joint c ++ 0 :: 0 :: z), by rw [joint_app a c hne hc]; simp, .inr rfl⟩
theorem same_block {a b : List B} (ha : right a = true) (hb : right b = true) (hne : a ≠ []) (hnb : b ≠ []) {z r : B} (h : joint b ++ 0 :: 0 :: z = joint a ++ 0 :: 0 :: r) : a = b := by
  have hc := congrArg cut0 h
  rw [cut_joint_more b _ hnb (no0 hb), cut_joint_more a _ hne (no0 ha), show cut0 (0 :: z) = [] :: cut0 z from by simp [cut0], show cut0 (0 :: r) = [] :: cut0 r from by simp [cut0]] at hc
  have h1 := clash (ne0 ha) hc
  have h2 := clash (ne0 hb) hc.symm
  exact (List.append_inj hc (by omega)).1.symm
theorem bool_iff {a b : Bool} (h : a = true ↔ b = true) : a = b := by
  cases a <;> cases b <;> simp_all
theorem meta_is {l : List B} (h : right l = true) : metaK l = 109 :: joint l := if_pos h
theorem subF_is {l : List B} (h : right l = true) (c : UInt8) : subF c l = c :: joint l := if_pos h
theorem subT_is {l : List B} (h : right l = true) (hne : l ≠ []) (c : UInt8) : subT c l = c :: (joint l ++ [1]) := by unfold subT; rw [if_pos h, if_neg hne]
theorem subT_nil (c : UInt8) : subT c [] = [c + 1] := rfl
theorem inR_cons (c : UInt8) (y p q : B) : inR (c :: y) (c :: p) (c :: q) = inR y p q := by unfold inR; rw [lt_cons, lt_cons]
theorem range_meta {a b : List B} (ha : right a = true) (hb : right b = true) : inR (metaK b) (subF 109 a) (subT 109 a) = within a b := by
  rw [meta_is hb, subF_is ha]
  by_cases hne : a = []
  · subst hne
    rw [subT_nil, within_nil, joint_nil]
    simp [inR, lt, Op.bytesLess]
  · rw [subT_is ha hne, inR_cons]
    apply bool_iff
    rw [← under_meta ha hb hne]
    conv => lhs; rw [show inR (joint b) (joint a) (joint a ++ [1]) = inR (joint b) (joint a ++ []) (joint a ++ [1]) from by rw [List.append_nil]]
    rw [inR_gen]
    exact exists_congr fun t => and_congr_right fun _ => inR_one t
theorem range_below {a b : List B} (ha : right a = true) (hb : right b = true) : inR (metaK b) (belowF a) (belowT a) = (within a b && !decide (a = b)) := by
  have e1 : belowF a = 109 :: (joint a ++ [0]) := by unfold belowF; rw [if_pos ha, meta_is ha]; rfl
  have e2 : belowT a = subT 109 a := by unfold belowT pastK; rw [if_pos ha]
  rw [e1, e2, meta_is hb]
  by_cases hne : a = []
  · subst hne
    rw [subT_nil, within_nil, joint_nil, List.nil_append]
    by_cases hb0 : b = []
    · subst hb0; rfl
    · obtain ⟨c, t, he, hc⟩ := joint_ne hb hb0
      rw [he, decide_eq_false (fun e => hb0 e.symm)]
      simp [inR, lt, Op.bytesLess]
  · rw [subT_is ha hne, inR_cons]
    apply bool_iff
    rw [inR_gen, Bool.and_eq_true, ← under_meta ha hb hne]
    constructor
    · rintro ⟨t, h, ht⟩
      rw [inR_zero] at ht
      refine ⟨⟨t, h, .inr ht⟩, ?_⟩
      rw [Bool.not_eq_true', decide_eq_false_iff_not]
      rintro rfl
      have := congrArg List.length h
      rw [List.length_append] at this
      obtain ⟨r, rfl⟩ := tail_cons ht
      simp at this
    · rintro ⟨⟨t, h, ht⟩, hn⟩
      refine ⟨t, h, (inR_zero t).2 ?_⟩
      rcases ht with rfl | ht
      · rw [List.append_nil] at h
        simp at hn
        exact absurd (joint_inj hb ha h).symm hn
      · exact ht
theorem meta_eq {a b : List B} (ha : right a = true) (hb : right b = true) : decide (metaK a = metaK b) = decide (a = b) := by
  rw [decide_eq_decide, meta_is ha, meta_is hb]
  exact ⟨fun h => joint_inj ha hb (by simpa using h), fun h => by rw [h]⟩
theorem meta_after {a b : List B} (ha : right a = true) (hb : right b = true) (h : within a b = true) : lt (metaK b) (metaK a) = false := by
  have := range_meta ha hb
  rw [h, subF_is ha, ← meta_is ha] at this
  unfold inR at this
  simp at this
  exact this.1
theorem range_block {a b : List B} (ha : right a = true) (hb : right b = true) (hnb : b ≠ []) (k : Nat) : inR (blockB b k) (subF 100 a) (subT 100 a) = within a b := by
  rw [subF_is ha]
  unfold blockB
  by_cases hne : a = []
  · subst hne
    rw [subT_nil, within_nil, joint_nil]
    simp [inR, lt, Op.bytesLess]
  · rw [subT_is ha hne, inR_cons]
    apply bool_iff
    rw [← under_block ha hb hne hnb [0, k.toUInt8]]
    conv => lhs; rw [show inR (joint b ++ [0, 0, 0, k.toUInt8]) (joint a) (joint a ++ [1]) = inR (joint b ++ [0, 0, 0, k.toUInt8]) (joint a ++ []) (joint a ++ [1]) from by rw [List.append_nil]]
    rw [inR_gen]
    exact exists_congr fun t => and_congr_right fun _ => inR_one t
theorem range_other {a b : List B} (ha : right a = true) (k : Nat) : inR (blockB b k) (subF 109 a) (subT 109 a) = false := by
  rw [subF_is ha]
  simp [inR, lt, Op.bytesLess, blockB]
theorem range_other2 {a b : List B} (ha : right a = true) (hb : right b = true) : inR (metaK b) (subF 100 a) (subT 100 a) = false := by
  rw [meta_is hb, subF_is ha]
  by_cases hne : a = []
  · subst hne
    rw [subT_nil]
    simp [inR, lt, Op.bytesLess]
  · rw [subT_is ha hne]
    simp [inR, lt, Op.bytesLess]
theorem range_blocks {a b : List B} (ha : right a = true) (hb : right b = true) (hnb : b ≠ []) (k : Nat) : inR (blockB b k) (blocksF a) (blocksT a) = decide (a = b) := by
  have e1 : blocksF a = 100 :: (joint a ++ [0, 0]) := if_pos ha
  have e2 : blocksT a = 100 :: (joint a ++ [0, 1]) := if_pos ha
  rw [e1, e2]
  unfold blockB
  rw [inR_cons]
  apply bool_iff
  rw [inR_gen, decide_eq_true_eq]
  constructor
  · rintro ⟨t, h, ht⟩
    obtain ⟨r, rfl⟩ := (inR_zeros t).1 ht
    by_cases hne : a = []
    · subst hne
      rw [joint_nil, List.nil_append] at h
      obtain ⟨c, t, he, hc⟩ := joint_ne hb hnb
      rw [he] at h
      simp at h
      exact absurd h.1 hc
    · exact same_block ha hb hne hnb (z := [0, k.toUInt8]) h
  · rintro rfl
    exact ⟨[0, 0, 0, k.toUInt8], rfl, (inR_zeros _).2 ⟨_, rfl⟩⟩
theorem block_lt {a : List B} {i k : Nat} (hi : i < 32) (hk : k < 32) : lt (blockB a i) (blockB a k) = decide (i < k) := by
  unfold blockB
  rw [lt_cons, lt_app, lt_cons, lt_cons, lt_cons]
  have h1 := toNat_small hi
  have h2 := toNat_small hk
  simp only [lt, Op.bytesLess]
  simp only [UInt8.lt_iff_toNat_lt, h1, h2]
  simp
theorem block_ne {a b : List B} (ha : right a = true) (hb : right b = true) (hne : a ≠ []) (hnb : b ≠ []) (h : a ≠ b) (i k : Nat) : blockB a i ≠ blockB b k := by
  intro e
  unfold blockB at e
  simp only [List.cons.injEq, true_and] at e
  exact h (same_block ha hb hne hnb (z := [0, k.toUInt8]) (r := [0, i.toUInt8]) e.symm)
theorem under_iff (j s : B) : under j s = true ↔ ∃ t, s = j ++ t ∧ Tail t := by
  unfold under Tail
  simp only [Bool.and_eq_true, Bool.or_eq_true, decide_eq_true_eq]
  constructor
  · rintro ⟨⟨t, rfl⟩, h⟩
    refine ⟨t, rfl, ?_⟩
    simpa using h
  · rintro ⟨t, rfl, h⟩
    exact ⟨⟨t, rfl⟩, by simpa using h⟩
theorem moves_mk {f t : List B} (hf : right f = true) (ht : right t = true) (hf0 : f ≠ []) (ht0 : t ≠ []) : moves f t = true := by
  simp [moves, hf, ht, hf0, ht0]
theorem move_not {l f t : List B} (hl : right l = true) (hf : right f = true) (hf0 : f ≠ []) (h : within f l = false) : moveK (metaK l) f t = metaK l := by
  unfold moveK
  split
  · rw [meta_is hl]
    simp only
    rw [if_neg]
    rintro ⟨_, hu⟩
    rw [under_iff, under_meta hf hl hf0, h] at hu
    cases hu
  · rfl
theorem move_at {f t : List B} {s : B} (hf : right f = true) (ht : right t = true) (hf0 : f ≠ []) (ht0 : t ≠ []) (hs : Tail s) : moveK (109 :: (joint f ++ s)) f t = 109 :: (joint t ++ s) := by
  unfold moveK
  rw [if_pos (moves_mk hf ht hf0 ht0)]
  simp only
  rw [if_pos ⟨by simp, (under_iff _ _).2 ⟨s, rfl, hs⟩⟩, List.drop_left]
/-- What comes of a moved key. -/
theorem moved {l f t : List B} (hl : right l = true) (hf : right f = true) (ht : right t = true) (hf0 : f ≠ []) (ht0 : t ≠ []) (h : within f l = true) :
    ∃ s, metaK l = 109 :: (joint f ++ s) ∧ moveK (metaK l) f t = 109 :: (joint t ++ s) ∧ Tail s := by
  obtain ⟨s, he, hs⟩ := (under_meta hf hl hf0).2 h
  refine ⟨s, by rw [meta_is hl, he], ?_, hs⟩
  rw [meta_is hl, he]
  exact move_at hf ht hf0 ht0 hs
theorem moved_in {l f t : List B} (hl : right l = true) (hf : right f = true) (ht : right t = true) (hf0 : f ≠ []) (ht0 : t ≠ []) (h : within f l = true) : inR (moveK (metaK l) f t) (subF 109 t) (subT 109 t) = true := by
  obtain ⟨s, _, e, hs⟩ := moved hl hf ht hf0 ht0 h
  rw [e, subF_is ht, subT_is ht ht0, inR_cons]
  rw [show inR (joint t ++ s) (joint t) (joint t ++ [1]) = inR (joint t ++ s) (joint t ++ []) (joint t ++ [1]) from by rw [List.append_nil], inR_gen]
  exact ⟨s, rfl, (inR_one s).2 hs⟩
theorem moved_lt {l m f t : List B} (hl : right l = true) (hm : right m = true) (hf : right f = true) (ht : right t = true) (hf0 : f ≠ []) (ht0 : t ≠ []) (h : within f l = true) (h' : within f m = true) :
    lt (moveK (metaK l) f t) (moveK (metaK m) f t) = lt (metaK l) (metaK m) := by
  obtain ⟨s, e1, e2, _⟩ := moved hl hf ht hf0 ht0 h
  obtain ⟨s', e1', e2', _⟩ := moved hm hf ht hf0 ht0 h'
  rw [e2, e2', e1, e1', lt_cons, lt_cons, lt_app, lt_app]
theorem moved_back {l f t : List B} (hl : right l = true) (hf : right f = true) (ht : right t = true) (hf0 : f ≠ []) (ht0 : t ≠ []) (h : within f l = true) : moveK (moveK (metaK l) f t) t f = metaK l := by
  obtain ⟨s, e1, e2, hs⟩ := moved hl hf ht hf0 ht0 h
  rw [e2, e1, move_at ht hf ht0 hf0 hs]
end Go.Path
