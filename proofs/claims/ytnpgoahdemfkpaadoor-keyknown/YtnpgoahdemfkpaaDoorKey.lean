/- Plain mathematics of keys: joints, texts cut at bytes 0, keys and ranges of keys in their order, what a text is the key of, moves. No program. Conditions: none. -/
import Derived.Lib.Join
import Derived.Lib.Bytealg
import GoSem.Op.String
namespace Go.Path
abbrev B := List UInt8
/-- A list of bytes as a string. -/
def bs (l : B) : ByteArray := ⟨l.toArray⟩
theorem bs_data (l : B) : (bs l).data.toList = l := by simp [bs]
theorem bs_of (s : ByteArray) : bs s.data.toList = s := by cases s; simp [bs]
theorem bs_size (l : B) : (bs l).size = l.length := by rw [Lib.size_eq, bs_data]
theorem bs_inj {a b : B} (h : bs a = bs b) : a = b := by rw [← bs_data a, ← bs_data b, h]
theorem bs_app (a b : B) : bs a ++ bs b = bs (a ++ b) := by
  rw [← bs_of (bs a ++ bs b), ByteArray.data_append, Array.toList_append, bs_data, bs_data]
/-- Is it a name, if a name may be of any length? -/
def formed (l : B) : Bool := !(l == []) && !(l == [46]) && !(l == [46, 46]) && !l.contains 0 && !l.contains 47
def name (l : B) : Bool := formed l && decide (l.length ≤ 16)
theorem name_no {l : B} (h : name l = true) : l.contains 0 = false ∧ l ≠ [] ∧ l.length ≤ 16 := by
  simp [name, formed] at h
  obtain ⟨⟨⟨⟨⟨h1, h2⟩, h3⟩, h4⟩, h5⟩, h6⟩ := h
  exact ⟨by simpa using h4, h1, h6⟩
def right (l : List B) : Bool := decide (l.length ≤ 6) && l.all name
def joint (l : List B) : B := Lib.join l [0]
theorem right_of {l : List B} (h : right l = true) : l.length ≤ 6 ∧ ∀ x ∈ l, name x = true := by
  simp [right] at h
  exact ⟨h.1, h.2⟩
/-- A text at its bytes 0. -/
def cut0 : B → List B
  | [] => [[]]
  | c :: t => if c = 0 then [] :: cut0 t else match cut0 t with
    | [] => [[c]]
    | h :: r => (c :: h) :: r
theorem cut0_ne (l : B) : cut0 l ≠ [] := by
  cases l with
  | nil => simp [cut0]
  | cons c t =>
    unfold cut0
    split
    · simp
    · split <;> simp
theorem cut0_at (a t : B) (h : a.contains 0 = false) : cut0 (a ++ 0 :: t) = a :: cut0 t := by
  induction a with
  | nil => simp [cut0]
  | cons c a ih =>
    simp at h
    have h1 : ¬ c = 0 := fun e => h.1 e.symm
    have := ih (by simpa using h.2)
    simp [cut0, h1, this]
theorem cut0_no (l : B) (h : l.contains 0 = false) : cut0 l = [l] := by
  induction l with
  | nil => rfl
  | cons c a ih =>
    simp at h
    have h1 : ¬ c = 0 := fun e => h.1 e.symm
    have := ih (by simpa using h.2)
    simp [cut0, h1, this]
theorem cut0_len (l : B) : (cut0 l).length ≤ l.length + 1 := by
  induction l with
  | nil => simp [cut0]
  | cons c t ih =>
    unfold cut0
    split
    · simp; omega
    · split
      · simp
      · next h r e => rw [e] at ih; simp at ih ⊢; omega
theorem cut0_from (l : B) (f i : Nat) (hf : f ≤ i) (hi : l[i]? = some 0) (hno : ∀ j, f ≤ j → j < i → l[j]? ≠ some 0) :
    cut0 (l.drop f) = (l.drop f).take (i - f) :: cut0 (l.drop (i + 1)) := by
  obtain ⟨hlt, he⟩ := List.getElem?_eq_some_iff.1 hi
  have e : l.drop f = (l.drop f).take (i - f) ++ 0 :: l.drop (i + 1) := by
    conv => lhs; rw [← List.take_append_drop (i - f) (l.drop f)]
    congr 1
    rw [List.drop_drop, show f + (i - f) = i by omega, List.drop_eq_getElem_cons hlt, he]
  conv => lhs; rw [e]
  refine cut0_at _ _ ?_
  rw [List.contains_eq_any_beq, List.any_eq_false]
  intro x hx
  obtain ⟨j, hj, rfl⟩ := List.getElem_of_mem hx
  simp at hj
  have := hno (f + j) (by omega) (by omega)
  rw [List.getElem?_eq_getElem (by omega)] at this
  simp
  intro e'
  apply this
  rw [← e']
theorem cut0_end (l : B) (f : Nat) (hno : ∀ j, f ≤ j → j < l.length → l[j]? ≠ some 0) : cut0 (l.drop f) = [l.drop f] := by
  refine cut0_no _ ?_
  rw [List.contains_eq_any_beq, List.any_eq_false]
  intro x hx
  obtain ⟨j, hj, rfl⟩ := List.getElem_of_mem hx
  simp at hj
  have := hno (f + j) (by omega) (by omega)
  rw [List.getElem?_eq_getElem (by omega)] at this
  simp
  intro e'
  apply this
  rw [← e']
theorem joint_nil : joint [] = [] := rfl
theorem joint_one (x : B) : joint [x] = x := Lib.join_one x _
theorem joint_two (x y : B) (r : List B) : joint (x :: y :: r) = x ++ 0 :: joint (y :: r) := by
  unfold joint
  rw [Lib.join_cons, Lib.join_cons]
  simp [Lib.joinTail]
theorem joint_cut (l : B) : joint (cut0 l) = l := by
  induction l with
  | nil => rfl
  | cons c t ih =>
    unfold cut0
    by_cases hc : c = 0
    · rw [if_pos hc]
      rcases h : cut0 t with _ | ⟨x, r⟩
      · exact absurd h (cut0_ne t)
      · rw [joint_two, ← h, ih, hc]; rfl
    · rw [if_neg hc]
      rcases h : cut0 t with _ | ⟨x, r⟩
      · exact absurd h (cut0_ne t)
      · simp only
        unfold joint at ih ⊢
        rw [h, Lib.join_cons] at ih
        rw [Lib.join_cons, List.cons_append, ih]
theorem cut_joint : ∀ (xs : List B), xs ≠ [] → (∀ x ∈ xs, x.contains 0 = false) → cut0 (joint xs) = xs
  | [], h, _ => absurd rfl h
  | [x], _, h => by rw [joint_one]; exact cut0_no x (h x (List.mem_cons_self ..))
  | x :: y :: r, _, h => by
    rw [joint_two, cut0_at _ _ (h x (List.mem_cons_self ..)), cut_joint (y :: r) (by simp) (fun z hz => h z (List.mem_cons_of_mem _ hz))]
theorem cut_joint_more : ∀ (xs : List B) (t : B), xs ≠ [] → (∀ x ∈ xs, x.contains 0 = false) → cut0 (joint xs ++ 0 :: t) = xs ++ cut0 t
  | [], _, h, _ => absurd rfl h
  | [x], t, _, h => by rw [joint_one]; exact cut0_at x t (h x (List.mem_cons_self ..))
  | x :: y :: r, t, _, h => by
    rw [joint_two, List.append_assoc, List.cons_append, cut0_at _ _ (h x (List.mem_cons_self ..)), cut_joint_more (y :: r) t (by simp) (fun z hz => h z (List.mem_cons_of_mem _ hz))]; rfl
theorem joint_app : ∀ (xs ys : List B), xs ≠ [] → ys ≠ [] → joint (xs ++ ys) = joint xs ++ 0 :: joint ys
  | [], _, h, _ => absurd rfl h
  | [x], [], _, h => absurd rfl h
  | [x], y :: r, _, _ => by rw [List.cons_append, List.nil_append, joint_two, joint_one]
  | x :: y :: r, ys, _, h => by
    have := joint_app (y :: r) ys (by simp) h
    rw [List.cons_append] at this
    rw [List.cons_append, List.cons_append, joint_two, this, joint_two]
    simp
theorem joint_len : ∀ (xs : List B) (k : Nat), (∀ x ∈ xs, x.length ≤ k) → (joint xs).length ≤ (k + 1) * xs.length
  | [], _, _ => by simp [joint_nil]
  | [x], k, h => by rw [joint_one]; have := h x (List.mem_cons_self ..); simp; omega
  | x :: y :: r, k, h => by
    rw [joint_two]
    have h1 := h x (List.mem_cons_self ..)
    have := joint_len (y :: r) k (fun z hz => h z (List.mem_cons_of_mem _ hz))
    simp only [List.length_append, List.length_cons, Nat.mul_add] at this ⊢
    omega
theorem joint_ne {l : List B} (h : right l = true) (hne : l ≠ []) : ∃ c t, joint l = c :: t ∧ c ≠ 0 := by
  obtain ⟨_, hx⟩ := right_of h
  rcases l with _ | ⟨x, r⟩
  · exact absurd rfl hne
  · obtain ⟨h0, h1, _⟩ := name_no (hx x (List.mem_cons_self ..))
    rcases x with _ | ⟨c, x⟩
    · exact absurd rfl h1
    · refine ⟨c, x ++ Lib.joinTail [0] r, by unfold joint; rw [Lib.join_cons]; rfl, ?_⟩
      simp at h0
      exact fun e => h0.1 e.symm
theorem joint_inj {a b : List B} (ha : right a = true) (hb : right b = true) (h : joint a = joint b) : a = b := by
  have pa := right_of ha; have pb := right_of hb
  by_cases ea : a = []
  · subst ea
    by_cases eb : b = []
    · exact eb.symm
    · obtain ⟨c, t, e, _⟩ := joint_ne hb eb
      rw [e] at h; simp [joint_nil] at h
  · by_cases eb : b = []
    · subst eb
      obtain ⟨c, t, e, _⟩ := joint_ne ha ea
      rw [e] at h; simp [joint_nil] at h
    · rw [← cut_joint a ea (fun x hx => (name_no (pa.2 x hx)).1), ← cut_joint b eb (fun x hx => (name_no (pb.2 x hx)).1), h]
/-- The keys. -/
def metaK (l : List B) : B := if right l = true then 109 :: joint l else []
def hasBlock (l : List B) (i : Int) : Bool := right l && decide (l ≠ []) && decide (0 ≤ i) && decide (i < 32)
def blockB (l : List B) (i : Nat) : B := 100 :: (joint l ++ [0, 0, 0, i.toUInt8])
def blockK (l : List B) (i : Int) : B := if hasBlock l i = true then blockB l i.toNat else []
/-- What a family's subtree is: from and to, with the first letter c, and the one past it. -/
def subF (c : UInt8) (l : List B) : B := if right l = true then c :: joint l else []
def subT (c : UInt8) (l : List B) : B := if right l = true then (if l = [] then [c + 1] else c :: (joint l ++ [1])) else []
def pastK (l : List B) : B := subT 109 l
def belowF (l : List B) : B := if right l = true then metaK l ++ [0] else []
def belowT (l : List B) : B := if right l = true then pastK l else []
def blocksF (l : List B) : B := if right l = true then 100 :: (joint l ++ [0, 0]) else []
def blocksT (l : List B) : B := if right l = true then 100 :: (joint l ++ [0, 1]) else []
/-- Moves. -/
def moves (f t : List B) : Bool := right f && right t && decide (f ≠ []) && decide (t ≠ [])
/-- Is s the joint j, or does it begin with it and a byte 0? -/
def under (j s : B) : Bool := decide (j <+: s) && (decide (s.drop j.length = []) || decide ((s.drop j.length).head? = some 0))
def moveK (k : B) (f t : List B) : B := if moves f t = true then (match k with
  | [] => []
  | c :: s => if (c = 109 ∨ c = 100) ∧ under (joint f) s = true then c :: (joint t ++ s.drop (joint f).length) else c :: s) else k
/-- The program's look at a text behind its first byte: n names are told already, cur stands since. -/
def scan (n : Nat) (cur : B) : B → Bool × List B × B
  | [] => (false, [cur], [])
  | c :: r => if 6 < n then (false, [cur ++ c :: r], []) else if c ≠ 0 then scan n (cur ++ [c]) r else
    if r.head? = some 0 then (true, [cur], r.drop 1) else ((scan (n + 1) [] r).1, cur :: (scan (n + 1) [] r).2.1, (scan (n + 1) [] r).2.2)
def parts (k : B) : Bool × List B × B :=
  if k.length ≤ 1 then (false, [], []) else if [0, 0] <+: k.drop 1 then (true, [], k.drop 3) else scan 0 [] (k.drop 1)
theorem scan_name (n : Nat) (hn : n ≤ 6) : ∀ (x cur t : B), x.contains 0 = false → scan n cur (x ++ t) = scan n (cur ++ x) t
  | [], cur, t, _ => by simp
  | c :: x, cur, t, h => by
    simp at h
    have h1 : ¬ c = 0 := fun e => h.1 e.symm
    rw [List.cons_append, scan, if_neg (by omega), if_pos h1, scan_name n hn x _ t (by simpa using h.2)]
    simp
theorem joint_head {l : List B} (h : ∀ x ∈ l, name x = true) (hne : l ≠ []) (t : B) : ((joint l ++ t).head? = some 0) = False := by
  rcases l with _ | ⟨x, r⟩
  · exact absurd rfl hne
  · obtain ⟨h0, h1, _⟩ := name_no (h x (List.mem_cons_self ..))
    rcases x with _ | ⟨c, x⟩
    · exact absurd rfl h1
    · unfold joint
      rw [Lib.join_cons]
      simp at h0 ⊢
      exact fun e => h0.1 e.symm
theorem scan_joint : ∀ (l : List B) (n : Nat), (∀ x ∈ l, name x = true) → l ≠ [] → n + l.length ≤ 6 → scan n [] (joint l) = (false, l, [])
  | [], _, _, h, _ => absurd rfl h
  | [x], n, h, _, hn => by
    have := scan_name n (by simp at hn; omega) x [] [] (name_no (h x (List.mem_cons_self ..))).1
    rw [joint_one]
    rw [List.append_nil] at this
    rw [this]; rfl
  | x :: y :: r, n, h, _, hn => by
    have hy : ∀ z ∈ y :: r, name z = true := fun z hz => h z (List.mem_cons_of_mem _ hz)
    simp at hn
    rw [joint_two, scan_name n (by omega) x [] _ (name_no (h x (List.mem_cons_self ..))).1, List.nil_append, scan, if_neg (by omega), if_neg (by simp)]
    have h0 := joint_head hy (by simp) []
    rw [List.append_nil] at h0
    rw [if_neg (by rw [h0]; exact id), scan_joint (y :: r) (n + 1) hy (by simp) (by simp; omega)]
theorem scan_block : ∀ (l : List B) (n : Nat) (z : B), (∀ x ∈ l, name x = true) → l ≠ [] → n + l.length ≤ 6 → scan n [] (joint l ++ 0 :: 0 :: z) = (true, l, z)
  | [], _, _, _, h, _ => absurd rfl h
  | [x], n, z, h, _, hn => by
    simp at hn
    rw [joint_one, scan_name n (by omega) x [] _ (name_no (h x (List.mem_cons_self ..))).1, scan, if_neg (by omega), if_neg (by simp), if_pos (show (0 :: z).head? = some 0 from rfl)]
    rfl
  | x :: y :: r, n, z, h, _, hn => by
    have hy : ∀ z ∈ y :: r, name z = true := fun z hz => h z (List.mem_cons_of_mem _ hz)
    simp at hn
    rw [joint_two, List.append_assoc, List.cons_append, scan_name n (by omega) x [] _ (name_no (h x (List.mem_cons_self ..))).1, List.nil_append, scan, if_neg (by omega), if_neg (by simp)]
    have h0 := joint_head hy (by simp) (0 :: 0 :: z)
    rw [if_neg (by rw [h0]; exact id), scan_block (y :: r) (n + 1) z hy (by simp) (by simp; omega)]
/-- What a text is the key of, in the program. -/
def num (z : B) : Nat := if z.length = 2 then 256 * (z.getD 0 0).toNat + (z.getD 1 0).toNat else 0
def isK (k : B) : Bool := bif (parts k).1 then decide (k = blockK (parts k).2.1 (num (parts k).2.2 : Nat)) else decide (k = metaK (parts k).2.1)
/-- Kind, path, number, error. -/
structure T where
  c : Nat
  l : List B
  i : Nat
  e : Nat
def noT : T := ⟨0, [], 0, 4⟩
def takeP (k : B) : T := if isK k = true then ⟨(k.getD 0 0).toNat, (parts k).2.1, num (parts k).2.2, 0⟩ else noT
def takeD (k : B) : T :=
  if k = [109] then ⟨109, [], 0, 0⟩
  else if 1 < k.length ∧ k.head? = some 109 then (if right (cut0 (k.drop 1)) = true then ⟨109, cut0 (k.drop 1), 0, 0⟩ else noT)
  else if k.length < 6 ∨ k.head? ≠ some 100 ∨ k[k.length - 4]? ≠ some 0 ∨ k[k.length - 3]? ≠ some 0 then noT
  else if right (cut0 ((k.drop 1).take (k.length - 5))) = false ∨ 31 < 256 * (k.getD (k.length - 2) 0).toNat + (k.getD (k.length - 1) 0).toNat then noT
  else ⟨100, cut0 ((k.drop 1).take (k.length - 5)), 256 * (k.getD (k.length - 2) 0).toNat + (k.getD (k.length - 1) 0).toNat, 0⟩
theorem parts_meta {l : List B} (h : right l = true) : parts (109 :: joint l) = (false, l, []) := by
  obtain ⟨h6, hx⟩ := right_of h
  by_cases e : l = []
  · subst e; rfl
  · obtain ⟨c, t, he, hc⟩ := joint_ne h e
    unfold parts
    rw [if_neg (by rw [he]; simp), if_neg (by rw [he]; simp; exact fun e => absurd e.symm hc)]
    exact scan_joint l 0 hx e (by omega)
theorem parts_block {l : List B} (h : right l = true) (hne : l ≠ []) (z : B) : parts (100 :: (joint l ++ 0 :: 0 :: z)) = (true, l, z) := by
  obtain ⟨h6, hx⟩ := right_of h
  obtain ⟨c, t, he, hc⟩ := joint_ne h hne
  unfold parts
  rw [if_neg (by rw [he]; simp), if_neg (by rw [he]; simp; exact fun e => absurd e.symm hc)]
  exact scan_block l 0 z hx hne (by omega)
theorem hasBlock_of {l : List B} {i : Int} (h : hasBlock l i = true) : right l = true ∧ l ≠ [] ∧ 0 ≤ i ∧ i < 32 := by
  simp [hasBlock] at h
  exact ⟨h.1.1.1, h.1.1.2, h.1.2, h.2⟩
theorem hasBlock_mk {l : List B} {i : Nat} (h : right l = true) (hne : l ≠ []) (hi : i < 32) : hasBlock l i = true := by
  simp [hasBlock, h, hne]; omega
theorem toNat_small {i : Nat} (h : i < 32) : i.toUInt8.toNat = i := by
  simp [Nat.toUInt8]; omega
theorem num_of {i : Nat} (hi : i < 32) : num [0, i.toUInt8] = i := by
  have := toNat_small hi
  simp [num, List.getD] at this ⊢
  exact this
theorem takeP_meta {l : List B} (h : right l = true) : takeP (109 :: joint l) = ⟨109, l, 0, 0⟩ := by
  have hp := parts_meta h
  have : isK (109 :: joint l) = true := by unfold isK; rw [hp]; simp [metaK, h]
  unfold takeP
  rw [if_pos this, hp]; rfl
theorem takeP_block {l : List B} (h : right l = true) (hne : l ≠ []) {i : Nat} (hi : i < 32) : takeP (blockB l i) = ⟨100, l, i, 0⟩ := by
  have hp := parts_block h hne [0, i.toUInt8]
  have e : blockB l i = 100 :: (joint l ++ 0 :: 0 :: [0, i.toUInt8]) := rfl
  rw [← e] at hp
  have : isK (blockB l i) = true := by
    unfold isK; rw [hp]
    simp only [num_of hi, cond_true, decide_eq_true_eq]
    unfold blockK
    rw [if_pos (hasBlock_mk h hne hi)]
    simp
  unfold takeP
  rw [if_pos this, hp]
  simp only [num_of hi]
  rfl
/-- Is it a key? -/
def IsKey (k : B) : Prop := (∃ l, right l = true ∧ k = 109 :: joint l) ∨ ∃ l i, right l = true ∧ l ≠ [] ∧ i < 32 ∧ k = blockB l i
theorem isKey_meta {k : B} {l : List B} (hk : k ≠ []) (h : k = metaK l) : IsKey k := by
  unfold metaK at h
  split at h
  · next e => exact .inl ⟨l, e, h⟩
  · exact absurd h hk
theorem isKey_block {k : B} {l : List B} {i : Int} (hk : k ≠ []) (h : k = blockK l i) : IsKey k := by
  unfold blockK at h
  split at h
  · next e =>
    obtain ⟨h1, h2, h3, h4⟩ := hasBlock_of e
    exact .inr ⟨l, i.toNat, h1, h2, by omega, h⟩
  · exact absurd h hk
theorem takeP_no {k : B} (h : ¬ IsKey k) : takeP k = noT := by
  unfold takeP
  rw [if_neg]
  intro hk
  by_cases e : k = []
  · subst e; exact absurd hk (by decide)
  · unfold isK at hk
    cases hb : (parts k).1
    · rw [hb] at hk; simp at hk; exact h (isKey_meta e hk)
    · rw [hb] at hk; simp at hk; exact h (isKey_block e hk)
theorem takeD_meta {l : List B} (h : right l = true) : takeD (109 :: joint l) = ⟨109, l, 0, 0⟩ := by
  obtain ⟨h6, hx⟩ := right_of h
  by_cases e : l = []
  · subst e; rfl
  · obtain ⟨c, t, he, hc⟩ := joint_ne h e
    have hcj := cut_joint l e (fun x hx' => (name_no (hx x hx')).1)
    unfold takeD
    rw [if_neg (by rw [he]; simp), if_pos (by rw [he]; simp), List.drop_succ_cons, List.drop_zero, hcj, if_pos h]
theorem takeD_block {l : List B} (h : right l = true) (hne : l ≠ []) {i : Nat} (hi : i < 32) : takeD (blockB l i) = ⟨100, l, i, 0⟩ := by
  obtain ⟨h6, hx⟩ := right_of h
  obtain ⟨c, t, he, hc⟩ := joint_ne h hne
  have hcj := cut_joint l hne (fun x hx' => (name_no (hx x hx')).1)
  have hlen : 1 ≤ (joint l).length := by rw [he]; simp
  have hn := toNat_small hi
  unfold takeD blockB
  have e1 : (100 :: (joint l ++ [0, 0, 0, i.toUInt8])).length = (joint l).length + 5 := by simp
  rw [e1]
  rw [if_neg (by simp), if_neg (by simp)]
  have e2 : (100 :: (joint l ++ [0, 0, 0, i.toUInt8]))[(joint l).length + 5 - 4]? = some 0 := by
    rw [show (joint l).length + 5 - 4 = (joint l).length + 1 by omega, List.getElem?_cons_succ, List.getElem?_append_right (by omega), Nat.sub_self]; rfl
  have e3 : (100 :: (joint l ++ [0, 0, 0, i.toUInt8]))[(joint l).length + 5 - 3]? = some 0 := by
    rw [show (joint l).length + 5 - 3 = (joint l).length + 1 + 1 by omega, List.getElem?_cons_succ, List.getElem?_append_right (by omega), Nat.add_sub_cancel_left]; rfl
  have e4 : (100 :: (joint l ++ [0, 0, 0, i.toUInt8])).getD ((joint l).length + 5 - 2) 0 = 0 := by
    rw [show (joint l).length + 5 - 2 = (joint l).length + 2 + 1 by omega, List.getD, List.getElem?_cons_succ, List.getElem?_append_right (by omega), Nat.add_sub_cancel_left]; rfl
  have e5 : (100 :: (joint l ++ [0, 0, 0, i.toUInt8])).getD ((joint l).length + 5 - 1) 0 = i.toUInt8 := by
    rw [show (joint l).length + 5 - 1 = (joint l).length + 3 + 1 by omega, List.getD, List.getElem?_cons_succ, List.getElem?_append_right (by omega), Nat.add_sub_cancel_left]; rfl
  have e6 : ((100 :: (joint l ++ [0, 0, 0, i.toUInt8])).drop 1).take ((joint l).length + 5 - 5) = joint l := by simp
  rw [if_neg (by rw [e2, e3]; simp; exact hlen), e4, e5, e6, hcj, hn, if_neg (by simp [h]; omega)]
  simp
theorem takeD_no {k : B} (h : ¬ IsKey k) : takeD k = noT := by
  unfold takeD
  by_cases h1 : k = [109]
  · exact absurd (.inl ⟨[], rfl, h1⟩) h
  rw [if_neg h1]
  by_cases h2 : 1 < k.length ∧ k.head? = some 109
  · rw [if_pos h2]
    by_cases h3 : right (cut0 (k.drop 1)) = true
    · refine absurd (.inl ⟨_, h3, ?_⟩) h
      rw [joint_cut]
      rcases k with _ | ⟨c, k⟩
      · simp at h2
      · simp at h2 ⊢; exact h2.2
    · rw [if_neg h3]
  rw [if_neg h2]
  by_cases h3 : k.length < 6 ∨ k.head? ≠ some 100 ∨ k[k.length - 4]? ≠ some 0 ∨ k[k.length - 3]? ≠ some 0
  · rw [if_pos h3]
  rw [if_neg h3]
  by_cases h4 : right (cut0 ((k.drop 1).take (k.length - 5))) = false ∨ 31 < 256 * (k.getD (k.length - 2) 0).toNat + (k.getD (k.length - 1) 0).toNat
  · rw [if_pos h4]
  exfalso
  simp only [not_or, Nat.not_lt, Classical.not_not, Bool.not_eq_false] at h3 h4
  obtain ⟨g1, g2, g3, g4⟩ := h3
  obtain ⟨g5, g6⟩ := h4
  refine h (.inr ⟨_, _, g5, ?_, Nat.lt_succ_of_le g6, ?_⟩)
  · exact cut0_ne _
  · unfold blockB
    rw [joint_cut]
    have hz : (k.getD (k.length - 2) 0).toNat = 0 := by omega
    rw [hz, Nat.mul_zero, Nat.zero_add]
    have hz2 : k.getD (k.length - 2) 0 = 0 := UInt8.toNat_inj.1 hz
    have hy : (k.getD (k.length - 1) 0).toNat.toUInt8 = k.getD (k.length - 1) 0 := by simp
    rw [hy]
    rcases k with _ | ⟨c, t⟩
    · simp at g1
    simp at g2
    subst g2
    simp only [List.length_cons] at g1 g3 g4 hz2 hy ⊢
    congr 1
    rw [List.drop_succ_cons, List.drop_zero]
    have e : t = t.take (t.length + 1 - 5) ++ t.drop (t.length + 1 - 5) := (List.take_append_drop _ _).symm
    conv => lhs; rw [e]
    congr 1
    rw [show t.length + 1 - 4 = t.length - 4 + 1 by omega, List.getElem?_cons_succ] at g3
    rw [show t.length + 1 - 3 = t.length - 3 + 1 by omega, List.getElem?_cons_succ] at g4
    rw [show t.length + 1 - 2 = t.length - 2 + 1 by omega, List.getD, List.getElem?_cons_succ] at hz2
    rw [show t.length + 1 - 1 = t.length - 1 + 1 by omega, List.getD, List.getElem?_cons_succ]
    rw [List.drop_eq_getElem_cons (by omega), List.drop_eq_getElem_cons (by omega), List.drop_eq_getElem_cons (by omega), List.drop_eq_getElem_cons (by omega), List.drop_eq_nil_of_le (by omega)]
    obtain ⟨m, hm⟩ : ∃ m, t.length = m + 4 := ⟨t.length - 4, by omega⟩
    have i1 : t.length + 1 - 5 = m := by omega
    have i2 : t.length - 4 = m := by omega
    have i3 : t.length - 3 = m + 1 := by omega
    have i4 : t.length - 2 = m + 1 + 1 := by omega
    have i5 : t.length - 1 = m + 1 + 1 + 1 := by omega
    simp only [i1, i2, i3, i4, i5] at g3 g4 hz2 ⊢
    rw [List.getElem?_eq_getElem (by omega)] at g3 g4 hz2
    rw [List.getElem?_eq_getElem (by omega)]
    simp at g3 g4 hz2 ⊢
    exact ⟨g3, g4, hz2⟩
theorem take_eq (k : B) : takeP k = takeD k := by
  by_cases h : IsKey k
  · rcases h with ⟨l, h, rfl⟩ | ⟨l, i, h, hne, hi, rfl⟩
    · rw [takeP_meta h, takeD_meta h]
    · rw [takeP_block h hne hi, takeD_block h hne hi]
  · rw [takeP_no h, takeD_no h]
end Go.Path
