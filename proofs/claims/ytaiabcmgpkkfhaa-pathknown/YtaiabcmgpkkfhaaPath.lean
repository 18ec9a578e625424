/- Plain mathematics of paths: names, texts cut at slashes, what a text means, what is told of names. No program. Conditions: none. -/
import Derived.Lib.Join
import Derived.Lib.Bytealg
namespace Go.Path
abbrev B := List UInt8
/-- A list of bytes as a string. -/
def bs (l : B) : ByteArray := ⟨l.toArray⟩
theorem bs_data (l : B) : (bs l).data.toList = l := by simp [bs]
theorem bs_of (s : ByteArray) : bs s.data.toList = s := by cases s; simp [bs]
theorem bs_size (l : B) : (bs l).size = l.length := by rw [Lib.size_eq, bs_data]
theorem bs_inj {a b : B} (h : bs a = bs b) : a = b := by rw [← bs_data a, ← bs_data b, h]
/-- Is it a name, if a name may be of any length? -/
def formed (l : B) : Bool := !(l == []) && !(l == [46]) && !(l == [46, 46]) && !l.contains 0 && !l.contains 47
/-- Is it a name (0)? If not, why. -/
def check (l : B) : Nat := if formed l = true then (if 16 < l.length then 3 else 0) else 4
def name (l : B) : Bool := formed l && decide (l.length ≤ 16)
theorem check_name {l : B} : check l = 0 ↔ name l = true := by
  unfold check name
  by_cases h : formed l = true <;> by_cases k : 16 < l.length <;> simp [h, k] <;> omega
theorem check_or (l : B) : check l = 0 ∨ check l = 3 ∨ check l = 4 := by
  unfold check; split
  · split <;> simp
  · simp
theorem name_no {l : B} (h : name l = true) : l.contains 47 = false ∧ l ≠ [] ∧ l.length ≤ 16 := by
  simp [name, formed] at h
  obtain ⟨⟨⟨⟨⟨h1, h2⟩, h3⟩, h4⟩, h5⟩, h6⟩ := h
  exact ⟨by simpa using h5, h1, h6⟩
/-- A text at its slashes. -/
def split : B → List B
  | [] => [[]]
  | c :: t => if c = 47 then [] :: split t else match split t with
    | [] => [[c]]
    | h :: r => (c :: h) :: r
def ahead : B → B
  | [] => []
  | c :: t => if c = 47 then [] else c :: ahead t
def behind : B → B
  | [] => []
  | c :: t => if c = 47 then t else behind t
theorem split_ne (l : B) : split l ≠ [] := by
  cases l with
  | nil => simp [split]
  | cons c t =>
    unfold split
    split
    · simp
    · split <;> simp
theorem split_at (a t : B) (h : a.contains 47 = false) : split (a ++ 47 :: t) = a :: split t := by
  induction a with
  | nil => simp [split]
  | cons c a ih =>
    simp at h
    have h1 : ¬ c = 47 := fun e => h.1 e.symm
    have := ih (by simpa using h.2)
    simp [split, h1, this]
theorem split_no (l : B) (h : l.contains 47 = false) : split l = [l] := by
  induction l with
  | nil => rfl
  | cons c a ih =>
    simp at h
    have h1 : ¬ c = 47 := fun e => h.1 e.symm
    have := ih (by simpa using h.2)
    simp [split, h1, this]
theorem ahead_no (l : B) : (ahead l).contains 47 = false := by
  induction l with
  | nil => rfl
  | cons c t ih =>
    unfold ahead
    by_cases h : c = 47
    · simp [h]
    · rw [if_neg h]
      simp at ih ⊢
      exact ⟨fun e => h e.symm, ih⟩
theorem cut_found (l : B) (h : l.contains 47 = true) : l = ahead l ++ 47 :: behind l := by
  induction l with
  | nil => simp at h
  | cons c t ih =>
    unfold ahead behind
    by_cases hc : c = 47
    · simp [hc]
    · rw [if_neg hc, if_neg hc]
      have : t.contains 47 = true := by
        simp at h ⊢
        rcases h with h | h
        · exact absurd h.symm hc
        · exact h
      rw [List.cons_append, ← ih this]
theorem cut_none (l : B) (h : l.contains 47 = false) : ahead l = l ∧ behind l = [] := by
  induction l with
  | nil => exact ⟨rfl, rfl⟩
  | cons c t ih =>
    simp at h
    have h1 : ¬ c = 47 := fun e => h.1 e.symm
    have := ih (by simpa using h.2)
    unfold ahead behind
    rw [if_neg h1, if_neg h1, this.1]
    exact ⟨rfl, this.2⟩
theorem cut_of (a t : B) (h : a.contains 47 = false) : ahead (a ++ 47 :: t) = a ∧ behind (a ++ 47 :: t) = t := by
  induction a with
  | nil => simp [ahead, behind]
  | cons c a ih =>
    simp at h
    have h1 : ¬ c = 47 := fun e => h.1 e.symm
    have := ih (by simpa using h.2)
    simp [ahead, behind, h1, this]
/-- What the names behind the first are. -/
def more (l : B) : List B := if l.contains 47 = true then split (behind l) else []
theorem split_more (l : B) : split l = ahead l :: more l := by
  unfold more
  by_cases h : l.contains 47 = true
  · rw [if_pos h]
    conv => lhs; rw [cut_found l h]
    exact split_at _ _ (ahead_no l)
  · have h' : l.contains 47 = false := by simpa using h
    rw [if_neg h, split_no l h', (cut_none l h').1]
theorem ahead_len (l : B) : (ahead l).length ≤ l.length := by
  induction l with
  | nil => simp [ahead]
  | cons c t ih => unfold ahead; split <;> simp <;> omega
theorem behind_len (l : B) : (behind l).length ≤ l.length := by
  induction l with
  | nil => simp [behind]
  | cons c t ih => unfold behind; split <;> simp <;> omega
theorem behind_lt (l : B) (h : l.contains 47 = true) : (behind l).length < l.length := by
  have := congrArg List.length (cut_found l h)
  simp at this
  omega
theorem split_len (l : B) : (split l).length ≤ l.length + 1 := by
  induction l with
  | nil => simp [split]
  | cons c t ih =>
    unfold split
    split
    · simp; omega
    · split
      · simp
      · next h r e => rw [e] at ih; simp at ih ⊢; omega
theorem split_each (l : B) : ∀ x ∈ split l, x.length ≤ l.length := by
  induction l with
  | nil => simp [split]
  | cons c t ih =>
    unfold split
    split
    · intro x hx
      rcases List.mem_cons.1 hx with rfl | hx
      · simp
      · have := ih x hx; simp; omega
    · split
      · simp
      · next h r e =>
        rw [e] at ih
        intro x hx
        rcases List.mem_cons.1 hx with rfl | hx
        · have := ih h (List.mem_cons_self ..); simp; omega
        · have := ih x (List.mem_cons_of_mem _ hx); simp; omega
theorem split_each_no (l : B) : ∀ x ∈ split l, x.contains 47 = false := by
  induction l with
  | nil => simp [split]
  | cons c t ih =>
    unfold split
    split
    · intro x hx
      rcases List.mem_cons.1 hx with rfl | hx
      · rfl
      · exact ih x hx
    · next hc =>
      split
      · simp; exact fun e => hc e.symm
      · next h r e =>
        rw [e] at ih
        intro x hx
        rcases List.mem_cons.1 hx with rfl | hx
        · have := ih h (List.mem_cons_self ..)
          simp at this ⊢
          exact ⟨fun e => hc e.symm, this⟩
        · exact ih x (List.mem_cons_of_mem _ hx)
/-- One round of the document's Split: a slash at i. -/
theorem split_from (l : B) (f i : Nat) (hf : f ≤ i) (hi : l[i]? = some 47) (hno : ∀ j, f ≤ j → j < i → l[j]? ≠ some 47) :
    split (l.drop f) = (l.drop f).take (i - f) :: split (l.drop (i + 1)) := by
  obtain ⟨hlt, he⟩ := List.getElem?_eq_some_iff.1 hi
  have e : l.drop f = (l.drop f).take (i - f) ++ 47 :: l.drop (i + 1) := by
    conv => lhs; rw [← List.take_append_drop (i - f) (l.drop f)]
    congr 1
    rw [List.drop_drop, show f + (i - f) = i by omega, List.drop_eq_getElem_cons hlt, he]
  conv => lhs; rw [e]
  refine split_at _ _ ?_
  rw [List.contains_eq_any_beq, List.any_eq_false]
  intro x hx
  obtain ⟨j, hj, rfl⟩ := List.getElem_of_mem hx
  simp at hj
  have := hno (f + j) (by omega) (by omega)
  rw [List.getElem?_eq_getElem (by omega)] at this
  simp
  intro e'
  apply this
  rw [← e']
theorem split_end (l : B) (f : Nat) (hno : ∀ j, f ≤ j → j < l.length → l[j]? ≠ some 47) : split (l.drop f) = [l.drop f] := by
  refine split_no _ ?_
  rw [List.contains_eq_any_beq, List.any_eq_false]
  intro x hx
  obtain ⟨j, hj, rfl⟩ := List.getElem_of_mem hx
  simp at hj
  have := hno (f + j) (by omega) (by omega)
  rw [List.getElem?_eq_getElem (by omega)] at this
  simp
  intro e'
  apply this
  rw [← e']
/-- Names, k of them taken already: the first error. -/
def names (k : Nat) : List B → Nat
  | [] => 0
  | x :: r => if check x ≠ 0 then check x else if 6 ≤ k then 3 else names (k + 1) r
theorem names_zero : ∀ (k : Nat) (xs : List B), names k xs = 0 → (∀ x ∈ xs, check x = 0) ∧ (xs ≠ [] → k + xs.length ≤ 6)
  | k, [], _ => ⟨by simp, by simp⟩
  | k, x :: r, h => by
    unfold names at h
    by_cases hx : check x ≠ 0
    · rw [if_pos hx] at h; exact absurd h hx
    · rw [if_neg hx] at h
      by_cases hk : 6 ≤ k
      · rw [if_pos hk] at h; simp at h
      · rw [if_neg hk] at h
        obtain ⟨h1, h2⟩ := names_zero (k + 1) r h
        have hx' : check x = 0 := by omega
        refine ⟨fun y hy => ?_, fun _ => ?_⟩
        · rcases List.mem_cons.1 hy with rfl | hy
          · exact hx'
          · exact h1 y hy
        · rcases r with _ | ⟨y, r⟩
          · simp; omega
          · have := h2 (by simp); simp at this ⊢; omega
theorem names_good : ∀ (k : Nat) (xs : List B), (∀ x ∈ xs, check x = 0) → k + xs.length ≤ 6 → names k xs = 0
  | k, [], _, _ => rfl
  | k, x :: r, h, hk => by
    simp at hk
    unfold names
    rw [if_neg (by simp [h x (List.mem_cons_self ..)]), if_neg (by omega)]
    exact names_good (k + 1) r (fun y hy => h y (List.mem_cons_of_mem _ hy)) (by omega)
theorem names_or : ∀ (k : Nat) (xs : List B), names k xs = 0 ∨ names k xs = 3 ∨ names k xs = 4
  | k, [] => .inl rfl
  | k, x :: r => by
    unfold names
    split
    · exact check_or x
    · split
      · simp
      · exact names_or (k + 1) r
/-- What stands ahead of the first slash: why it is no snapshot. -/
def snapErr (a : B) : Nat := if a.getLast? ≠ some 58 then 4 else if a.dropLast.contains 58 = true then 4 else check a.dropLast
def snapE (a : B) : Nat := if a = [] then 0 else snapErr a
def namesE (b : B) : Nat := if b = [] then 0 else names 0 (split b)
def namesL (b : B) : List B := if b = [] then [] else split b
/-- What a text means. -/
def parseE (p : B) : Nat := if 120 < p.length then 3 else if p.contains 47 = false then 4 else if snapE (ahead p) ≠ 0 then snapE (ahead p) else namesE (behind p)
def parseS (p : B) : B := if parseE p = 0 then (ahead p).dropLast else []
def parseL (p : B) : List B := if parseE p = 0 then namesL (behind p) else []
theorem snapE_or (a : B) : snapE a = 0 ∨ snapE a = 3 ∨ snapE a = 4 := by
  unfold snapE snapErr
  split
  · simp
  · split
    · simp
    · split
      · simp
      · exact check_or _
theorem namesE_or (b : B) : namesE b = 0 ∨ namesE b = 3 ∨ namesE b = 4 := by
  unfold namesE; split
  · simp
  · exact names_or _ _
theorem parseE_or (p : B) : parseE p = 0 ∨ parseE p = 3 ∨ parseE p = 4 := by
  unfold parseE
  split
  · simp
  · split
    · simp
    · split
      · exact snapE_or _
      · exact namesE_or _
/-- The text of names. -/
def snapT (s : B) : B := if s = [] then [] else s ++ [58]
def snapB (s : B) : Bool := !(s == []) && (!name s || s.contains 58)
def textE (s : B) (l : List B) : Nat := if snapB s = true then 4 else if l.all name = false then 4 else if 6 < l.length then 3 else 0
def textS (s : B) (l : List B) : B := if textE s l = 0 then snapT s ++ 47 :: Lib.join l [47] else []
theorem textE_or (s : B) (l : List B) : textE s l = 0 ∨ textE s l = 3 ∨ textE s l = 4 := by
  unfold textE; split
  · simp
  · split
    · simp
    · split <;> simp
theorem join_two (x y : B) (r : List B) : Lib.join (x :: y :: r) [47] = x ++ 47 :: Lib.join (y :: r) [47] := by
  rw [Lib.join_cons, Lib.join_cons]
  simp [Lib.joinTail]
theorem join_split (l : B) : Lib.join (split l) [47] = l := by
  induction l with
  | nil => simp [split, Lib.join_one]
  | cons c t ih =>
    unfold split
    by_cases hc : c = 47
    · rw [if_pos hc]
      rcases h : split t with _ | ⟨x, r⟩
      · exact absurd h (split_ne t)
      · rw [join_two, ← h, ih, hc]; rfl
    · rw [if_neg hc]
      rcases h : split t with _ | ⟨x, r⟩
      · exact absurd h (split_ne t)
      · simp only
        rw [h, Lib.join_cons] at ih
        rw [Lib.join_cons, List.cons_append, ih]
theorem split_join : ∀ (xs : List B), xs ≠ [] → (∀ x ∈ xs, x.contains 47 = false) → split (Lib.join xs [47]) = xs
  | [], h, _ => absurd rfl h
  | [x], _, h => by rw [Lib.join_one]; exact split_no x (h x (List.mem_cons_self ..))
  | x :: y :: r, _, h => by
    rw [join_two, split_at _ _ (h x (List.mem_cons_self ..)), split_join (y :: r) (by simp) (fun z hz => h z (List.mem_cons_of_mem _ hz))]
theorem join_len : ∀ (xs : List B), (∀ x ∈ xs, x.length ≤ 16) → (Lib.join xs [47]).length ≤ 17 * xs.length
  | [], _ => by simp [Lib.join_nil]
  | [x], h => by rw [Lib.join_one]; have := h x (List.mem_cons_self ..); simp; omega
  | x :: y :: r, h => by
    rw [join_two]
    have h1 := h x (List.mem_cons_self ..)
    have := join_len (y :: r) (fun z hz => h z (List.mem_cons_of_mem _ hz))
    simp at this ⊢
    omega
theorem snap_of {s : B} (h : snapB s = false) : s = [] ∨ (name s = true ∧ s.contains 58 = false) := by
  simp [snapB] at h
  by_cases hs : s = []
  · exact .inl hs
  · exact .inr ⟨(h hs).1, by simpa using (h hs).2⟩
/-- What is told of names is read as these. -/
theorem parse_text {s : B} {l : List B} (h : textE s l = 0) : parseE (textS s l) = 0 ∧ parseS (textS s l) = s ∧ parseL (textS s l) = l := by
  have hT : textS s l = snapT s ++ 47 :: Lib.join l [47] := if_pos h
  unfold textE at h
  by_cases h1 : snapB s = true
  · rw [if_pos h1] at h; simp at h
  rw [if_neg h1] at h
  by_cases h2 : l.all name = false
  · rw [if_pos h2] at h; simp at h
  rw [if_neg h2] at h
  by_cases h3 : 6 < l.length
  · rw [if_pos h3] at h; simp at h
  have hs := snap_of (by simpa using h1)
  have ha : ∀ x ∈ l, name x = true := List.all_eq_true.1 (by simpa using h2)
  have hno : (snapT s).contains 47 = false := by
    unfold snapT
    rcases hs with rfl | ⟨hs, _⟩
    · rfl
    · rw [if_neg (name_no hs).2.1]
      have := (name_no hs).1
      simp at this ⊢
      exact this
  obtain ⟨hc1, hc2⟩ := cut_of (snapT s) (Lib.join l [47]) hno
  rw [← hT] at hc1 hc2
  have hlen : (textS s l).length ≤ 120 := by
    rw [hT]
    have hj := join_len l (fun x hx => (name_no (ha x hx)).2.2)
    have : (snapT s).length ≤ 17 := by
      unfold snapT
      rcases hs with rfl | ⟨hs, _⟩
      · simp
      · rw [if_neg (name_no hs).2.1]
        have := (name_no hs).2.2
        simp; omega
    simp
    omega
  have hin : (textS s l).contains 47 = true := by rw [hT]; simp
  have hsn : snapE (snapT s) = 0 ∧ (snapT s).dropLast = s := by
    unfold snapT snapE
    rcases hs with rfl | ⟨hs, hcol⟩
    · exact ⟨rfl, rfl⟩
    · rw [if_neg (name_no hs).2.1]
      refine ⟨?_, by simp⟩
      rw [if_neg (by simp)]
      unfold snapErr
      rw [if_neg (by simp), if_neg (by simp at hcol ⊢; exact hcol)]
      simp only [List.dropLast_concat]
      exact check_name.2 hs
  have hna : namesE (Lib.join l [47]) = 0 ∧ namesL (Lib.join l [47]) = l := by
    unfold namesE namesL
    rcases l with _ | ⟨x, r⟩
    · simp [Lib.join_nil]
    · have hne : Lib.join (x :: r) [47] ≠ [] := by
        rw [Lib.join_cons]
        have := (name_no (ha x (List.mem_cons_self ..))).2.1
        simp [this]
      have hsp := split_join (x :: r) (by simp) (fun y hy => (name_no (ha y hy)).1)
      rw [if_neg hne, if_neg hne, hsp]
      exact ⟨names_good 0 _ (fun y hy => check_name.2 (ha y hy)) (by omega), rfl⟩
  have hE : parseE (textS s l) = 0 := by
    unfold parseE
    rw [if_neg (by omega), if_neg (by rw [hin]; decide), hc1, if_neg (by simp [hsn.1]), hc2]
    exact hna.1
  refine ⟨hE, ?_, ?_⟩
  · unfold parseS; rw [if_pos hE, hc1]; exact hsn.2
  · unfold parseL; rw [if_pos hE, hc2]; exact hna.2
theorem dropLast_last {a : B} {c : UInt8} (h : a.getLast? = some c) : a = a.dropLast ++ [c] := by
  rcases List.eq_nil_or_concat a with rfl | ⟨r, x, rfl⟩
  · simp at h
  · simp at h ⊢; exact h
/-- What is read is told just so. -/
theorem text_parse {p : B} (h : parseE p = 0) : textE (parseS p) (parseL p) = 0 ∧ textS (parseS p) (parseL p) = p := by
  have hS : parseS p = (ahead p).dropLast := if_pos h
  have hL : parseL p = namesL (behind p) := if_pos h
  unfold parseE at h
  by_cases h1 : 120 < p.length
  · rw [if_pos h1] at h; simp at h
  rw [if_neg h1] at h
  by_cases h2 : p.contains 47 = false
  · rw [if_pos h2] at h; simp at h
  rw [if_neg h2] at h
  by_cases h3 : snapE (ahead p) ≠ 0
  · rw [if_pos h3] at h; exact absurd h h3
  rw [if_neg h3] at h
  have hp := cut_found p (by simpa using h2)
  have h3' : snapE (ahead p) = 0 := by omega
  have hsn : snapT (ahead p).dropLast = ahead p ∧ snapB (ahead p).dropLast = false := by
    unfold snapE at h3'
    by_cases e : ahead p = []
    · rw [e]; exact ⟨rfl, rfl⟩
    · rw [if_neg e] at h3'
      unfold snapErr at h3'
      by_cases g1 : (ahead p).getLast? ≠ some 58
      · rw [if_pos g1] at h3'; simp at h3'
      rw [if_neg g1] at h3'
      by_cases g2 : (ahead p).dropLast.contains 58 = true
      · rw [if_pos g2] at h3'; simp at h3'
      rw [if_neg g2] at h3'
      have hn := check_name.1 h3'
      have hl := dropLast_last (Classical.not_not.1 g1)
      refine ⟨?_, ?_⟩
      · unfold snapT
        rw [if_neg (name_no hn).2.1, ← hl]
      · simp only [Bool.not_eq_true] at g2
        simp only [snapB, hn, g2]; simp
  have hna : (∀ x ∈ namesL (behind p), name x = true) ∧ (namesL (behind p)).length ≤ 6 ∧ Lib.join (namesL (behind p)) [47] = behind p := by
    unfold namesE at h
    unfold namesL
    by_cases e : behind p = []
    · rw [if_pos e, e]; simp [Lib.join_nil]
    · rw [if_neg e] at h ⊢
      obtain ⟨g1, g2⟩ := names_zero 0 _ h
      have := g2 (split_ne _)
      exact ⟨fun x hx => check_name.1 (g1 x hx), by omega, join_split _⟩
  have hE : textE (parseS p) (parseL p) = 0 := by
    rw [hS, hL]
    unfold textE
    have : (namesL (behind p)).all name = true := List.all_eq_true.2 hna.1
    rw [if_neg (by simp [hsn.2]), if_neg (by simp [this]), if_neg (by have := hna.2.1; omega)]
  refine ⟨hE, ?_⟩
  unfold textS
  rw [if_pos hE, hS, hL, hsn.1, hna.2.2, ← hp]
/-- Is a the same as b, or does b begin with all of a? -/
def within (a b : List B) : Bool := decide (a.length ≤ b.length ∧ b.take a.length = a)
def move (l from_ to : List B) : List B := if within from_ l = true then to ++ l.drop from_.length else l
theorem within_self (l : List B) : within l l = true := by simp [within]
theorem within_nil (l : List B) : within [] l = true := by simp [within]
theorem within_up (l : List B) : within l.dropLast l = true := by simp [within, List.dropLast_eq_take]
theorem within_not (l : List B) (h : l ≠ []) : within l l.dropLast = false := by
  have : 0 < l.length := List.length_pos_iff.2 h
  simp [within]; intro; omega
theorem within_append (a b : List B) : within a (a ++ b) = true := by simp [within]
theorem move_back (rest from_ to : List B) : move (from_ ++ rest) from_ to = to ++ rest ∧ move (to ++ rest) to from_ = from_ ++ rest := by
  simp [move, within_append]
end Go.Path
