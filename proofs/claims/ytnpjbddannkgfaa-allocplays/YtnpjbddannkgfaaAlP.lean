/- Plain mathematics of allocators: free sectors as spans, those that wait, chains by their places; what each call makes of them. No program. -/
import Derived.Test.YtnpjbddannkgfaaSpP
namespace Go.Alloc
open Go.Spans
/-- A chain: its sectors, its references, is it sure. -/
structure Ch where
  secs : List Nat
  refs : Nat
  sure : Bool
def Ch.place (c : Ch) : Nat := c.secs.headD 0
/-- Rising by places. -/
def Srt (L : List Ch) : Prop := L.Pairwise (fun a b => a.place < b.place)
/-- All sectors of chains. -/
def allS (L : List Ch) : List Nat := L.flatMap Ch.secs
/-- What is right of an allocator of the sectors from f up to n. -/
structure Inv (f n : Nat) (xs : List Sp) (L : List Ch) (W : List Nat) : Prop where
  ok : Ok n xs
  lt : f < n
  hi : n ≤ 4096
  srt : Srt L
  ne : ∀ c ∈ L, c.secs ≠ []
  refs : ∀ c ∈ L, 1 ≤ c.refs ∧ c.refs ≤ 65535
  part : (elems xs ++ (W ++ allS L)).Perm (List.range' f (n - f))
section
variable {f n : Nat} {xs : List Sp} {L : List Ch} {W : List Nat}
theorem place_mem {c : Ch} (h : c.secs ≠ []) : c.place ∈ c.secs := by
  unfold Ch.place
  cases hs : c.secs with
  | nil => exact absurd hs h
  | cons a l => simp
theorem Inv.nodup (h : Inv f n xs L W) : (elems xs ++ (W ++ allS L)).Nodup := h.part.nodup_iff.2 List.nodup_range'
theorem Inv.mem (h : Inv f n xs L W) {k : Nat} : (hasB xs k = true ∨ k ∈ W ∨ k ∈ allS L) ↔ f ≤ k ∧ k < n := by
  have := h.part.mem_iff (a := k)
  rw [List.mem_append, List.mem_append, mem_elems h.ok, List.mem_range'_1] at this
  have hl := h.lt
  rw [this]
  omega
theorem Inv.len (h : Inv f n xs L W) : cnt xs + W.length + (allS L).length = n - f := by
  have := h.part.length_eq
  simp only [List.length_append, elems_len, List.length_range'] at this
  omega
theorem Inv.sec (h : Inv f n xs L W) {c : Ch} (hc : c ∈ L) {k : Nat} (hk : k ∈ c.secs) : f ≤ k ∧ k < n ∧ hasB xs k = false ∧ k ∉ W := by
  have hm : k ∈ allS L := List.mem_flatMap.2 ⟨c, hc, hk⟩
  have hb := h.mem.1 (.inr (.inr hm))
  have hn := h.nodup
  rw [List.nodup_append] at hn
  obtain ⟨_, h2, h3⟩ := hn
  rw [List.nodup_append] at h2
  refine ⟨hb.1, hb.2, ?_, fun hw => h2.2.2 k hw k hm rfl⟩
  rw [← Bool.not_eq_true, ← mem_elems h.ok]
  intro hx
  exact h3 k hx k (by simp [hm]) rfl
theorem Inv.place (h : Inv f n xs L W) {c : Ch} (hc : c ∈ L) : f ≤ c.place ∧ c.place < n :=
  ⟨(h.sec hc (place_mem (h.ne c hc))).1, (h.sec hc (place_mem (h.ne c hc))).2.1⟩
theorem Inv.wait (h : Inv f n xs L W) {k : Nat} (hk : k ∈ W) : f ≤ k ∧ k < n ∧ hasB xs k = false := by
  have hb := h.mem.1 (.inr (.inl hk))
  have hn := h.nodup
  rw [List.nodup_append] at hn
  refine ⟨hb.1, hb.2, ?_⟩
  rw [← Bool.not_eq_true, ← mem_elems h.ok]
  intro hx
  exact hn.2.2 k hx k (by simp [hk]) rfl
theorem Inv.wnodup (h : Inv f n xs L W) : W.Nodup := by
  have hn := h.nodup
  rw [List.nodup_append, List.nodup_append] at hn
  exact hn.2.1.1
theorem Inv.snodup (h : Inv f n xs L W) : (allS L).Nodup := by
  have hn := h.nodup
  rw [List.nodup_append, List.nodup_append] at hn
  exact hn.2.1.2.1
theorem Inv.wlen (h : Inv f n xs L W) : W.length ≤ 4096 := by have := h.len; have := h.hi; omega
theorem Inv.llen (h : Inv f n xs L W) : L.length ≤ 4096 := by
  have h1 := h.len
  have h2 := h.hi
  have h3 : L.length ≤ (allS L).length := by
    have hne := h.ne
    clear h h1 h2
    induction L with
    | nil => simp
    | cons c l ih =>
      have := ih (fun x hx => hne x (by simp [hx]))
      have := List.length_pos_iff.2 (hne c (by simp))
      simp [allS] at *
      omega
  omega
theorem Inv.slen (h : Inv f n xs L W) {c : Ch} (hc : c ∈ L) : c.secs.length ≤ 4096 := by
  have h1 := h.len
  have h2 := h.hi
  have h3 : c.secs.length ≤ (allS L).length := by
    have : c.secs.Sublist (allS L) := by
      obtain ⟨a, b, rfl⟩ := List.append_of_mem hc
      unfold allS
      rw [List.flatMap_append, List.flatMap_cons]
      exact (List.sublist_append_left _ _).trans (List.sublist_append_right _ _)
    exact this.length_le
  omega
/-- The chain of a place. -/
def findC (L : List Ch) (p : Int) : Option Ch := L.find? fun c => decide ((c.place : Int) = p)
theorem findC_some {p : Int} {c : Ch} (h : findC L p = some c) : c ∈ L ∧ (c.place : Int) = p := ⟨List.mem_of_find?_eq_some h, by simpa using List.find?_some h⟩
theorem findC_none {p : Int} : findC L p = none ↔ ∀ c ∈ L, (c.place : Int) ≠ p := by simp [findC, List.find?_eq_none]
theorem Srt.inj (hs : Srt L) {a b : Ch} (ha : a ∈ L) (hb : b ∈ L) (h : a.place = b.place) : a = b := by
  induction L with
  | nil => cases ha
  | cons c l ih =>
    obtain ⟨h1, h2⟩ := List.pairwise_cons.1 hs
    rcases List.mem_cons.1 ha with rfl | ha' <;> rcases List.mem_cons.1 hb with rfl | hb'
    · rfl
    · have := h1 b hb'; omega
    · have := h1 a ha'; omega
    · exact ih h2 ha' hb'
theorem findC_mem (hs : Srt L) {c : Ch} (hc : c ∈ L) : findC L c.place = some c := by
  cases h : findC L c.place with
  | none => exact absurd rfl (findC_none.1 h c hc)
  | some d =>
    obtain ⟨h1, h2⟩ := findC_some h
    rw [hs.inj h1 hc (by omega)]
/-- A chain comes in, in its order. -/
def insC (c : Ch) : List Ch → List Ch
  | [] => [c]
  | y :: l => if y.place < c.place then y :: insC c l else c :: y :: l
theorem insC_perm (c : Ch) : ∀ L : List Ch, (insC c L).Perm (c :: L)
  | [] => .refl _
  | y :: l => by
    unfold insC
    split
    · exact ((insC_perm c l).cons y).trans (.swap c y l)
    · exact .refl _
theorem insC_mem {c x : Ch} : x ∈ insC c L ↔ x = c ∨ x ∈ L := by rw [(insC_perm c L).mem_iff, List.mem_cons]
theorem insC_srt {c : Ch} : ∀ {L : List Ch}, Srt L → (∀ x ∈ L, x.place ≠ c.place) → Srt (insC c L)
  | [], _, _ => by simp [insC, Srt]
  | y :: l, hs, hn => by
    obtain ⟨h1, h2⟩ := List.pairwise_cons.1 hs
    have hy := hn y (by simp)
    unfold insC
    split
    · refine List.pairwise_cons.2 ⟨fun x hx => ?_, insC_srt h2 (fun x hx => hn x (by simp [hx]))⟩
      rcases insC_mem.1 hx with rfl | hx
      · assumption
      · exact h1 x hx
    · refine List.pairwise_cons.2 ⟨fun x hx => ?_, hs⟩
      rcases List.mem_cons.1 hx with rfl | hx
      · omega
      · have := h1 x hx; omega
theorem insC_at {c : Ch} : ∀ {L : List Ch} (k : Nat), k ≤ L.length → (∀ (i : Nat) (x : Ch), i < k → L[i]? = some x → x.place < c.place) → (∀ x, L[k]? = some x → ¬ x.place < c.place) → insC c L = L.take k ++ c :: L.drop k
  | [], k, hk, _, _ => by simp [insC]
  | y :: l, 0, _, _, h2 => by
    have := h2 y rfl
    simp [insC, this]
  | y :: l, k + 1, hk, h1, h2 => by
    have hy := h1 0 y (by omega) rfl
    simp only [insC, hy, if_true, List.take_succ_cons, List.drop_succ_cons, List.cons_append]
    rw [insC_at k (by simpa using hk) (fun i x hi hx => h1 (i + 1) x (by omega) hx) (fun x hx => h2 x hx)]
/-- A chain goes. -/
def eraC (L : List Ch) (p : Int) : List Ch := L.filter fun c => !decide ((c.place : Int) = p)
theorem eraC_mem {p : Int} {x : Ch} : x ∈ eraC L p ↔ x ∈ L ∧ (x.place : Int) ≠ p := by simp [eraC]
theorem eraC_srt (hs : Srt L) (p : Int) : Srt (eraC L p) := hs.filter _
theorem eraC_perm (hs : Srt L) {c : Ch} {p : Int} (hc : findC L p = some c) : L.Perm (c :: eraC L p) := by
  induction L with
  | nil => cases hc
  | cons y l ih =>
    obtain ⟨h1, h2⟩ := List.pairwise_cons.1 hs
    unfold findC at hc
    rw [List.find?_cons] at hc
    unfold eraC
    rw [List.filter_cons]
    by_cases hy : (y.place : Int) = p
    · rw [decide_eq_true hy] at hc ⊢
      injection hc with hc
      subst hc
      have : l.filter (fun c => !decide ((c.place : Int) = p)) = l := by
        rw [List.filter_eq_self]
        intro x hx
        have := h1 x hx
        simp
        omega
      simp [this]
    · rw [decide_eq_false hy] at hc ⊢
      exact ((ih h2 hc).cons y).trans (.swap c y _)
theorem eraC_at {p : Int} (hs : Srt L) {i : Nat} {c : Ch} (hi : L[i]? = some c) (hp : (c.place : Int) = p) : eraC L p = L.take i ++ L.drop (i + 1) := by
  have hlt := (List.getElem?_eq_some_iff.1 hi).1
  have hsp : L = L.take i ++ c :: L.drop (i + 1) := by
    have : L[i] = c := (List.getElem?_eq_some_iff.1 hi).2
    rw [← this, List.getElem_cons_drop, List.take_append_drop]
  have hs' := hs
  rw [hsp] at hs'
  obtain ⟨_, h2, h3⟩ := List.pairwise_append.1 hs'
  obtain ⟨h4, _⟩ := List.pairwise_cons.1 h2
  conv => lhs; rw [hsp]
  unfold eraC
  rw [List.filter_append, List.filter_cons, decide_eq_true hp]
  have e1 : (L.take i).filter (fun c => !decide ((c.place : Int) = p)) = L.take i := by
    rw [List.filter_eq_self]
    intro x hx
    have := h3 x hx c (by simp)
    simp
    omega
  have e2 : (L.drop (i + 1)).filter (fun c => !decide ((c.place : Int) = p)) = L.drop (i + 1) := by
    rw [List.filter_eq_self]
    intro x hx
    have := h4 x hx
    simp
    omega
  rw [e1, e2]
  rfl
/-- A chain is another one, at its place. -/
def setC (L : List Ch) (p : Int) (g : Ch → Ch) : List Ch := L.map fun c => if (c.place : Int) = p then g c else c
theorem setC_places {p : Int} {g : Ch → Ch} (hg : ∀ c, (g c).secs = c.secs) : (setC L p g).map Ch.secs = L.map Ch.secs := by
  unfold setC
  rw [List.map_map]
  apply List.map_congr_left
  intro c _
  simp only [Function.comp]
  split
  · exact hg c
  · rfl
theorem srt_secs {L M : List Ch} (hs : Srt L) (h : M.map Ch.secs = L.map Ch.secs) : Srt M := by
  have e : ∀ N : List Ch, Srt N ↔ (N.map Ch.secs).Pairwise (fun a b => a.headD 0 < b.headD 0) := by
    intro N
    rw [List.pairwise_map]
    exact Iff.rfl
  rw [e, h, ← e]
  exact hs
theorem allS_secs {L M : List Ch} (h : M.map Ch.secs = L.map Ch.secs) : allS M = allS L := by
  unfold allS
  rw [List.flatMap_def, List.flatMap_def, h]
/-- Same sectors, right references: still right. -/
theorem Inv.secs {M : List Ch} (h : Inv f n xs L W) (he : M.map Ch.secs = L.map Ch.secs) (hr : ∀ c ∈ M, 1 ≤ c.refs ∧ c.refs ≤ 65535) : Inv f n xs M W :=
  ⟨h.ok, h.lt, h.hi, srt_secs h.srt he, fun c hc => by
    have hm : c.secs ∈ M.map Ch.secs := List.mem_map.2 ⟨c, hc, rfl⟩
    rw [he] at hm
    obtain ⟨d, hd, e⟩ := List.mem_map.1 hm
    rw [← e]
    exact h.ne d hd, hr, by rw [allS_secs he]; exact h.part⟩
/-- All are sure. -/
def sureC (L : List Ch) : List Ch := L.map fun c => { c with sure := true }
theorem sureC_secs (L : List Ch) : (sureC L).map Ch.secs = L.map Ch.secs := by simp [sureC, Function.comp_def]
theorem perm_elems {n : Nat} {xs ys : List Sp} (hx : Ok n xs) (hy : Ok n ys) {l : List Nat} (hl : (elems ys ++ l).Nodup) (h : ∀ k, hasB xs k = true ↔ hasB ys k = true ∨ k ∈ l) : (elems xs).Perm (elems ys ++ l) := by
  have hnx : (elems xs).Nodup := (elems_lt hx).imp (fun h => Nat.ne_of_lt h)
  rw [List.perm_ext_iff_of_nodup hnx hl]
  intro k
  rw [List.mem_append, mem_elems hx, mem_elems hy, h k]
end
end Go.Alloc
