/- What is loaded of a list of sure chains is that list, plainly. Conditions: none. -/
import Derived.Test.YtnpjbddannkgfaaPtA
namespace Go.Proofs.Ytnpjbddannkgfaa
open Go.ChangeShapes Go.WideShapes Go.RowKit Go.Maps Go.Spans Go.Alloc
set_option maxRecDepth 100000
theorem insC_last {c : Ch} : ∀ {L : List Ch}, (∀ x ∈ L, x.place < c.place) → insC c L = L ++ [c]
  | [], _ => rfl
  | y :: l, h => by
    have := h y (by simp)
    simp only [insC, this, if_true, List.cons_append]
    rw [insC_last (fun x hx => h x (by simp [hx]))]
/-- As a chain that is sure. -/
def Ch.sured (c : Ch) : Ch := { c with sure := true }
theorem od_ch {x : Od} {c : Ch} (h : tell' x = told c) (hne : c.secs ≠ []) : x.ch = Ch.sured c ∧ x.secs = nz c.secs := by
  injection h with h1 h2
  injection h2 with h2 h3
  have hs : x.secs = nz c.secs := by rw [secs_split hne]; unfold Od.secs; rw [h1, h3]
  refine ⟨?_, hs⟩
  unfold Od.ch Ch.sured
  rw [hs]
  have e1 : (nz c.secs).map Int.toNat = c.secs := by
    unfold nz
    rw [List.map_map]
    conv => rhs; rw [← List.map_id c.secs]
    apply List.map_congr_left
    intro a _
    simp
  rw [e1, h2]
  simp
theorem same_ch : ∀ {l : List Od} {L : List Ch}, l.map tell' = L.map told → (∀ c ∈ L, c.secs ≠ []) → l.map Od.ch = L.map Ch.sured ∧ allO l = nz (allS L)
  | [], [], _, _ => ⟨rfl, rfl⟩
  | [], c :: L, h, _ => by cases h
  | x :: l, [], h, _ => by cases h
  | x :: l, c :: L, h, hne => by
    rw [List.map_cons, List.map_cons] at h
    injection h with h1 h2
    obtain ⟨e1, e2⟩ := od_ch h1 (hne c (by simp))
    obtain ⟨e3, e4⟩ := same_ch h2 (fun d hd => hne d (by simp [hd]))
    refine ⟨by rw [List.map_cons, List.map_cons, e1, e3], ?_⟩
    unfold allO allS at e4 ⊢
    rw [List.flatMap_cons, List.flatMap_cons, e2, e4]
    simp [nz]
theorem loadL_sorted {l : List Od} {M : List Ch} (h : l.map Od.ch = M) (hs : Srt M) : loadL l = M := by
  suffices hh : ∀ k, k ≤ l.length → loadL (l.take k) = M.take k by
    have := hh l.length (Nat.le_refl _)
    have e : M.length = l.length := by rw [← h]; simp
    rwa [List.take_length, ← e, List.take_length] at this
  intro k
  induction k with
  | zero => intro _; simp [loadL]
  | succ k ih =>
    intro hk
    have hx : l[k]? = some (l[k]'(by omega)) := List.getElem?_eq_getElem _
    have hM : M[k]? = some (l[k]'(by omega)).ch := by rw [← h, List.getElem?_map, hx]; rfl
    have e : l.take (k + 1) = l.take k ++ [l[k]'(by omega)] := by rw [List.take_add_one, hx]; rfl
    rw [e, loadL_snoc, ih (by omega), insC_last, List.take_add_one, hM]
    · rfl
    · intro x hxm
      obtain ⟨i, hi, ei⟩ := List.getElem_of_mem hxm
      rw [List.getElem_take] at ei
      rw [List.length_take] at hi
      have hMk := List.getElem?_eq_some_iff.1 hM
      obtain ⟨hlt, ek⟩ := hMk
      have hp := List.pairwise_iff_getElem.1 hs i k (by omega) hlt (by omega)
      rw [ei, ek] at hp
      exact hp
/-- A right allocator's list can be loaded, and is what it tells. -/
theorem list_loads {f n : Nat} {xs : List Sp} {L : List Ch} {W : List Nat} (hi : Go.Alloc.Inv f n xs L W) {l : List Od} (h : l.map tell' = L.map told) : loadOK f n l ∧ loadL l = L.map Ch.sured ∧ allO l = nz (allS L) := by
  obtain ⟨e1, e2⟩ := same_ch h hi.ne
  have hsec : (L.map Ch.sured).map Ch.secs = L.map Ch.secs := by rw [List.map_map]; rfl
  refine ⟨⟨fun o ho => ?_, ?_, fun a ha => ?_⟩, loadL_sorted e1 (srt_secs hi.srt hsec), e2⟩
  · have hm : tell' o ∈ l.map tell' := List.mem_map.2 ⟨o, ho, rfl⟩
    rw [h] at hm
    obtain ⟨c, hc, e⟩ := List.mem_map.1 hm
    injection e with e1 e2
    injection e2 with e2 e3
    have := hi.refs c hc
    omega
  · rw [e2]
    refine List.pairwise_map.2 (List.Pairwise.imp ?_ hi.snodup)
    intro a b hab e
    exact hab (by omega)
  · rw [e2] at ha
    obtain ⟨z, hz, rfl⟩ := List.mem_map.1 ha
    have := hi.mem.1 (.inr (.inr hz))
    omega
theorem sured_sure (L : List Ch) : (sureC L).map Ch.sured = sureC L := by simp [sureC, Ch.sured]
theorem sureC_eq (L : List Ch) : L.map Ch.sured = sureC L := rfl
/-- Load of its own list. -/
theorem oi_load {B : Nat} {wB w : World} {f n : Nat} {xs : List Sp} {L : List Ch} {W : List Nat} (hi : Go.Alloc.Inv f n xs L W) (hB : Below B wB w) (hBs : B ≤ w.heap.size) {P : Option Addr} {l : List Od} (C m : Nat) (hl : Ls w w.heap.size P l) (hm : l.length = m) (hs : l.map tell' = L.map told) :
    Calls Try.prog 13 #[.int .i64 (f : Nat), .int .i64 (n : Nat), .slice P m C] w fun e w' => ∃ A ys, e = .returned (.tuple #[.pointer (some ⟨A, 0, none⟩), .int .i64 0]) ∧ Oi B wB w' A f n ys (sureC L) [] ∧ Below w.heap.size w w' ∧ ∀ j, hasB ys j = (decide (f ≤ j ∧ j < n) && !decide (j ∈ allS L)) := by
  subst hm
  obtain ⟨h1, h2, h3⟩ := list_loads hi hs
  have hlen : l.length = L.length := by have := congrArg List.length hs; simpa using this
  have hll := hi.llen
  refine (load_c f n hi.lt hi.hi C hl (by omega) (fun o ho => ?_)).mono ?_
  · have hm : tell' o ∈ l.map tell' := List.mem_map.2 ⟨o, ho, rfl⟩
    rw [hs] at hm
    obtain ⟨c, hc, e⟩ := List.mem_map.1 hm
    injection e with e1 e2
    injection e2 with e2 e3
    have := hi.slen hc
    rw [← e3]
    simp [nz]
    omega
  · rintro e w' (⟨_, A, S, v, bc, bw, ys, rfl, ho, hys⟩ | ⟨hn, _⟩)
    · have hinv := load_inv h1 hi.lt hi.hi ho.am.set.ok hys
      rw [h2, sureC_eq] at ho hinv
      refine ⟨A, ys, rfl, ⟨S, v, bc, bw, ⟨ho.am, Nat.le_trans hBs ho.loA, fun g hg => Nat.le_trans hBs (ho.lo g hg), hB.trans (ho.below.mono hBs)⟩, hinv⟩, ho.below, fun j => ?_⟩
      rw [hys j, h3]
      congr 2
      rw [decide_eq_decide]
      unfold nz
      rw [List.mem_map]
      constructor
      · rintro ⟨a, ha, e⟩
        have : a = j := by omega
        rwa [← this]
      · intro hj
        exact ⟨j, hj, rfl⟩
    · exact absurd h1 hn
end Go.Proofs.Ytnpjbddannkgfaa
