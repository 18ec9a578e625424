/- Lists of chains in memory; what is loaded of them, plainly. Conditions: none. -/
import Derived.Test.YtnpjbddannkgfaaAlK
namespace Go.Proofs.Ytnpjbddannkgfaa
open Go.ChangeShapes Go.WideShapes Go.RowKit Go.Maps Go.Spans Go.Alloc
set_option maxRecDepth 100000
/-- A chain that is told: place, references, the others and where they lie. -/
structure Od where
  p : Int
  r : Int
  P : Option Addr
  c : Nat
  rest : List Int
abbrev Od.v (x : Od) : Value := .slice x.P x.rest.length x.c
def Od.secs (x : Od) : List Int := x.p :: x.rest
def i64r (x : Int) : Prop := -9223372036854775808 ≤ x ∧ x ≤ 9223372036854775807
/-- Numbers lie from P on, below block B. -/
def Nb (w : World) (B : Nat) (P : Option Addr) (xs : List Int) : Prop := ∀ j x, xs[j]? = some x → ∃ ad, P = some ad ∧ (ad.add j).block < B ∧ w.cell? (ad.add j) = some (.int .i64 x)
theorem Nb.kept {w w' : World} {B : Nat} {P : Option Addr} {xs : List Int} (h : Nb w B P xs) (hb : Below B w w') : Nb w' B P xs := fun j x hj => by
  obtain ⟨ad, e, hB, hc⟩ := h j x hj
  exact ⟨ad, e, hB, (hb.cell (p := ad.add j) hB).trans hc⟩
theorem Nb.sl {w : World} {B : Nat} {P : Option Addr} {xs : List Int} (h : Nb w B P xs) (c : Nat) : Sl w (.slice P xs.length c) xs :=
  ⟨P, c, rfl, fun j x hj => by obtain ⟨ad, e, _, hc⟩ := h j x hj; exact ⟨ad, e, hc⟩⟩
theorem Nb.of_sl {w : World} {P : Option Addr} {n c : Nat} {xs : List Int} (h : Sl w (.slice P n c) xs) : Nb w w.heap.size P xs := by
  obtain ⟨a, c', e, hx⟩ := h
  injection e with e _ _
  subst e
  intro j x hj
  obtain ⟨ad, e, hc⟩ := hx j x hj
  exact ⟨ad, e, World.block_lt_of_cell? w _ hc, hc⟩
/-- Chains lie from A on, below block B. -/
def Ls (w : World) (B : Nat) (A : Option Addr) (l : List Od) : Prop := ∀ i x, l[i]? = some x → Nb w B x.P x.rest ∧ (i64r x.p ∧ i64r x.r ∧ ∀ y ∈ x.rest, i64r y) ∧
  ∃ ad, A = some ad ∧ (ad.add (i * 3)).block < B ∧ w.cell? (ad.add (i * 3)) = some (.int .i64 x.p) ∧ w.cell? ⟨(ad.add (i * 3)).block, (ad.add (i * 3)).off + 1, none⟩ = some (.int .i64 x.r) ∧ w.cell? ⟨(ad.add (i * 3)).block, (ad.add (i * 3)).off + 2, none⟩ = some x.v
theorem Ls.kept {w w' : World} {B : Nat} {A : Option Addr} {l : List Od} (h : Ls w B A l) (hb : Below B w w') : Ls w' B A l := by
  intro i x hx
  obtain ⟨h1, h2, ad, e, hB, c0, c1, c2⟩ := h i x hx
  exact ⟨h1.kept hb, h2, ad, e, hB, (hb.cell (p := ad.add (i * 3)) hB).trans c0, (hb.cell (p := ⟨(ad.add (i * 3)).block, (ad.add (i * 3)).off + 1, none⟩) hB).trans c1, (hb.cell (p := ⟨(ad.add (i * 3)).block, (ad.add (i * 3)).off + 2, none⟩) hB).trans c2⟩
/-- All sectors that a list tells of. -/
def allO (l : List Od) : List Int := l.flatMap Od.secs
/-- May this list be loaded? -/
def loadOK (f n : Nat) (l : List Od) : Prop := (∀ o ∈ l, 1 ≤ o.r ∧ o.r ≤ 65535) ∧ (allO l).Nodup ∧ ∀ a ∈ allO l, (f : Int) ≤ a ∧ a < n
def Od.ch (o : Od) : Ch := ⟨o.secs.map Int.toNat, o.r.toNat, true⟩
def loadL (l : List Od) : List Ch := l.foldl (fun L o => insC o.ch L) []
theorem loadL_snoc (l : List Od) (x : Od) : loadL (l ++ [x]) = insC x.ch (loadL l) := by simp [loadL, List.foldl_append]
theorem allO_snoc (l : List Od) (x : Od) : allO (l ++ [x]) = allO l ++ x.secs := by simp [allO]
theorem loadL_perm : ∀ l : List Od, (loadL l).Perm (l.map Od.ch).reverse := by
  intro l
  unfold loadL
  suffices h : ∀ (l : List Od) (L : List Ch), (l.foldl (fun L o => insC o.ch L) L).Perm ((l.map Od.ch).reverse ++ L) by simpa using h l []
  intro l
  induction l with
  | nil => intro L; simp
  | cons a l ih =>
    intro L
    simp only [List.foldl_cons, List.map_cons, List.reverse_cons, List.append_assoc, List.singleton_append]
    exact (ih _).trans (List.Perm.append_left _ (insC_perm _ _))
theorem loadL_mem {l : List Od} {c : Ch} : c ∈ loadL l ↔ ∃ o ∈ l, o.ch = c := by
  rw [(loadL_perm l).mem_iff]
  simp
theorem ch_place (o : Od) : o.ch.place = o.p.toNat := rfl
theorem loadL_allS (l : List Od) : (allS (loadL l)).Perm ((allO l).map Int.toNat) := by
  unfold allS allO
  refine (List.Perm.flatMap_right _ (loadL_perm l)).trans ?_
  refine (List.Perm.flatMap_right _ (List.reverse_perm _)).trans ?_
  rw [List.flatMap_map, List.map_flatMap]
  exact .refl _
theorem loadOK_nn {f n : Nat} {l : List Od} (h : loadOK f n l) : ∀ a ∈ allO l, 0 ≤ a := fun a ha => by have := (h.2.2 a ha).1; omega
theorem loadL_srt {f n : Nat} : ∀ {l : List Od}, loadOK f n l → Srt (loadL l) := by
  intro l h
  suffices hh : ∀ (k : Nat), k ≤ l.length → Srt (loadL (l.take k)) by
    have := hh l.length (Nat.le_refl _)
    rwa [List.take_length] at this
  intro k
  induction k with
  | zero => intro _; simp [loadL, Srt]
  | succ k ih =>
    intro hk
    have hx : l[k]? = some (l[k]'(by omega)) := List.getElem?_eq_getElem _
    have e : l.take (k + 1) = l.take k ++ [l[k]'(by omega)] := by rw [List.take_add_one, hx]; rfl
    rw [e, loadL_snoc]
    refine insC_srt (ih (by omega)) fun y hy => ?_
    obtain ⟨o, ho, rfl⟩ := loadL_mem.1 hy
    rw [ch_place, ch_place]
    have hnd := h.2.1
    have hsub : allO (l.take (k + 1)) |>.Sublist (allO l) := by
      conv => rhs; rw [← List.take_append_drop (k + 1) l]
      unfold allO
      rw [List.flatMap_append]
      exact List.sublist_append_left _ _
    have hnd2 := hnd.sublist hsub
    rw [e, allO_snoc] at hnd2
    have hop : o.p ∈ allO (l.take k) := List.mem_flatMap.2 ⟨o, ho, by simp [Od.secs]⟩
    have hxp : (l[k]'(by omega)).p ∈ (l[k]'(by omega)).secs := by simp [Od.secs]
    have hne := (List.nodup_append.1 hnd2).2.2 _ hop _ hxp
    have h1 := loadOK_nn h o.p (hsub.subset (by rw [e, allO_snoc]; simp [hop]))
    have h2 := loadOK_nn h (l[k]'(by omega)).p (hsub.subset (by rw [e, allO_snoc]; simp [hxp]))
    omega
/-- One more. -/
theorem load_step {f n : Nat} {us : List Sp} {l : List Od} {k : Nat} {x : Od} (hx : l[k]? = some x) (hu : loadOK f n (l.take k)) (hus : ∀ j, hasB us j = (decide (j < f) || decide (((j : Nat) : Int) ∈ allO (l.take k)))) :
    ((1 ≤ x.r ∧ x.r ≤ 65535) ∧ usable n us x.secs) ↔ loadOK f n (l.take (k + 1)) := by
  rw [List.take_add_one, hx, Option.toList_some]
  unfold loadOK usable
  rw [allO_snoc]
  constructor
  · rintro ⟨h1, h2, h3⟩
    have h4 : ∀ a ∈ x.secs, (f : Int) ≤ a ∧ a < n ∧ a ∉ allO (l.take k) := fun a ha => by
      obtain ⟨q1, q2, q3⟩ := h3 a ha
      rw [hus a.toNat, Bool.or_eq_false_iff, decide_eq_false_iff_not, decide_eq_false_iff_not, show ((a.toNat : Nat) : Int) = a by omega] at q3
      exact ⟨by omega, q2, q3.2⟩
    refine ⟨fun o ho => ?_, List.nodup_append.2 ⟨hu.2.1, h2, fun a ha b hb => ?_⟩, fun a ha => ?_⟩
    · rcases List.mem_append.1 ho with ho | ho
      · exact hu.1 o ho
      · simp at ho; subst ho; exact h1
    · rintro rfl
      exact (h4 a hb).2.2 ha
    · rcases List.mem_append.1 ha with ha | ha
      · exact hu.2.2 a ha
      · exact ⟨(h4 a ha).1, (h4 a ha).2.1⟩
  · rintro ⟨h1, h2, h3⟩
    have hn := List.nodup_append.1 h2
    refine ⟨h1 x (by simp), hn.2.1, fun a ha => ?_⟩
    obtain ⟨q1, q2⟩ := h3 a (by simp [ha])
    refine ⟨by omega, q2, ?_⟩
    rw [hus a.toNat, Bool.or_eq_false_iff, decide_eq_false_iff_not, decide_eq_false_iff_not, show ((a.toNat : Nat) : Int) = a by omega]
    exact ⟨by omega, fun hm => hn.2.2 a hm a ha rfl⟩
theorem load_take {f n : Nat} {l : List Od} {k : Nat} (h : loadOK f n l) : loadOK f n (l.take k) := by
  have hsub : (allO (l.take k)).Sublist (allO l) := by
    conv => rhs; rw [← List.take_append_drop k l]
    unfold allO
    rw [List.flatMap_append]
    exact List.sublist_append_left _ _
  exact ⟨fun o ho => h.1 o (List.mem_of_mem_take ho), h.2.1.sublist hsub, fun a ha => h.2.2 a (hsub.subset ha)⟩
/-- What is loaded is right. -/
theorem load_inv {f n : Nat} {xs : List Sp} {l : List Od} (h : loadOK f n l) (hf : f < n) (hn : n ≤ 4096) (hok : Ok n xs) (hxs : ∀ j, hasB xs j = (decide (f ≤ j ∧ j < n) && !decide (((j : Nat) : Int) ∈ allO l))) : Inv f n xs (loadL l) [] := by
  have hnn := loadOK_nn h
  have hS := loadL_allS l
  refine ⟨hok, hf, hn, loadL_srt h, fun c hc => ?_, fun c hc => ?_, ?_⟩
  · obtain ⟨o, _, rfl⟩ := loadL_mem.1 hc
    simp [Od.ch, Od.secs]
  · obtain ⟨o, ho, rfl⟩ := loadL_mem.1 hc
    have := h.1 o ho
    simp only [Od.ch]
    omega
  · have hmap : ((allO l).map Int.toNat).Nodup := by
      refine List.pairwise_map.2 (List.Pairwise.imp_of_mem (fun {a b} ha hb hne => ?_) h.2.1)
      have := hnn a ha
      have := hnn b hb
      have : a ≠ b := hne
      omega
    have hE : (elems xs).Nodup := (elems_lt hok).imp (fun h => Nat.ne_of_lt h)
    have hmem : ∀ j : Nat, j ∈ (allO l).map Int.toNat ↔ (j : Int) ∈ allO l := fun j => by
      rw [List.mem_map]
      constructor
      · rintro ⟨a, ha, rfl⟩
        have := hnn a ha
        rwa [show ((a.toNat : Nat) : Int) = a by omega]
      · intro hj
        exact ⟨_, hj, by omega⟩
    rw [List.nil_append]
    refine ((List.Perm.append_left _ hS).trans ?_)
    rw [List.perm_ext_iff_of_nodup (List.nodup_append.2 ⟨hE, hmap, fun a ha b hb => ?_⟩) List.nodup_range']
    · intro j
      rw [List.mem_append, mem_elems hok, hxs j, hmem j, List.mem_range'_1]
      simp only [Bool.and_eq_true, decide_eq_true_eq, Bool.not_eq_true', decide_eq_false_iff_not]
      constructor
      · rintro (⟨h1, _⟩ | h1)
        · omega
        · have := h.2.2 _ h1; omega
      · intro hj
        by_cases hm : ((j : Nat) : Int) ∈ allO l
        · exact .inr hm
        · exact .inl ⟨by omega, hm⟩
    · rintro rfl
      rw [mem_elems hok, hxs a, Bool.and_eq_true, Bool.not_eq_true', decide_eq_false_iff_not] at ha
      exact ha.2 ((hmem a).1 hb)
end Go.Proofs.Ytnpjbddannkgfaa
