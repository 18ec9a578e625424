/- Acts that come in; what was sure, and waits, plainly. Conditions: none. -/
import Derived.Test.YtnpjbddannkgfaaWhB
namespace Go.Proofs.Ytnpjbddannkgfaa
open Go.ChangeShapes Go.WideShapes Go.RowKit Go.Maps Go.Spans Go.Alloc
set_option maxRecDepth 100000
structure Ac where
  what : Nat
  n : Int
/-- The acts lie from A on, below block B. -/
def Acts (w : World) (B : Nat) (A : Option Addr) (l : List Ac) : Prop := ∀ i x, l[i]? = some x →
  ∃ ad, A = some ad ∧ (ad.add (i * 2)).block < B ∧ w.cell? (ad.add (i * 2)) = some (.int .u8 (x.what : Nat)) ∧ w.cell? ⟨(ad.add (i * 2)).block, (ad.add (i * 2)).off + 1, none⟩ = some (.int .i64 x.n) ∧ i64r x.n
theorem Acts.at {W : World} {A : Option Addr} {l : List Ac} (h : Acts W W.heap.size A l) {k : Nat} {x : Ac} (hx : l[k]? = some x) : ∃ ad, A = some ad ∧ i64r x.n ∧ ∀ w, Below W.heap.size W w →
    w.cell? (ad.add (k * 2)) = some (.int .u8 (x.what : Nat)) ∧ w.cell? ⟨(ad.add (k * 2)).block, (ad.add (k * 2)).off + 1, none⟩ = some (.int .i64 x.n) := by
  obtain ⟨ad, e, hB, c0, c1, h1⟩ := h k x hx
  exact ⟨ad, e, h1, fun w hb => ⟨(hb.cell (p := ad.add (k * 2)) hB).trans c0, (hb.cell (p := ⟨(ad.add (k * 2)).block, (ad.add (k * 2)).off + 1, none⟩) hB).trans c1⟩⟩
/-- What was sure at the last Commit waits, or is still of a sure chain. -/
def Still (S : List Nat) (L : List Ch) (W : List Nat) : Prop := ∀ k ∈ S, k ∈ W ∨ ∃ c ∈ L, c.sure = true ∧ k ∈ c.secs
section
variable {S : List Nat} {L : List Ch} {W W' : List Nat} {f n : Nat} {xs ys : List Sp}
theorem still_ins (h : Still S L W) (c : Ch) : Still S (insC c L) W := fun k hk => by
  rcases h k hk with e | ⟨d, hd, e⟩
  · exact .inl e
  · exact .inr ⟨d, insC_mem.2 (.inr hd), e⟩
theorem still_set (h : Still S L W) (p : Int) {g : Ch → Ch} (h1 : ∀ c, (g c).secs = c.secs) (h2 : ∀ c, (g c).sure = c.sure) : Still S (setC L p g) W := fun k hk => by
  rcases h k hk with e | ⟨d, hd, e1, e2⟩
  · exact .inl e
  · refine .inr ⟨_, List.mem_map.2 ⟨d, hd, rfl⟩, ?_, ?_⟩
    · split
      · rw [h2]; exact e1
      · exact e1
    · split
      · rw [h1]; exact e2
      · exact e2
theorem still_hold (h : Still S L W) (p : Int) : Still S (holdL L p) W := by
  unfold holdL
  split
  · exact h
  · split
    · exact h
    · exact still_set h p (fun _ => rfl) (fun _ => rfl)
theorem still_drop (h : Still S L W) (hs : Srt L) (p : Int) (hd : dropS L p xs ys W W') : Still S (dropL' L p) W' := by
  unfold dropS at hd
  unfold dropL'
  cases hf : findC L p with
  | none => rw [hf] at hd; simp only at hd ⊢; rw [hd.2]; exact h
  | some c =>
    rw [hf] at hd
    simp only at hd ⊢
    obtain ⟨hc, ep⟩ := findC_some hf
    by_cases c1 : c.refs ≤ 1
    · simp only [c1, if_true] at hd ⊢
      intro k hk
      cases hsr : c.sure with
      | true =>
        rw [hsr] at hd
        simp only [if_true] at hd
        rcases h k hk with e | ⟨d, hd2, e1, e2⟩
        · exact .inl (hd.2.mem_iff.2 (by simp [e]))
        · by_cases hp : ((d.place : Nat) : Int) = p
          · have : d = c := hs.inj hd2 hc (by omega)
            subst this
            exact .inl (hd.2.mem_iff.2 (by simp [e2]))
          · exact .inr ⟨d, eraC_mem.2 ⟨hd2, hp⟩, e1, e2⟩
      | false =>
        rw [hsr] at hd
        simp only [Bool.false_eq_true, if_false] at hd
        rcases h k hk with e | ⟨d, hd2, e1, e2⟩
        · rw [hd.1]; exact .inl e
        · by_cases hp : ((d.place : Nat) : Int) = p
          · have : d = c := hs.inj hd2 hc (by omega)
            subst this
            rw [hsr] at e1
            cases e1
          · exact .inr ⟨d, eraC_mem.2 ⟨hd2, hp⟩, e1, e2⟩
    · simp only [c1, if_false] at hd ⊢
      rw [hd.2]
      exact still_set h p (fun _ => rfl) (fun _ => rfl)
/-- What is handed out was free: so it was not sure. -/
theorem still_new (h : Still S L W) (hi : Go.Alloc.Inv f n xs L W) {k : Int} (hE : takeE xs k = 0) : ∀ s ∈ takeL xs k, s ∉ S ∧ f ≤ s ∧ s < n := by
  intro s hs
  obtain ⟨_, _, e1, _, _⟩ := take_facts hi.ok hE
  have hx : hasB xs s = true := (mem_elems hi.ok).1 (by rw [e1] at hs; exact List.mem_of_mem_take hs)
  have hm := hi.mem.1 (.inl hx)
  refine ⟨fun hS => ?_, hm.1, hm.2⟩
  rcases h s hS with e | ⟨c, hc, _, e2⟩
  · have := (hi.wait e).2.2
    rw [hx] at this; cases this
  · have := (hi.sec hc e2).2.2.1
    rw [hx] at this; cases this
theorem still_all : Still (allS (sureC L)) (sureC L) [] := fun k hk => by
  obtain ⟨c, hc, e⟩ := List.mem_flatMap.1 hk
  refine .inr ⟨c, hc, ?_, e⟩
  obtain ⟨d, _, rfl⟩ := List.mem_map.1 hc
  rfl
end
/-- How the loop of AllocParts stands. -/
structure Pa (W wr : World) (A f n : Nat) (xs : List Sp) (L : List Ch) (Wt : List Nat) (G : Nat) (S : List Nat) : Prop where
  oi : Oi W.heap.size W wr A f n xs L Wt
  row : Is wr G 3 (ofA S n)
  still : Still S L Wt
theorem Pa.later {W wr w' : World} {A f n : Nat} {xs : List Sp} {L : List Ch} {Wt : List Nat} {G : Nat} {S : List Nat} (h : Pa W wr A f n xs L Wt G S) (hb : Below wr.heap.size wr w') : Pa W w' A f n xs L Wt G S :=
  ⟨h.oi.later hb, (Kp.of_below hb []).is h.row (by simp), h.still⟩
end Go.Proofs.Ytnpjbddannkgfaa
