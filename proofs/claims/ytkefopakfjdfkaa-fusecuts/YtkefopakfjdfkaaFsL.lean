/- Two lines beside each other; run to the end, and run to a number. Conditions: none. -/
import Derived.Test.YtkefopakfjdfkaaFsK
namespace Go.Proofs.Ytkefopakfjdfkaa
open Go.ChangeShapes Go.WideShapes Go.RowKit Go.Maps
set_option maxRecDepth 100000
theorem Sw.off {w w' : World} {g : Nat} {v : Value} {xs : List Int} {X : List Nat} (h : Sw w g v xs) (hk : Kp w w' X) (hX : ∀ y ∈ X, v.ownBlock ≠ some y ∨ ∀ a u, a.block = y → w.cell? a ≠ some u) : Sw w' g v xs := by
  obtain ⟨a, c, rfl, hx⟩ := h
  refine ⟨a, c, rfl, fun j x hj => ?_⟩
  obtain ⟨ad, rfl, hlt, hc⟩ := hx j x hj
  refine ⟨ad, rfl, hlt, ?_⟩
  have hb : (ad.add j).block < w.heap.size := World.block_lt_of_cell? w _ hc
  have hadd : (ad.add j).block = ad.block := by unfold Addr.add; split <;> rfl
  have hn : (ad.add j).block ∉ X := fun hm => by
    rcases hX _ hm with h1 | h1
    · exact h1 (by rw [hadd]; rfl)
    · exact h1 _ _ rfl hc
  unfold World.cell? at hc ⊢
  rw [hk.block _ hb hn]
  exact hc
/-- Two lines to two devices, the second one made behind the first. -/
structure Tl (W w : World) (F B b c G B' b' c' : Nat) (s s' : List Cel × Nat × Bool) (z : Int) (u u' : Value) (xs : List Int) : Prop where
  la : Los W w F B b c z u xs s
  lb : Los W w G B' b' c' (-1) u' xs s'
  lt : F < G
  ne : b ≠ b' ∧ b ≠ c' ∧ c ≠ b' ∧ c ≠ c'
  own : u'.ownBlock ≠ some F
section
variable {W w w' : World} {F B b c G B' b' c' : Nat} {s s' s2 : List Cel × Nat × Bool} {z : Int} {u u' : Value} {xs : List Int}
theorem Tl.later (h : Tl W w F B b c G B' b' c' s s' z u u' xs) (hb : Below w.heap.size w w') : Tl W w' F B b c G B' b' c' s s' z u u' xs := ⟨h.la.later hb, h.lb.later hb, h.lt, h.ne, h.own⟩
theorem Tl.stepA (h : Tl W w F B b c G B' b' c' s s' z u u' xs) (ha : Los W w' F B b c z u xs s2) (hk : Kp w w' [F, b, c]) : Tl W w' F B b c G B' b' c' s2 s' z u u' xs := by
  have h1 := h.la.ln.one.nomap h.lb.ln.dev
  have h2 := h.lb.ln.one.nomap h.la.ln.dev
  have h3 := h.la.ln.one.ne h.lb.ln.dev.one (by decide)
  have h4 := h.lb.ln.dev.one.nomap h.la.ln.dev
  have hlt := h.lt
  have hne := h.ne
  have hn := h.la.new
  refine ⟨ha, ⟨⟨hk.is h.lb.ln.one (by simp; omega), h.lb.ln.dev.kept hk (by simp; omega) (by simp; omega) (by simp; omega), h.lb.ln.ch.off hk (fun y hy => ?_), h.lb.ln.ne⟩, h.lb.below.trans (hk.below h.lb.below.size (fun x hx => by simp at hx; omega)), h.lb.new⟩, h.lt, h.ne, h.own⟩
  simp at hy
  rcases hy with rfl | rfl | rfl
  · exact .inl h.own
  · exact .inr (fun a v e => h.la.ln.dev.nocell _ (by simp) a v e)
  · exact .inr (fun a v e => h.la.ln.dev.nocell _ (by simp) a v e)
theorem Tl.stepB (h : Tl W w F B b c G B' b' c' s s' z u u' xs) (hb : Los W w' G B' b' c' (-1) u' xs s2) (hk : Kp w w' [G, b', c']) : Tl W w' F B b c G B' b' c' s s2 z u u' xs := by
  have h1 := h.la.ln.one.nomap h.lb.ln.dev
  have h2 := h.lb.ln.one.nomap h.la.ln.dev
  have h3 := h.lb.ln.one.ne h.la.ln.dev.one (by decide)
  have h4 := h.la.ln.dev.one.nomap h.lb.ln.dev
  have hlt := h.lt
  have hne := h.ne
  have hn := h.lb.new
  refine ⟨⟨⟨hk.is h.la.ln.one (by simp; omega), h.la.ln.dev.kept hk (by simp; omega) (by simp; omega) (by simp; omega), h.la.ln.ch.turn hk (fun y hy => ?_), h.la.ln.ne⟩, h.la.below.trans (hk.below h.la.below.size (fun x hx => by simp at hx; omega)), h.la.new⟩, hb, h.lt, h.ne, h.own⟩
  simp at hy
  rcases hy with rfl | rfl | rfl
  · exact .inl (by omega)
  · exact .inr (fun a v e => h.lb.ln.dev.nocell _ (by simp) a v e)
  · exact .inr (fun a v e => h.lb.ln.dev.nocell _ (by simp) a v e)
theorem Own.from {w1 : World} {st : List Cel} (h : Own w1 w B b c st) (hb : Below W.heap.size W w1) : Own W w B b c st :=
  ⟨h.dev, hb.trans (h.below.mono hb.size), by have := hb.size; have := h.new; omega⟩
end
section
variable {W w : World} {F B b c : Nat} {st : List Cel} {z : Int} {u : Value} {xs : List Int} {A : Option Addr} {l : List Ac} {cap : Nat}
theorem run_all (h : Lo W w F B b c st z u xs 0 false) (hl : l.length ≤ 80) (hA : Acts W W.heap.size A l) :
    Calls Try.prog 22 #[.pointer (some ⟨F, 0, none⟩), .slice A l.length cap, .int .i64 100] w fun e w' => e = .returned (.int .i64 (seen l l.length : Nat)) ∧ Los W w' F B b c z u xs (lst st xs z l l.length) ∧ Kp w w' [F, b, c] := by
  refine (run_any h hl hA 100 (by decide)).mono ?_
  rintro e w' ⟨i, hi, hor, rfl, hR⟩
  obtain rfl : i = l.length := by
    rcases hor with e | e
    · exact e
    · have := seen_le l i; omega
  exact ⟨rfl, hR.lo, hR.kp⟩
theorem run_to (h : Lo W w F B b c st (-1) u xs 0 false) (hl : l.length ≤ 80) (hA : Acts W W.heap.size A l) (m : Nat) (hm : m ≤ seen l l.length) (hm2 : m ≤ 1000) (S : List Cel) (hS : ∀ i, seen l i = m → dvA st l i = S) :
    Calls Try.prog 22 #[.pointer (some ⟨F, 0, none⟩), .slice A l.length cap, .int .i64 (m : Int)] w fun e w' => ∃ r, e = .returned (.int .i64 r) ∧ Los W w' F B b c (-1) u xs (S, m, false) ∧ Kp w w' [F, b, c] := by
  refine (run_any h hl hA m hm2).mono ?_
  rintro e w' ⟨i, hi, hor, rfl, hR⟩
  have hs : seen l i = m := by
    have := hR.le
    rcases hor with e | e
    · subst e; omega
    · omega
  have e1 := lst_go st xs (-1) l i (fun k _ => by omega)
  have hlo := hR.lo
  rw [e1, hs, hS i hs] at hlo
  exact ⟨_, rfl, hlo, hR.kp⟩
end
end Go.Proofs.Ytkefopakfjdfkaa
