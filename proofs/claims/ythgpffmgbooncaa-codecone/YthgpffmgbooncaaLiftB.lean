/- What slices of things that are asked, and of bytes, say. Conditions: none. -/
import Derived.Test.YthgpffmgbooncaaLift
import Derived.Test.YthgpffmgbooncaaWalksL
namespace Go.Proofs.Ythgpffmgbooncaa
open Go.ChangeShapes Go.WideShapes Go.ChangeAt Go.RowKit Go.Deep
section
variable {H : Type} {enc : TypeId × Value → H} {W : World}
theorem some_ak {cs : List Value} {n : Nat} {x : DataW H × List MemPlace} {sp : Nat → Bool} {hd : Bool} {p : Addr} (hc : W.cells? 0 p 2 = some cs) (h : DataW.trod enc Try.prog W 0 sp hd n 49 cs = some x) :
    ∃ y : Ak, y.kind < 256 ∧ (-9223372036854775808 ≤ y.n ∧ y.n ≤ 9223372036854775807) ∧ p.block < W.heap.size ∧ W.cell? p = some (.int .u8 y.kind) ∧ W.cell? ⟨p.block, p.off + 1, none⟩ = some (.int .i64 y.n) := by
  obtain ⟨xs, m, _, _, hlen, hxl, hf⟩ := DataW.trod_struct Try.underlying49 h
  obtain ⟨_, hcl, hat⟩ := World.cells?_some hc
  match cs, hcl with
  | [c0, c1], _ =>
    match xs, hxl with
    | [y0, y1], _ =>
      have f0 := hf 0 _ rfl
      have f1 := hf 1 _ rfl
      simp [cells5, cells3] at f0 f1
      obtain ⟨k, hk, _, wk⟩ := DataW.trod_int Try.underlying5 f0
      obtain ⟨q, hq, _, wq⟩ := DataW.trod_int Try.underlying3 f1
      injection hk with hk; injection hq with hq
      subst hk; subst hq
      obtain ⟨k', rfl, hk'⟩ := wf_nat8 wk
      have a0 := hat 0 (by omega)
      have a1 := hat 1 (by omega)
      rw [add_zero] at a0
      rw [add_succ] at a1
      exact ⟨⟨k', q⟩, hk', wf_i64 wq, lt_of_cell a0, a0, a1⟩
theorem asks_of {v : Value} {d : DataW H} {ps : List MemPlace} {sp : Nat → Bool} {hd : Bool} {r : Reach} {b0 : Nat} (hval : Value.okWide Try.prog W r b0 41 v) (h : DataW.Trod enc Try.prog W 0 sp hd 41 v d ps) :
    ∃ (A : Option Addr) (xs : List Ak) (cap : Nat), v = .slice A xs.length cap ∧ xs.length ≤ maxLen ∧ Asks W W.heap.size A xs := by
  obtain ⟨a, len, cap, rfl⟩ := okWide_slice Try.underlying41 hval
  obtain ⟨fuel, hf⟩ := h
  rcases open_slice Try.underlying41 hf with ⟨hcs, _⟩ | ⟨ad, len', cap', m, n, D, Pl, hcs, _, hl, hcap, hm, _, hi⟩
  · simp [Value.cells] at hcs
    obtain ⟨rfl, rfl, rfl⟩ := hcs
    exact ⟨none, [], 0, rfl, by simp, fun i x hx => by simp at hx⟩
  · simp [Value.cells] at hcs
    obtain ⟨rfl, rfl, rfl⟩ := hcs
    have hle : len ≤ m := by rw [hm]; split <;> omega
    have key : ∀ i, i < len → ∃ y : Ak, y.kind < 256 ∧ (-9223372036854775808 ≤ y.n ∧ y.n ≤ 9223372036854775807) ∧ (ad.add (i * 2)).block < W.heap.size ∧ W.cell? (ad.add (i * 2)) = some (.int .u8 y.kind) ∧ W.cell? ⟨(ad.add (i * 2)).block, (ad.add (i * 2)).off + 1, none⟩ = some (.int .i64 y.n) := fun i hlt => by
      obtain ⟨cs, hc, ht⟩ := hi i (by omega)
      rw [cells49] at hc
      exact some_ak hc ht
    obtain ⟨xs, rfl, hx⟩ := pick len key
    refine ⟨some ad, xs, cap, rfl, by omega, fun i x hi => ?_⟩
    obtain ⟨h1, h2, h3, h4, h5⟩ := hx i x hi
    exact ⟨h1, h2, ad, rfl, h3, h4, h5⟩
end
/-- Bytes lie from A on, below block B. -/
def Kinds (w : World) (B : Nat) (A : Option Addr) (xs : List Nat) : Prop := ∀ (i x : Nat), xs[i]? = some x → x < 256 ∧ ∃ ad, A = some ad ∧ (ad.add i).block < B ∧ w.cell? (ad.add i) = some (.int .u8 x)
theorem Kinds.kept {w w' : World} {B : Nat} {A : Option Addr} {xs : List Nat} (h : Kinds w B A xs) (hb : Below B w w') : Kinds w' B A xs := by
  intro i x hx
  obtain ⟨h1, ad, e, hB, c0⟩ := h i x hx
  exact ⟨h1, ad, e, hB, (hb.cell (p := ad.add i) hB).trans c0⟩
section
variable {H : Type} {enc : TypeId × Value → H} {W : World}
theorem kinds_of {v : Value} {d : DataW H} {ps : List MemPlace} {sp : Nat → Bool} {hd : Bool} {r : Reach} {b0 : Nat} (hval : Value.okWide Try.prog W r b0 60 v) (h : DataW.Trod enc Try.prog W 0 sp hd 60 v d ps) :
    ∃ (A : Option Addr) (xs : List Nat) (cap : Nat), v = .slice A xs.length cap ∧ xs.length ≤ maxLen ∧ Kinds W W.heap.size A xs := by
  obtain ⟨a, len, cap, rfl⟩ := okWide_slice Try.underlying60 hval
  obtain ⟨fuel, hf⟩ := h
  rcases open_slice Try.underlying60 hf with ⟨hcs, _⟩ | ⟨ad, len', cap', m, n, D, Pl, hcs, _, hl, hcap, hm, _, hi⟩
  · simp [Value.cells] at hcs
    obtain ⟨rfl, rfl, rfl⟩ := hcs
    exact ⟨none, [], 0, rfl, by simp, fun i x hx => by simp at hx⟩
  · simp [Value.cells] at hcs
    obtain ⟨rfl, rfl, rfl⟩ := hcs
    have hle : len ≤ m := by rw [hm]; split <;> omega
    have key : ∀ i, i < len → ∃ y : Nat, y < 256 ∧ (ad.add i).block < W.heap.size ∧ W.cell? (ad.add i) = some (.int .u8 y) := fun i hlt => by
      obtain ⟨cs, hc, ht⟩ := hi i (by omega)
      rw [cells5, Nat.mul_one] at hc
      obtain ⟨k, rfl, _, wk⟩ := DataW.trod_int Try.underlying5 ht
      obtain ⟨_, _, hat⟩ := World.cells?_some hc
      obtain ⟨k', rfl, hk'⟩ := wf_nat8 wk
      have a0 := hat 0 (by omega)
      rw [add_zero] at a0
      exact ⟨k', hk', lt_of_cell a0, a0⟩
    obtain ⟨xs, rfl, hx⟩ := pick len key
    refine ⟨some ad, xs, cap, rfl, by omega, fun i x hi => ?_⟩
    obtain ⟨h1, h2, h3⟩ := hx i x hi
    exact ⟨h1, ad, rfl, h2, h3⟩
end
end Go.Proofs.Ythgpffmgbooncaa
