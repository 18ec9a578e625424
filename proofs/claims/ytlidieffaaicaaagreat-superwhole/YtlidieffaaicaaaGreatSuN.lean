/- A line of the call's own, and superblocks of its own beside it; plain facts on what is chosen. Conditions: none. -/
import Derived.Test.YtlidieffaaicaaaGreatSuM
namespace Go.Proofs.YtlidieffaaicaaaGreat
open Go.ChangeShapes Go.WideShapes Go.RowKit Go.Codec Go.Super
set_option maxRecDepth 100000
set_option linter.unusedSimpArgs false
/-- A line of the call's own, and superblocks of its own. -/
structure KL (w : World) (L : List (Nat × Array Value)) (W : World) (F B b c : Nat) (st : List Fu.Cel) (z : Int) (u : Value) (xs : List Int) (k : Nat) (cut : Bool) (wx : World) : Prop where
  below : Below w.heap.size w wx
  all : ∀ p ∈ L, Is wx p.1 28 p.2
  lo : Fu.Lo W wx F B b c st z u xs k cut
  le : w.heap.size ≤ W.heap.size
section
variable {w wx wy W : World} {L : List (Nat × Array Value)} {F B b c : Nat} {st st' : List Fu.Cel} {z : Int} {u : Value} {xs : List Int} {k k' : Nat} {cut cut' : Bool}
theorem KL.later (h : KL w L W F B b c st z u xs k cut wx) (hb : Below wx.heap.size wx wy) : KL w L W F B b c st z u xs k cut wy :=
  ⟨h.below.trans (hb.mono h.below.size), fun p hp => is_below (h.all p hp) hb, h.lo.later hb, h.le⟩
theorem KL.add (h : KL w L W F B b c st z u xs k cut wx) (arr : Array Value) : KL w ((wx.heap.size, arr) :: L) W F B b c st z u xs k cut (wx.alloc (.cells arr 28)) := by
  have h2 := h.later (below_box wx (.cells arr 28))
  refine ⟨h2.below, fun p hp => ?_, h2.lo, h.le⟩
  simp only [List.mem_cons] at hp
  rcases hp with rfl | hp
  · exact Is.new _ _ _
  · exact h2.all p hp
theorem KL.drew (h : KL w L W F B b c st z u xs k cut wx) : KL w L W F B b c st z u xs k cut wx.drew := h.later ⟨rfl, rfl, rfl, Nat.le_refl _, fun _ _ => rfl⟩
theorem KL.off (h : KL w L W F B b c st z u xs k cut wx) {p : Nat × Array Value} (hp : p ∈ L) : p.1 ∉ [F, b, c] := by
  have hi : Fu.Is wx p.1 28 p.2 := h.all p hp
  have h1 := Fu.Is.ne hi h.lo.ln.one (by decide)
  have h2 := Fu.Is.nomap hi h.lo.ln.dev
  simp [h1, h2.1, h2.2]
theorem KL.step (h : KL w L W F B b c st z u xs k cut wx) (hl : Fu.Ln wy F B b c st' z u xs k' cut') (hk : Fu.Kp wx wy [F, b, c]) : KL w L W F B b c st' z u xs k' cut' wy := by
  have hn := h.lo.new
  have hle := h.le
  refine ⟨h.below.trans (hk.below h.below.size (fun x hx => by simp at hx; omega)), fun p hp => ?_, h.lo.step hl hk, h.le⟩
  have hi : Fu.Is wx p.1 28 p.2 := h.all p hp
  exact hk.is hi (h.off hp)
theorem KL.carry {f : Nat} {args : Array Value} {R : Ending → Prop} (h : KL w L W F B b c st z u xs k cut wx) (hc : Calls Tryz.prog f args wx fun e w' => R e ∧ Below wx.heap.size wx w') : Calls Tryz.prog f args wx fun e w' => R e ∧ KL w L W F B b c st z u xs k cut w' :=
  hc.mono fun _ _ ⟨he, hb⟩ => ⟨he, h.later hb⟩
theorem KL.get (h : KL w L W F B b c st z u xs k cut wx) {n : Nat} {a0 a1 a2 a3 a4 : Value} (hm : (n, #[a0, a1, a2, a3, a4]) ∈ L) :
    wx.cell? ⟨n, 0, none⟩ = some a0 ∧ wx.cell? ⟨n, 1, none⟩ = some a1 ∧ wx.cell? ⟨n, 2, none⟩ = some a2 ∧ wx.cell? ⟨n, 3, none⟩ = some a3 ∧ wx.cell? ⟨n, 4, none⟩ = some a4 := is5 (h.all _ hm)
end
/-- A text of another length is none. -/
theorem tk_len {l : List UInt8} (h1 : 26 ≤ l.length) (h2 : l.length ≤ 65536) (h3 : l.length ≠ 128) : tk l = (S.none, 4) := by
  have e : (Seal.unstamp l).2.2.2 = 0 ∨ (Seal.unstamp l).2.2.2 = 4 := by
    unfold Seal.unstamp
    rw [if_neg (by omega), if_neg (by omega)]
    split <;> simp
  unfold tk
  rcases e with e | e
  · rw [if_neg (by simp [e]), if_pos (.inl h3)]
  · rw [if_pos (by rw [e]; decide), e]
theorem one_none {i : Nat} {n : Int} {r : List UInt8} (h : ¬ (tk r).2 = 0) : one i n r = S.none := if_neg (fun e => h e.1)
theorem one_put {s : S} (h : s.Ok) (hg : s.gen < 18446744073709551616) (hc : s.calls < 18446744073709551616) {i : Nat} {n : Int} (hi : s.gen % 2 = i) (hn : s.secs = n) : one i n (put s).1 = s := by
  unfold one
  rw [tk_put s h hg hc, if_pos ⟨rfl, hi, hn⟩]
theorem nought_none (i : Nat) (n : Int) : one i n Fu.nought = S.none := by
  refine one_none ?_
  rw [show Fu.nought = List.replicate 128 0 from rfl, tk_zero]
  decide
/-- What stands at two places behind a write. -/
theorem wr_at {st : List Fu.Cel} {i : Nat} {l : List UInt8} {x : Fu.Cel} (hi : st[i]? = some x) (hl : l.length = 128) : (Fu.wrS st i l)[i]? = some ⟨x.s, some l⟩ := by
  unfold Fu.wrS
  rw [hi]
  have hlt := (List.getElem?_eq_some_iff.1 hi).1
  have hfull : Fu.full l = l := by simp [Fu.full, hl]
  simp [hlt, hfull]
theorem wr_off {st : List Fu.Cel} {i j : Nat} (l : List UInt8) (hj : i ≠ j) : (Fu.wrS st i l)[j]? = st[j]? := by
  unfold Fu.wrS
  split
  · rw [List.getElem?_set_ne hj]
  · rfl
end Go.Proofs.YtlidieffaaicaaaGreat
