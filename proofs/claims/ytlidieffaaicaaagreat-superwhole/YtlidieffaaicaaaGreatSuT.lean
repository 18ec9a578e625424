/- A line of the call's own and superblocks beside it: barriers, crashes, stores. Conditions: none. -/
import Derived.Test.YtlidieffaaicaaaGreatSuQ
import Derived.Test.YtlidieffaaicaaaGreatSuS
namespace Go.Proofs.YtlidieffaaicaaaGreat
open Go.ChangeShapes Go.WideShapes Go.RowKit Go.Codec Go.Super
set_option maxRecDepth 100000
section
variable {w wx wy W : World} {L : List (Nat × Array Value)} {F B b c : Nat} {st st' : List Fu.Cel} {z : Int} {u : Value} {xs : List Int} {k k' : Nat} {cut cut' : Bool}
theorem KL.barrier (h : KL w L W F B b c st z u xs k cut wx) : Calls Tryz.prog 11 #[.pointer (some ⟨B, 0, none⟩)] wx fun e w' => e = .returned (.tuple #[]) ∧ KL w L W F B b c (Fu.bar st) z u xs k cut w' := by
  refine (Fu.barrier_yes h.lo.ln.dev).mono ?_
  rintro e w' ⟨rfl, hd, hk⟩
  exact ⟨rfl, h.step (h.lo.ln.dev' hd hk) (hk.more (Y := [F, b, c]) (by simp))⟩
theorem KL.crash (h : KL w L W F B b c st z u xs k cut wx) {v : Value} {ys : List Int} (hv : Fu.Sl wx v ys) : Calls Tryz.prog 21 #[.pointer (some ⟨B, 0, none⟩), v] wx fun e w' => e = .returned (.tuple #[]) ∧ KL w L W F B b c (Fu.crash st ys) z u xs k cut w' := by
  refine (Fu.crash_yes h.lo.ln.dev hv).mono ?_
  rintro e w' ⟨rfl, hd, hk⟩
  exact ⟨rfl, h.step (h.lo.ln.dev' hd hk) (hk.more (Y := [F, b, c]) (by simp))⟩
theorem KL.some (h : KL w L W F B b c st z u xs k cut wx) {p : Nat × Array Value} (hp : p ∈ L) : KL w [p] W F B b c st z u xs k cut wx :=
  ⟨h.below, fun q hq => by simp only [List.mem_singleton] at hq; subst hq; exact h.all q hp, h.lo, h.le⟩
theorem KL.put {P : Nat} {arr : Array Value} (h : KL w [(P, arr)] W F B b c st z u xs k cut wx) (hW : W.heap.size ≤ P) (hF : F ≤ P) (i : Nat) (v : Value) : KL w [(P, arr.setIfInBounds i v)] W F B b c st z u xs k cut (wx.setCell ⟨P, i, none⟩ v) := by
  have hi : Fu.Is wx P 28 arr := h.all _ (List.mem_singleton.2 rfl)
  have hoff := h.off (List.mem_singleton.2 rfl)
  simp at hoff
  have hB : P ≠ B := hi.ne h.lo.ln.dev.one (by decide)
  have hk := Fu.cell_kp wx P i v
  have hle := h.le
  refine ⟨h.below.setCell (Nat.le_trans hle hW) v, fun q hq => ?_, ⟨⟨hk.is h.lo.ln.one (by simp; omega), h.lo.ln.dev.kept hk (by simp; omega) (by simp; omega) (by simp; omega), h.lo.ln.ch.turn hk (fun y hy => .inl (by simp at hy; omega)), h.lo.ln.ne⟩, h.lo.below.setCell hW v, h.lo.new⟩, h.le⟩
  simp only [List.mem_singleton] at hq
  subst hq
  exact Is.put (h.all _ (List.mem_singleton.2 rfl)) i v
theorem KL.put5 {P : Nat} {a0 a1 a2 a3 a4 b0 b1 b2 b3 b4 : Value} (h : KL w [(P, #[a0, a1, a2, a3, a4])] W F B b c st z u xs k cut wx) (hW : W.heap.size ≤ P) (hF : F ≤ P) :
    KL w [(P, #[b0, b1, b2, b3, b4])] W F B b c st z u xs k cut (((((wx.setCell ⟨P, 0, none⟩ b0).setCell ⟨P, 1, none⟩ b1).setCell ⟨P, 2, none⟩ b2).setCell ⟨P, 3, none⟩ b3).setCell ⟨P, 4, none⟩ b4) := by
  have h1 := h.put hW hF 0 b0
  have h2 := h1.put hW hF 1 b1
  have h3 := h2.put hW hF 2 b2
  have h4 := h3.put hW hF 3 b3
  have h5 := h4.put hW hF 4 b4
  exact h5
theorem KL.frozen (h : KL w L W F B b c st z u xs k cut wx) {p : Nat × Array Value} (hp : p ∈ L) (i : Nat) : wx.frozen? ⟨p.1, i, none⟩ = false := (h.all p hp).frozen i
end
end Go.Proofs.YtlidieffaaicaaaGreat
