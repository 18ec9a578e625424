/- Both lines beside each other; reads, one, alike. Conditions: none. -/
import Derived.Test.YtlidieffaaicaaaGreatFsG
namespace Go.Proofs.YtlidieffaaicaaaGreat.Fu
open Go.ChangeShapes Go.WideShapes Go.RowKit Go.Maps
set_option maxRecDepth 100000
/-- What a read says. -/
def rdS (st : List Cel) (i : Int) : ByteArray := if ck st.length i = 0 then bs (((st[i.toNat]?).map Cel.r).getD []) else ⟨#[]⟩
def rdE (st : List Cel) (i : Int) : Int := ck st.length i
theorem read_any {w : World} {B b c : Nat} {st : List Cel} (h : Dv w B b c st) (i : Int) : Calls Tryz.prog 77 #[.pointer (some ⟨B, 0, none⟩), .int .i64 i] w
    fun e w' => e = .returned (.tuple #[.string (rdS st i), .int .i64 (rdE st i)]) ∧ Below w.heap.size w w' := by
  unfold rdS rdE
  rcases ck_two st.length i with h2 | ⟨h0, j, rfl, hj⟩
  · rw [h2, if_neg (by decide)]
    exact below_eq (Q := fun e => e = .returned (.tuple #[.string ⟨#[]⟩, .int .i64 2])) (read_out h i h2)
  · have hx := List.getElem?_eq_getElem hj
    rw [h0, if_pos rfl, show (j : Int).toNat = j from rfl, hx]
    exact read_in h hx
theorem rread_any {w : World} {B g : Nat} {L : List Sc} (h : Rv w B g L) (i : Int) : Calls Tryz.prog 94 #[.pointer (some ⟨B, 0, none⟩), .int .i64 i] w
    fun e w' => e = .returned (.tuple #[.string (rdS (cels L) i), .int .i64 (rdE (cels L) i)]) ∧ Below w.heap.size w w' := by
  unfold rdS rdE
  rcases ck_two L.length i with h2 | ⟨h0, j, rfl, hj⟩
  · rw [cels_len, h2, if_neg (by decide)]
    exact below_eq (Q := fun e => e = .returned (.tuple #[.string ⟨#[]⟩, .int .i64 2])) (rread_bad i 2 (by decide) (by rw [← h2]; exact rhas_any h i))
  · have hx := List.getElem?_eq_getElem hj
    rw [cels_len, h0, if_pos rfl, show (j : Int).toNat = j from rfl, cels_get hx]
    exact rread_in h hx
/-- Both lines. -/
structure Jm (W w : World) (F B b c : Nat) (st : List Cel) (k : Nat) (cut : Bool) (G Bd g : Nat) (L : List Sc) (k2 : Nat) (cut2 : Bool) (z : Int) (u v : Value) (xs : List Int) : Prop where
  lo : Lo W w F B b c st z u xs k cut
  rl : Rl W w G Bd g L z v xs k2 cut2
  lt : F < G ∧ F < Bd ∧ F < g
section
variable {W w w' : World} {F B b c G Bd g : Nat} {st st' : List Cel} {L L' : List Sc} {z : Int} {u v : Value} {xs : List Int} {k k' k2 k2' : Nat} {cut cut' cut2 cut2' : Bool}
theorem Jm.later (h : Jm W w F B b c st k cut G Bd g L k2 cut2 z u v xs) (hb : Below w.heap.size w w') : Jm W w' F B b c st k cut G Bd g L k2 cut2 z u v xs := ⟨h.lo.later hb, h.rl.below hb, h.lt⟩
theorem Jm.stepA (h : Jm W w F B b c st k cut G Bd g L k2 cut2 z u v xs) (hl : Ln w' F B b c st' z u xs k' cut') (hk : Kp w w' [F, b, c]) : Jm W w' F B b c st' k' cut' G Bd g L k2 cut2 z u v xs := by
  have hm := h.rl.one.nomap h.lo.ln.dev
  obtain ⟨cap, hi⟩ := h.rl.dev.one
  obtain ⟨cur, hj, _⟩ := h.rl.dev.row
  have hm2 := hi.nomap h.lo.ln.dev
  have hm3 := hj.nomap h.lo.ln.dev
  have hlt := h.lt
  have hn := h.lo.new
  exact ⟨h.lo.step hl hk, h.rl.kept hk (by simp; omega) (by simp; omega) (by simp; omega) (by simp; omega), h.lt⟩
theorem Jm.stepB (h : Jm W w F B b c st k cut G Bd g L k2 cut2 z u v xs) (hl : Rl W w' G Bd g L' z v xs k2' cut2') (hk : Kp w w' [G, g]) : Jm W w' F B b c st k cut G Bd g L' k2' cut2' z u v xs := by
  have hm := h.rl.one.nomap h.lo.ln.dev
  obtain ⟨cur, hj, _⟩ := h.rl.dev.row
  have hm3 := hj.nomap h.lo.ln.dev
  have hB1 := h.rl.one.ne h.lo.ln.dev.one (by decide)
  have hB2 := hj.ne h.lo.ln.dev.one (by decide)
  have hlt := h.lt
  have hn := h.rl.new
  exact ⟨⟨h.lo.ln.kept hk (by simp; omega) (by simp; omega) (by simp; omega) (by simp; omega), h.lo.below.trans (hk.below h.lo.below.size (by simp; omega)), h.lo.new⟩, hl, h.lt⟩
end
end Go.Proofs.YtlidieffaaicaaaGreat.Fu
