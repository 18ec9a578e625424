/- Tries that come in; a setup that comes in. Conditions: none. -/
import Derived.Test.YtlidieffaaicaaaGreatDvK
namespace Go.Proofs.YtlidieffaaicaaaGreat
open Go.ChangeShapes Go.WideShapes Go.RowKit
set_option maxRecDepth 100000
/-- One try: the superblock's numbers, and what the crash is to keep. -/
structure Ty where
  calls : Nat
  root : Nat
  table : Nat
  v : Value
  xs : List Int
/-- The tries lie from A on, below block B. -/
def Tries (w : World) (B : Nat) (A : Option Addr) (l : List Ty) : Prop := ∀ i x, l[i]? = some x →
  ∃ ad, A = some ad ∧ (ad.add (i * 4)).block < B ∧ w.cell? (ad.add (i * 4)) = some (.int .u64 (x.calls : Nat)) ∧ w.cell? ⟨(ad.add (i * 4)).block, (ad.add (i * 4)).off + 1, none⟩ = some (.int .u16 (x.root : Nat)) ∧
    w.cell? ⟨(ad.add (i * 4)).block, (ad.add (i * 4)).off + 2, none⟩ = some (.int .u16 (x.table : Nat)) ∧ w.cell? ⟨(ad.add (i * 4)).block, (ad.add (i * 4)).off + 3, none⟩ = some x.v ∧ Fu.Sw w B x.v x.xs ∧
    x.calls < 18446744073709551616 ∧ x.root < 65536 ∧ x.table < 65536
theorem Tries.kept {w w' : World} {B : Nat} {A : Option Addr} {l : List Ty} (h : Tries w B A l) (hb : Below B w w') : Tries w' B A l := by
  intro i x hx
  obtain ⟨ad, e, hB, c0, c1, c2, c3, hs, hr⟩ := h i x hx
  exact ⟨ad, e, hB, (hb.cell (p := ad.add (i * 4)) hB).trans c0, (hb.cell (p := ⟨(ad.add (i * 4)).block, (ad.add (i * 4)).off + 1, none⟩) hB).trans c1, (hb.cell (p := ⟨(ad.add (i * 4)).block, (ad.add (i * 4)).off + 2, none⟩) hB).trans c2,
    (hb.cell (p := ⟨(ad.add (i * 4)).block, (ad.add (i * 4)).off + 3, none⟩) hB).trans c3, hs.kept hb, hr⟩
theorem tries_at {W : World} {A : Option Addr} {l : List Ty} (h : Tries W W.heap.size A l) {k : Nat} {x : Ty} (hx : l[k]? = some x) : ∃ ad, A = some ad ∧ (x.calls < 18446744073709551616 ∧ x.root < 65536 ∧ x.table < 65536) ∧ ∀ w, Below W.heap.size W w →
    w.cell? (ad.add (k * 4)) = some (.int .u64 (x.calls : Nat)) ∧ w.cell? ⟨(ad.add (k * 4)).block, (ad.add (k * 4)).off + 1, none⟩ = some (.int .u16 (x.root : Nat)) ∧
    w.cell? ⟨(ad.add (k * 4)).block, (ad.add (k * 4)).off + 2, none⟩ = some (.int .u16 (x.table : Nat)) ∧ w.cell? ⟨(ad.add (k * 4)).block, (ad.add (k * 4)).off + 3, none⟩ = some x.v ∧ Fu.Sw w W.heap.size x.v x.xs := by
  obtain ⟨ad, e, -, -, -, -, -, -, hr⟩ := h k x hx
  refine ⟨ad, e, hr, fun w hb => ?_⟩
  obtain ⟨ad', e', _, c0, c1, c2, c3, hs, -⟩ := h.kept hb k x hx
  rw [e] at e'
  injection e' with e'
  subst e'
  exact ⟨c0, c1, c2, c3, hs⟩
end Go.Proofs.YtlidieffaaicaaaGreat
