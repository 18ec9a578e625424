/- What a write does to the document's device. Conditions: none. -/
import Derived.Test.YtlidieffaaicaaaGreatDvV
namespace Go.Proofs.YtlidieffaaicaaaGreat.Fu
open Go.ChangeShapes Go.WideShapes Go.RowKit Go.Maps
set_option maxRecDepth 100000
theorem cels_set (L : List Sc) (i : Nat) (y : Sc) : cels (L.set i y) = (cels L).set i y.cel := by unfold cels; rw [List.map_set]
theorem rwrite_any {w : World} {B g : Nat} {L : List Sc} (h : Rv w B g L) (at' : Int) (s : ByteArray) : Calls Tryz.prog 10 #[.pointer (some ⟨B, 0, none⟩), .int .i64 at', .string s] w
    fun e w' => e = .returned (.int .i64 (errW (cels L) at' s)) ∧ ∃ L', cels L' = stW (cels L) at' s ∧ Rv w' B g L' ∧ Kp w w' [g] := by
  unfold stW
  rcases ck_two L.length at' with h2 | ⟨h0, i, rfl, hi⟩
  · have e1 : errW (cels L) at' s = 2 := by unfold errW; rw [cels_len, if_pos h2]
    rw [e1, if_neg (by decide)]
    refine (rwrite_bad at' 2 s (by decide) (by rw [← h2]; exact rhas_any h at')).mono ?_
    rintro e w' ⟨rfl, rfl⟩
    exact ⟨rfl, L, rfl, h, Kp.refl _ _⟩
  · by_cases hs : 128 < s.size
    · have e1 : errW (cels L) (i : Int) s = 3 := by unfold errW; rw [cels_len, if_neg (by rw [h0]; decide), if_pos hs]
      rw [e1, if_neg (by decide)]
      refine (rwrite_long h _ s h0 hs).mono ?_
      rintro e w' ⟨rfl, rfl⟩
      exact ⟨rfl, L, rfl, h, Kp.refl _ _⟩
    · have e1 : errW (cels L) (i : Int) s = 0 := by unfold errW; rw [cels_len, if_neg (by rw [h0]; decide), if_neg hs]
      have hx := List.getElem?_eq_getElem hi
      rw [e1, if_pos rfl]
      refine (rwrite_in h hx s (by omega)).mono ?_
      rintro e w' ⟨rfl, hd, hk⟩
      refine ⟨rfl, _, ?_, hd, hk⟩
      rw [cels_set, show (i : Int).toNat = i from rfl]
      unfold wrS
      rw [cels_get hx]
      rfl
theorem grow_kp {w1 w2 w3 : World} {X : List Nat} (hb : Below w1.heap.size w1 w2) (hk : Kp w2 w3 X) : Kp w1 w3 X := (Kp.of_below hb X).trans hk (fun _ hy => .inl hy)
theorem below_eq {Q : Ending → Prop} {f : FuncId} {a : Array Value} {w : World} (h : Calls Tryz.prog f a w fun e w' => Q e ∧ w = w') : Calls Tryz.prog f a w fun e w' => Q e ∧ Below w.heap.size w w' :=
  h.mono fun _ _ ⟨h1, h2⟩ => ⟨h1, h2 ▸ Below.refl _ _⟩
theorem Is.nomap {w : World} {x : Nat} {t : TypeId} {cs : Array Value} {B b c : Nat} {st : List Cel} (h : Is w x t cs) (hd : Dv w B b c st) : x ≠ b ∧ x ≠ c := by
  obtain ⟨k, D, ⟨es, clock, hb, _⟩, _⟩ := hd.sure
  obtain ⟨k', D', ⟨es', clock', hb', _⟩, _⟩ := hd.wait
  unfold Is at h
  constructor
  · rintro rfl
    rw [hb] at h
    cases h
  · rintro rfl
    rw [hb'] at h
    cases h
end Go.Proofs.YtlidieffaaicaaaGreat.Fu
