/- Lines of a call's own; begins, cut, awake. Conditions: none. -/
import Derived.Test.YtlidieffaaicaaaGreatFsC
namespace Go.Proofs.YtlidieffaaicaaaGreat.Fu
open Go.ChangeShapes Go.WideShapes Go.RowKit Go.Maps
set_option maxRecDepth 100000
/-- A line of the call's own, its device too. -/
structure Lo (W w : World) (F B b c : Nat) (st : List Cel) (z : Int) (u : Value) (xs : List Int) (k : Nat) (cut : Bool) : Prop where
  ln : Ln w F B b c st z u xs k cut
  below : Below W.heap.size W w
  new : W.heap.size ≤ F ∧ W.heap.size ≤ B ∧ W.heap.size ≤ b ∧ W.heap.size ≤ c
section
variable {W w w' : World} {F B b c : Nat} {st st' : List Cel} {z : Int} {u : Value} {xs : List Int} {k k' : Nat} {cut cut' : Bool}
theorem Lo.later (h : Lo W w F B b c st z u xs k cut) (hb : Below w.heap.size w w') : Lo W w' F B b c st z u xs k cut :=
  ⟨h.ln.below hb, h.below.trans (hb.mono h.below.size), h.new⟩
theorem Lo.step {z' : Int} {u' : Value} {xs' : List Int} (h : Lo W w F B b c st z u xs k cut) (hl : Ln w' F B b c st' z' u' xs' k' cut') (hk : Kp w w' [F, b, c]) : Lo W w' F B b c st' z' u' xs' k' cut' :=
  ⟨hl, h.below.trans (hk.below h.below.size (fun x hx => by have := h.new; simp at hx; omega)), h.new⟩
theorem lo_write (h : Lo W w F B b c st z u xs k false) (hk : k < 1000000) (i : Int) (s : ByteArray) : Calls Tryz.prog 36 #[.pointer (some ⟨F, 0, none⟩), .int .i64 i, .string s] w
    fun e w' => e = .returned (.int .i64 (if (k : Int) = z then 8 else errW st i s)) ∧ Lo W w' F B b c (aft st (stW st i s) xs z k) z u xs (k + 1) (decide ((k : Int) = z)) :=
  (lwrite_up h.ln hk i s).mono fun _ _ ⟨e, hl, hk⟩ => ⟨e, h.step hl hk⟩
theorem lo_write_cut (h : Lo W w F B b c st z u xs k true) (i : Int) (s : ByteArray) : Calls Tryz.prog 36 #[.pointer (some ⟨F, 0, none⟩), .int .i64 i, .string s] w
    fun e w' => e = .returned (.int .i64 8) ∧ Lo W w' F B b c st z u xs k true :=
  (lwrite_not (er := 8) (by decide) (fun _ hb => check_any (h.ln.below hb)) i s).mono fun _ _ ⟨e, hb⟩ => ⟨e, h.later hb⟩
theorem lo_blow (h : Lo W w F B b c st z u xs k false) : Calls Tryz.prog 18 #[.pointer (some ⟨F, 0, none⟩)] w
    fun e w' => e = .returned (.tuple #[]) ∧ Lo W w' F B b c (crash st xs) z u xs k true :=
  (blow_up h.ln).mono fun _ _ ⟨e, hl, hk⟩ => ⟨e, h.step hl hk⟩
theorem lo_new {v : Value} {xs : List Int} (h : Own W w B b c st) (hu : Sl w v xs) (hl : xs.length ≤ 1000) (z : Int) : Calls Tryz.prog 13 #[.pointer (some ⟨B, 0, none⟩), .int .i64 z, v] w
    fun e w' => ∃ F u', e = .returned (.pointer (some ⟨F, 0, none⟩)) ∧ Lo W w' F B b c st z u' xs 0 false ∧ w.heap.size ≤ F ∧ Below w.heap.size w w' ∧ (∀ g, u'.ownBlock = some g → w.heap.size ≤ g) := by
  refine (lnew_any h.dev hu hl z).mono ?_
  rintro e w' ⟨F, u', rfl, hn, hF, hb, hhi⟩
  exact ⟨F, u', rfl, ⟨hn, h.below.trans (hb.mono h.below.size), by have := h.new; have := h.below.size; omega⟩, hF, hb, hhi⟩
end
end Go.Proofs.YtlidieffaaicaaaGreat.Fu
