/- What keys begin with; the keys and ranges of metadata, in the program. Conditions: the listed families as the program's text lays them; names of a million bytes in all at most. -/
import Derived.Test.YtnpgoahdemfkpaaDoorWalksE
import Derived.Deep.RegionHeld3
namespace Go.Proofs.YtnpgoahdemfkpaaDoor
open Go.ChangeShapes Go.WideShapes Go.RowKit Go.Path
set_option maxRecDepth 100000
set_option linter.unusedVariables false
set_option linter.unusedSimpArgs false
theorem join_any (A : Option Addr) (xs : List B) (c : Nat) (b : UInt8) (hl : xs.length ≤ 100000) (hc : xs.length ≤ c) (hj : (Lib.join xs [b]).length ≤ 1000000) (w : World) (h : Rs w A xs) :
    Calls Tryd.prog 32 #[.slice A xs.length c, .string ⟨#[b]⟩] w fun e w' => e = .returned (.string (bs (Lib.join xs [b]))) ∧ Below w.heap.size w w' := by
  rcases h with rfl | ⟨bk, o, rfl, hlt, hcell⟩
  · refine (Tryd.strings_Join_none A c ⟨#[b]⟩ w).mono ?_
    rintro e w' ⟨rfl, rfl⟩
    exact ⟨rfl, Below.refl _ _⟩
  · have hm : (xs.map bs).map (·.data.toList) = xs := by
      rw [List.map_map]
      have : ((fun x : ByteArray => x.data.toList) ∘ bs) = id := by funext x; exact bs_data x
      rw [this, List.map_id]
    have K := Tryd.strings_Join bk o c (xs.map bs) ⟨#[b]⟩ w (fun j x hx => by
      rw [List.getElem?_map] at hx
      obtain ⟨y, hy, rfl⟩ := Option.map_eq_some_iff.1 hx
      exact hcell j y hy) hlt (by simp; omega) (by simpa using hc) (by rw [hm]; show (Lib.join xs [b]).length ≤ _; omega)
    rw [hm, List.length_map] at K
    exact K
/-- What the listed families hold. -/
def Laid (w : World) : Prop := (w.cell? ⟨0, 0, none⟩ = some (.string ⟨#[109]⟩) ∧ w.cell? ⟨0, 1, none⟩ = some (.string ⟨#[110]⟩)) ∧ (w.cell? ⟨1, 0, none⟩ = some (.string ⟨#[100]⟩) ∧ w.cell? ⟨1, 1, none⟩ = some (.string ⟨#[101]⟩)) ∧ 1 < w.heap.size
theorem Laid.below {w w' : World} {b : Nat} (h : Laid w) (hb : Below b w w') (hB : 1 < b) : Laid w' := by
  obtain ⟨⟨h1, h2⟩, ⟨h3, h4⟩, h5⟩ := h
  exact ⟨⟨(hb.cell (p := ⟨0, 0, none⟩) (by show 0 < b; omega)).trans h1, (hb.cell (p := ⟨0, 1, none⟩) (by show 0 < b; omega)).trans h2⟩, ⟨(hb.cell (p := ⟨1, 0, none⟩) hB).trans h3, (hb.cell (p := ⟨1, 1, none⟩) hB).trans h4⟩, Nat.lt_of_lt_of_le h5 hb.size⟩
theorem Laid.later {w w' : World} (h : Laid w) (hb : Below w.heap.size w w') : Laid w' := h.below hb h.2.2
theorem Laid.alloc {w : World} (h : Laid w) (o : Obj) : Laid (w.alloc o) := h.later ((Below.refl _ _).alloc (Nat.le_refl _) o)
theorem Rs.below {w w' : World} {A : Option Addr} {xs : List B} (h : Rs w A xs) {b : Nat} (hb : Below b w w') (hB : w.heap.size ≤ b) : Rs w' A xs := h.kept (hb.mono hB)
theorem Rs.heap {w w' : World} {A : Option Addr} {xs : List B} (h : Rs w A xs) (e : w'.heap = w.heap) : Rs w' A xs := by
  rcases h with h | ⟨b2, o2, h1, h2, h3⟩
  · exact .inl h
  · exact .inr ⟨b2, o2, h1, by rw [e]; exact h2, fun i y hy => (World.cell?_of_block (by rw [e])).trans (h3 i y hy)⟩
theorem bs_cons (c : UInt8) (l : B) : (⟨#[c]⟩ : ByteArray) ++ bs l = bs (c :: l) := bs_app [c] l
set_option maxHeartbeats 1000000 in
theorem head_any (c d : UInt8) (A : Option Addr) (xs : List B) (cap : Nat) (hl : xs.length ≤ 100000) (hc : xs.length ≤ cap) (hj : (joint xs).length ≤ 1000000) (w : World) (h : Rs w A xs) :
    Calls Tryd.prog 40 #[.agg #[.string ⟨#[c]⟩, .string ⟨#[d]⟩], .slice A xs.length cap] w fun e w' => e = .returned (.string (bs (c :: joint xs))) ∧ Below w.heap.size w w' := by
  have J := Lib.hid (fun w h => join_any A xs cap 0 hl hc hj w h)
  have hjs : (bs (joint xs)).size ≤ 1000000 := by rw [bs_size]; exact hj
  rw [← bs_cons]
  have e0 : Lib.join xs [0] = joint xs := rfl
  rw [e0] at J
  generalize bs (joint xs) = jb at *
  have HW := Lib.hid (fun wx (e : World.heap wx = (w.alloc (.cells #[.string ⟨#[c]⟩, .string ⟨#[d]⟩] 57)).heap) => (h.alloc (.cells #[.string ⟨#[c]⟩, .string ⟨#[d]⟩] 57)).heap e)
  have hcell : (w.alloc (.cells #[.string ⟨#[c]⟩, .string ⟨#[d]⟩] 57)).cell? ⟨w.heap.size, 0, none⟩ = some (.string ⟨#[c]⟩) := by
    rw [cell_of_row _ _ _ _ _ _ (heap_alloc_new w (.cells #[.string ⟨#[c]⟩, .string ⟨#[d]⟩] 57))]; rfl
  have HB0 := Lib.hid ((Below.refl w.heap.size w).alloc (Nat.le_refl _) (.cells #[.string ⟨#[c]⟩, .string ⟨#[d]⟩] 57))
  have hlt : w.heap.size < (w.alloc (.cells #[.string ⟨#[c]⟩, .string ⟨#[d]⟩] 57)).heap.size := by simp
  have hov : ¬ 9223372036854775807 < (⟨#[c]⟩ : ByteArray).size + jb.size := by
    have : (⟨#[c]⟩ : ByteArray).size = 1 := rfl
    omega
  have hov1 : ¬ 9223372036854775807 < 1 + jb.size := by omega
  clear h hj e0
  generalize xs.length = n at *
  go_enter Tryd.func40, Tryd.ntmps40
  go_wp2_with fail
  generalize hWW : w.alloc (.cells #[.string ⟨#[c]⟩, .string ⟨#[d]⟩] 57) = W at *
  clear hWW
  go_region_held3 (fun wx => wx.cell? ⟨w.heap.size, 0, none⟩ = some (.string ⟨#[c]⟩)) (first | exact HC1.out | exact hcell)
    (first
      | (go_at_call 32; refine (J.out _ (HW.out _ (by rfl))).mono ?_; rintro e w1 ⟨rfl, b1⟩; have HC1 := Lib.hid ((b1.cell (p := ⟨w.heap.size, 0, none⟩) hlt).trans hcell); have B1 : Hid (Below W.heap.size W w1) := ⟨b1.os, b1.tape, b1.output, b1.size, b1.block⟩; clear b1))
  all_goals
    go_wp2
    go_ret
    exact ⟨rfl, HB0.out.trans ((by first | exact B1.out | exact B1.out.drew : Below W.heap.size W _).mono HB0.out.size)⟩
end Go.Proofs.YtnpgoahdemfkpaaDoor
