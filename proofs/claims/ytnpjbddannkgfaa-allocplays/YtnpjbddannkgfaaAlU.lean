/- awake. Conditions: none. -/
import Derived.Test.YtnpjbddannkgfaaAlT
namespace Go.Proofs.Ytnpjbddannkgfaa
open Go.ChangeShapes Go.WideShapes Go.RowKit Go.Maps Go.Spans Go.Alloc
set_option maxRecDepth 100000
theorem i64_small (p : Int) (h1 : -1000000 ≤ p) (h2 : p ≤ 1000000) : i64r p := by unfold i64r; omega
section
variable {B : Nat} {wB w w' : World} {A f n : Nat} {E : List Nat} {L : List Ch} {W : List Nat}
/-- takes over a row that is written out. -/
theorem takes_lit (h : Oc B wB w A f n E L W) (k : Int) (want : List Nat) (E' : List Nat) (L' : List Ch) (hE : allocE E k = 0) (hT : E.take k.toNat = want) (hw1 : 1 ≤ want.length) (hw2 : want.length ≤ 4096) (hE' : E.drop k.toNat = E') (hL' : insC ⟨want, 1, false⟩ L = L')
    (m : Nat) (hm : want.length = m) (cs : Array Value) (hcs : (zs (nz want)).toArray = cs) (pc : Nat) :
    Calls Try.prog 19 #[.pointer (some ⟨A, 0, none⟩), .int .i64 k, .slice (some ⟨w.heap.size, 0, none⟩) m pc] (w.alloc (.cells cs 3)) fun e w' => e = .returned (.bool true) ∧ Oc B wB w' A f n E' L' W := by
  subst hm hcs hE' hL'
  exact takes_c (h.later (below_alloc (Below.refl _ w) _)) k want hE hT hw1 hw2 (Is.new w 3 _)
theorem Oc.freeN (h : Oc B wB w A f n E L W) (m : Int) (hm : ((E.length : Nat) : Int) = m) : Calls Try.prog 24 #[.pointer (some ⟨A, 0, none⟩)] w fun e w' => e = .returned (.int .i64 m) ∧ Below w.heap.size w w' := by
  subst hm
  exact h.free
theorem Oc.waitN (h : Oc B wB w A f n E L W) (m : Int) (hm : ((W.length : Nat) : Int) = m) : Calls Try.prog 27 #[.pointer (some ⟨A, 0, none⟩)] w fun e w' => e = .returned (.int .i64 m) ∧ w = w' := by
  subst hm
  exact h.waiting
end
theorem new_28 (w : World) : Calls Try.prog 8 #[.int .i64 2, .int .i64 8] w fun e w' => ∃ A, e = .returned (.pointer (some ⟨A, 0, none⟩)) ∧ Oc w.heap.size w w' A 2 8 [2, 3, 4, 5, 6, 7] [] [] := oc_new 2 8 (by omega) (by omega) w
set_option maxHeartbeats 2000000 in
theorem awake_c (w : World) : Calls Try.prog 10 #[] w fun e w' => e = .returned (.bool true) ∧ Below w.heap.size w w' := by
  have hN := new_28 w
  have h1 := fun (W : World) (A : Nat) (x : Oc w.heap.size w W A 2 8 [2, 3, 4, 5, 6, 7] [] []) => x.freeN 6 rfl
  have h2 := fun (W : World) (A : Nat) (x : Oc w.heap.size w W A 2 8 [2, 3, 4, 5, 6, 7] [] []) => takes_lit x 2 [2, 3] [4, 5, 6, 7] [⟨[2, 3], 1, false⟩] (by decide) (by decide) (by decide) (by decide) (by decide) rfl 2 rfl #[.int .i64 2, .int .i64 3] rfl 2
  have h3 := fun (W : World) (A : Nat) (x : Oc w.heap.size w W A 2 8 [4, 5, 6, 7] [⟨[2, 3], 1, false⟩] []) => takes_lit x 3 [4, 5, 6] [7] [⟨[2, 3], 1, false⟩, ⟨[4, 5, 6], 1, false⟩] (by decide) (by decide) (by decide) (by decide) (by decide) rfl 3 rfl #[.int .i64 4, .int .i64 5, .int .i64 6] rfl 3
  have h4 := fun (W : World) (A : Nat) (x : Oc w.heap.size w W A 2 8 [7] [⟨[2, 3], 1, false⟩, ⟨[4, 5, 6], 1, false⟩] []) => x.freeN 1 rfl
  have h5 := fun (W : World) (A : Nat) (x : Oc w.heap.size w W A 2 8 [7] [⟨[2, 3], 1, false⟩, ⟨[4, 5, 6], 1, false⟩] []) => drops_c x 2 (i64_small 2 (by omega) (by omega)) true 0 rfl rfl
  have h6 := fun (W : World) (A : Nat) (x : Oc w.heap.size w W A 2 8 [2, 3, 7] (dropL' [⟨[2, 3], 1, false⟩, ⟨[4, 5, 6], 1, false⟩] 2) (dropW [] [⟨[2, 3], 1, false⟩, ⟨[4, 5, 6], 1, false⟩] 2)) => x.freeN 3 rfl
  rw [show dropF 8 [7] [⟨[2, 3], 1, false⟩, ⟨[4, 5, 6], 1, false⟩] 2 = [2, 3, 7] by decide +kernel] at h5
  have H1 := Lib.hid h1
  have H2 := Lib.hid h2
  have H3 := Lib.hid h3
  have H4 := Lib.hid h4
  have H5 := Lib.hid h5
  have H6 := Lib.hid h6
  clear h1 h2 h3 h4 h5 h6
  go_enter Try.func10, Try.ntmps10
  go_wp2_with (first
    | (go_at_call 8; refine hN.mono ?_; clear hN; rintro e w1 ⟨A, rfl, x1⟩)
    | (go_at_call 24; refine (H1.out _ _ x1).mono ?_; clear H1; rintro e w2 ⟨rfl, b2⟩; have x2 := x1.later b2)
    | (go_at_call 19; refine (H2.out _ _ x2).mono ?_; clear H2; rintro e w3 ⟨rfl, x3⟩)
    | (go_at_call 19; refine (H3.out _ _ x3).mono ?_; clear H3; rintro e w4 ⟨rfl, x4⟩)
    | (go_at_call 24; refine (H4.out _ _ x4).mono ?_; clear H4; rintro e w5 ⟨rfl, b5⟩; have x5 := x4.later b5)
    | (go_at_call 23; refine (H5.out _ _ x5).mono ?_; clear H5; rintro e w6 ⟨rfl, x6⟩)
    | (go_at_call 24; refine (H6.out _ _ x6).mono ?_; clear H6; rintro e w7 ⟨rfl, b7⟩; have x7 := x6.later b7))
  go_ret
  exact ⟨rfl, x7.below⟩
end Go.Proofs.Ytnpjbddannkgfaa
