/- New memory; what is above; moves. Conditions: a hundred thousand names at most. -/
import Derived.Test.YtaiabcmgpkkfhaaWalksD
import Derived.Deep.RegionHeld3
namespace Go.Proofs.Ytaiabcmgpkkfhaa
open Go.ChangeShapes Go.WideShapes Go.RowKit Go.Path
set_option maxRecDepth 100000
set_option linter.unusedVariables false
set_option linter.unusedSimpArgs false
/-- What a call hands back: a slice of its own, of these texts. -/
def Gives (xs : List B) (w : World) (e : Ending) (w' : World) : Prop := ∃ A c, e = .returned (.slice A xs.length c) ∧ Own w' w.heap.size A xs.length c xs ∧ Below w.heap.size w w'
theorem taken_any (A A2 : Option Addr) (xs ys : List B) (c c2 : Nat) (hl : xs.length ≤ 100000) (hm : ys.length ≤ 100000) (w : World) (h : Rs w A xs) (h2 : Rs w A2 ys) :
    Calls Try.prog 38 #[.slice A xs.length c, .slice A2 ys.length c2] w (Gives (xs ++ ys) w) := by
  unfold Gives
  rw [List.length_append]
  obtain ⟨n, hn⟩ : ∃ n, n = xs.length := ⟨_, rfl⟩
  obtain ⟨m, hm'⟩ : ∃ m, m = ys.length := ⟨_, rfl⟩
  have HX := Lib.hid h; have HY := Lib.hid h2; clear h h2
  rw [← hn, ← hm']
  have HL := Lib.hid (And.intro hl hm)
  rw [← hn] at hl; rw [← hm'] at hm
  have HN := Lib.hid hn; have HM := Lib.hid hm'; clear hn hm'
  go_enter Try.func38, Try.ntmps38
  go_wp2_with (first
    | (at_builtin; refine wpList_app rfl (.tmp 6) (.tmp 7) rfl w.heap.size A 0 0 [] rfl (Own.nil _ _ _) A n c xs rfl HN.out HX.out ?c1 (Nat.le_refl _) ?_)
    )
  case c1 => have := HL.out; simp; omega
  intro A1 c1 w1 o1 b1
  have O1 := Lib.hid o1; have B1 := Lib.hid b1; clear o1 b1
  go_wp2_with (first
    | (at_builtin; refine wpList_app rfl (.tmp 8) (.tmp 9) rfl w.heap.size A1 n c1 xs rfl O1.out A2 m c2 ys rfl HM.out (HY.out.kept B1.out) ?c2 B1.out.size ?_))
  case c2 => have := HL.out; omega
  intro A3 c3 w3 o3 b3
  have O3 := Lib.hid o3; have B3 := Lib.hid (B1.out.trans b3); clear o3 b3
  go_wp2
  go_ret
  exact ⟨A3, c3, rfl, O3.out, B3.out⟩
theorem within_nil_any (l : List B) : within [] l = true := within_nil l
theorem getD_bs {xs : List B} {j : Nat} (hj : j < xs.length) : (xs.map bs).getD j ByteArray.empty = bs xs[j] := by
  simp [hj]
theorem map_bs_inj : ∀ (xs ys : List B), xs.map bs = ys.map bs → xs = ys
  | [], [], _ => rfl
  | [], _ :: _, h => by simp at h
  | _ :: _, [], h => by simp at h
  | x :: xs, y :: ys, h => by
    simp at h
    rw [bs_inj h.1, map_bs_inj xs ys h.2]
theorem equal_any (A C : Option Addr) (xs ys : List B) (c d : Nat) (hl : xs.length ≤ 1000000) (hle : xs.length ≤ ys.length) (w : World) (h : Rs w A xs) (h' : Rs w C ys) :
    Calls Try.prog 39 #[.slice A xs.length c, .slice C xs.length d] w fun e w' => e = .returned (.bool (within xs ys)) ∧ Below w.heap.size w w' := by
  rcases h with rfl | ⟨b, o, rfl, hlt, hc⟩
  · refine (Try.slices_Equal_string_empty A C c 0 d w (by omega)).mono ?_
    rintro e w' ⟨rfl, rfl⟩
    rw [within_nil]
    exact ⟨rfl, Below.refl _ _⟩
  · rcases h' with rfl | ⟨b', o', rfl, hlt', hc'⟩
    · obtain rfl : xs = [] := List.eq_nil_of_length_eq_zero (by simpa using hle)
      refine (Try.slices_Equal_string_empty _ C c 0 d w (by omega)).mono ?_
      rintro e w' ⟨rfl, rfl⟩
      exact ⟨rfl, Below.refl _ _⟩
    · refine (Try.slices_Equal_string b o xs.length c b' o' xs.length d (xs.map bs) (ys.map bs) w (by simp) (by simpa using hle) (by omega) (by omega) ?_ ?_).mono ?_
      · intro j hj
        rw [List.length_map] at hj
        rw [getD_bs hj]
        exact hc j _ (List.getElem?_eq_getElem hj)
      · intro j hj
        rw [List.length_map] at hj
        rw [getD_bs hj]
        exact hc' j _ (List.getElem?_eq_getElem hj)
      · rintro e w' ⟨rfl, q, rfl⟩
        refine ⟨?_, below_drewN _ _⟩
        unfold within
        rw [← List.map_take, ← List.map_take, List.take_length]
        congr 2
        rw [decide_eq_decide]
        constructor
        · intro e; exact ⟨hle, (map_bs_inj _ _ e).symm⟩
        · rintro ⟨_, e⟩; rw [e]
theorem within_any (A C : Option Addr) (xs ys : List B) (c d : Nat) (hl : xs.length ≤ 100000) (hm : ys.length ≤ 100000) (hd : ys.length ≤ d) (w : World) (h : Rs w A xs) (h' : Rs w C ys) :
    Calls Try.prog 21 #[.slice A xs.length c, .slice C ys.length d] w fun e w' => e = .returned (.bool (within xs ys)) ∧ Below w.heap.size w w' := by
  by_cases hle : xs.length ≤ ys.length
  · have K := Lib.hid (fun d' w => equal_any A C xs ys c d' (by omega) hle w)
    generalize within xs ys = v at *
    have HX := Lib.hid h; have HY := Lib.hid h'; clear h h'
    generalize xs.length = n at *
    generalize ys.length = m at *
    go_enter Try.func21, Try.ntmps21
    go_wp2_with fail
    refine (K.out _ _ HX.out HY.out).mono ?_; rintro e w1 ⟨rfl, b1⟩
    have B1 := Lib.hid b1; clear b1
    go_wp2
    go_ret
    exact ⟨rfl, B1.out⟩
  · have hv : within xs ys = false := by unfold within; rw [decide_eq_false]; rintro ⟨h, _⟩; omega
    rw [hv]
    clear hv h h'
    generalize xs.length = n at *
    generalize ys.length = m at *
    go_enter Try.func21, Try.ntmps21
    go_wp2
    go_ret
    exact ⟨rfl, Below.refl _ _⟩
def GivesUp (l : List B) (w : World) (e : Ending) (w' : World) : Prop := ∃ A c, e = .returned (.tuple #[.slice A (l.length - 1) c, .string (bs (l.getLast?.getD []))]) ∧ Own w' w.heap.size A (l.length - 1) c l.dropLast ∧ Below w.heap.size w w'
theorem up_any (A : Option Addr) (xs : List B) (c : Nat) (hl : xs.length ≤ 100000) (hc : xs.length ≤ c) (w : World) (h : Rs w A xs) :
    Calls Try.prog 18 #[.slice A xs.length c] w (GivesUp xs w) := by
  rcases List.eq_nil_or_concat xs with rfl | ⟨r, x, rfl⟩
  · unfold GivesUp
    go_enter Try.func18, Try.ntmps18
    go_wp2
    go_ret2
    exact ⟨none, 0, rfl, Own.nil _ _ _, Below.refl _ _⟩
  · rw [List.concat_eq_append] at *
    have K := Lib.hid (fun c' w h => taken_any A none r [] c' 0 (by simp at hl; omega) (by simp) w h Rs.nil)
    have hu : GivesUp (r ++ [x]) w = fun e w' => ∃ A c, e = .returned (.tuple #[.slice A r.length c, .string (bs x)]) ∧ Own w' w.heap.size A r.length c r ∧ Below w.heap.size w w' := by
      unfold GivesUp; simp
    rw [hu]
    obtain ⟨b, o, rfl, hlt, hcell⟩ := h.at_ (k := r.length) (x := x) (by simp)
    have hr : Rs w (some ⟨b, o, none⟩) r := by have := h.take r.length; simpa using this
    rw [List.append_nil] at K
    unfold Gives at K
    have hk : (r ++ [x]).length = r.length + 1 := by simp
    rw [hk] at hl hc ⊢
    have HR := Lib.hid hr; have HO := Lib.hid h; clear h hu hr hk
    simp only [List.length_nil] at K
    generalize bs x = s at *
    generalize r.length = n at *
    have HRw := Lib.hid (fun wx (e : World.heap wx = w.heap) => show Rs wx (some ⟨b, o, none⟩) r by
      rcases HR.out with h | ⟨b2, o2, h1, h2, h3⟩
      · exact .inl h
      · exact .inr ⟨b2, o2, h1, by rw [e]; exact h2, fun i y hy => (World.cell?_of_block (by rw [e])).trans (h3 i y hy)⟩)
    have i1 : (0 : Int) ≤ (n : Int) := by omega
    have i2 : (n : Int) ≤ (n : Int) + 1 := by omega
    have i3 : (n : Int) ≤ (c : Int) := by omega
    have i4 : (n : Int) < (n : Int) + 1 := by omega
    have i5 : ¬ (n : Int) < 0 := by omega
    go_enter Try.func18, Try.ntmps18
    go_wp2_with fail
    go_region_held3 (fun wx => wx.cell? ⟨b, o + n, none⟩ = some (.string s)) (first | exact HC1.out | exact hcell)
      (first
        | (go_at_call 38; refine (K.out _ _ (HRw.out _ (by rfl))).mono ?_; rintro e w1 ⟨A1, c1, rfl, o1, b1⟩; have HC1 := Lib.hid ((b1.cell (p := ⟨b, o + n, none⟩) hlt).trans hcell); have O1 : Hid (Own w1 w.heap.size A1 n c1 r) := o1; have B1 : Hid (Below w.heap.size w w1) := ⟨b1.os, b1.tape, b1.output, b1.size, b1.block⟩; clear o1 b1))
    all_goals
      go_wp2
      go_ret2
      exact ⟨A1, c1, rfl, O1.out, by first | exact B1.out | exact B1.out.drew⟩
end Go.Proofs.Ytaiabcmgpkkfhaa
