/- The document: a text at its bytes 0. Conditions: texts of a hundred thousand bytes at most. -/
import Derived.Test.YtnpgoahdemfkpaaDoorWalksO
namespace Go.Proofs.YtnpgoahdemfkpaaDoor
open Go.ChangeShapes Go.WideShapes Go.RowKit Go.Path
set_option maxRecDepth 100000
set_option linter.unusedVariables false
set_option linter.unusedSimpArgs false
/-- What a call hands back: a slice of its own, of these texts. -/
def Gives (xs : List B) (w : World) (e : Ending) (w' : World) : Prop := ∃ A c, e = .returned (.slice A xs.length c) ∧ Own w' w.heap.size A xs.length c xs ∧ Below w.heap.size w w'
/-- A loop's state: up to i, the pieces dn, the last one from f on. -/
def Cut (l : B) (i f : Nat) (dn : List B) : Prop :=
  dn.length ≤ i ∧ (i ≤ l.length → f ≤ i ∧ cut0 l = dn ++ cut0 (l.drop f) ∧ ∀ j, f ≤ j → j < i → l[j]? ≠ some 0) ∧ (¬ i ≤ l.length → cut0 l = dn)
theorem Cut.start (l : B) : Cut l 0 0 [] := ⟨by simp, fun _ => ⟨by omega, by simp, fun j _ h => by omega⟩, fun h => absurd (Nat.zero_le _) h⟩
theorem Cut.last {l : B} {f : Nat} {dn : List B} (h : Cut l l.length f dn) : Cut l (l.length + 1) (l.length + 1) (dn ++ [(l.drop f).take (l.length - f)]) := by
  obtain ⟨h1, h2, _⟩ := h
  obtain ⟨h2, h3, h4⟩ := h2 (Nat.le_refl _)
  refine ⟨by simp; omega, fun h => by omega, fun _ => ?_⟩
  rw [h3, cut0_end l f h4, List.take_of_length_le (by rw [List.length_drop]; omega)]
theorem Cut.piece {l : B} {i f : Nat} {dn : List B} (h : Cut l i f dn) (hi : l[i]? = some 0) : Cut l (i + 1) (i + 1) (dn ++ [(l.drop f).take (i - f)]) := by
  have hlt := (List.getElem?_eq_some_iff.1 hi).1
  obtain ⟨h1, h2, _⟩ := h
  obtain ⟨h2, h3, h4⟩ := h2 (by omega)
  refine ⟨by simp; omega, fun _ => ⟨by omega, ?_, fun j h h' => by omega⟩, fun h => by omega⟩
  rw [h3, cut0_from l f i h2 hi h4]; simp
theorem Cut.step {l : B} {i f : Nat} {dn : List B} (h : Cut l i f dn) (hlt : i < l.length) (hi : l[i]? ≠ some 0) : Cut l (i + 1) f dn := by
  obtain ⟨h1, h2, _⟩ := h
  obtain ⟨h2, h3, h4⟩ := h2 (by omega)
  refine ⟨by omega, fun _ => ⟨by omega, h3, fun j hj hj' => ?_⟩, fun h => by omega⟩
  by_cases e : j < i
  · exact h4 j hj e
  · obtain rfl : j = i := by omega
    exact hi
set_option maxHeartbeats 1000000 in
theorem rcut_any (s : ByteArray) (hs : s.size ≤ 100000) (w : World) : Calls Tryd.prog 44 #[.string s] w (Gives (cut0 s.data.toList) w) := by
  have hz : s.data.toList.length = s.size := (Lib.size_eq s).symm
  obtain ⟨l, hl⟩ : ∃ l, l = s.data.toList := ⟨_, rfl⟩
  rw [← hl] at hz ⊢
  unfold Gives
  obtain ⟨R, hR⟩ : ∃ R, R = cut0 l := ⟨_, rfl⟩
  rw [← hR]
  have HL := Lib.hid hl; have HZ := Lib.hid hz; have HRR := Lib.hid hR
  clear hl hz hR
  go_enter Tryd.func44, Tryd.ntmps44
  go_wp2
  go_loopw [3, 4, 5] (fun v3 v4 v5 wr => ∃ A n c dn, ∃ f i : Nat, i ≤ s.size + 1 ∧ v3 = .slice A n c ∧ v4 = .int .i64 f ∧ v5 = .int .i64 i ∧ Own wr w.heap.size A n c dn ∧ Below w.heap.size w wr ∧ Cut l i f dn) (fun _ _ v5 _ => s.size + 1 - (intOf v5).toNat)
  case atStart => exact ⟨none, 0, 0, [], 0, 0, by omega, rfl, rfl, rfl, Own.nil _ _ _, Below.refl _ _, Cut.start l⟩
  case round =>
    obtain ⟨A, n, c, dn, f, i, hi, rfl, rfl, rfl, ho, hb, hcut⟩ := hrel
    have O := Lib.hid ho; have BB := Lib.hid hb; have HC := Lib.hid hcut
    have HN := Lib.hid ho.len
    have hnd : dn.length ≤ i := hcut.1
    clear ho hb hcut
    by_cases hle : i ≤ s.size
    · have hfi : f ≤ i := by have := HZ.out; exact (HC.out.2.1 (by omega)).1
      by_cases hlt : i < s.size
      · have HI := Lib.hid (byte_is (c := 0) hlt (by omega))
        by_cases he : (((s[i].toNat : Nat) : Int) == ((0 : Nat) : Int)) = true
        · have hx := HI.out.1 he
          rw [← HL.out] at hx
          have HC2 := Lib.hid (HC.out.piece hx)
          have he' : (s[i].toNat : Int) = 0 := by simpa using he
          clear hx he HI
          have hne : ¬ (i : Int) = (s.size : Int) := by omega
          have hne2 : ((i : Int) == (s.size : Int)) = false := by simpa using hne
          have HX := Lib.hid (extract_bs s f i)
          rw [← HL.out] at HX
          go_wp2_with (first
            | (at_builtin; refine wpList_app rfl (.tmp 22) (.tmp 27) rfl w.heap.size A n c dn rfl (O.out.alloc _) (some ⟨_, 0, none⟩) 1 1 [(l.drop f).take (i - f)] rfl rfl (Rs.one _ _ _ HX.out) ?c1 ?c2 ?_))
          case c1 => have := HN.out; first | omega | (simp; omega)
          case c2 => have := BB.out.size; first | omega | (simp; omega)
          intro A3 c3 w3 o3 b3
          have B3 := Lib.hid ((BB.out.alloc BB.out.size (.cells #[.string (s.extract f i)] 9)).trans b3)
          have O3 := Lib.hid o3
          clear o3 b3
          go_wp2
          exact ⟨⟨A3, n + 1, c3, _, i + 1, i + 1, by omega, rfl, rfl, rfl, O3.out, B3.out, HC2.out⟩, by simp [intOf]; omega⟩
        · have he' : (((s[i].toNat : Nat) : Int) == ((0 : Nat) : Int)) = false := by simpa using he
          have HC2 := Lib.hid (HC.out.step (by have := HZ.out; omega) (fun h => he (HI.out.2 (by rw [← HL.out]; exact h))))
          have he2 : ¬ (s[i].toNat : Int) = 0 := by simpa using he
          have he3 : ((s[i].toNat : Int) == 0) = false := by simpa using he2
          clear he HI he'
          have hne : ¬ (i : Int) = (s.size : Int) := by omega
          have hne2 : ((i : Int) == (s.size : Int)) = false := by simpa using hne
          go_wp2
          exact ⟨⟨A, n, c, dn, f, i + 1, by omega, rfl, rfl, rfl, O.out, BB.out, HC2.out⟩, by simp [intOf]; omega⟩
      · obtain rfl : i = s.size := by omega
        have hcl : Cut l l.length f dn := by rw [HZ.out]; exact HC.out
        have hc2 := hcl.last
        rw [HZ.out] at hc2
        have HC2 := Lib.hid hc2
        clear hcl hc2
        have HX := Lib.hid (extract_bs s f s.size)
        rw [← HL.out] at HX
        go_wp2_with (first
          | (at_builtin; refine wpList_app rfl (.tmp 22) (.tmp 27) rfl w.heap.size A n c dn rfl (O.out.alloc _) (some ⟨_, 0, none⟩) 1 1 [(l.drop f).take (s.size - f)] rfl rfl (Rs.one _ _ _ HX.out) ?c3 ?c4 ?_))
        case c3 => have := HN.out; first | omega | (simp; omega)
        case c4 => have := BB.out.size; first | omega | (simp; omega)
        intro A3 c3 w3 o3 b3
        have B3 := Lib.hid ((BB.out.alloc BB.out.size (.cells #[.string (s.extract f s.size)] 9)).trans b3)
        have O3 := Lib.hid o3
        clear o3 b3
        go_wp2
        exact ⟨⟨A3, n + 1, c3, _, s.size + 1, s.size + 1, by omega, rfl, rfl, rfl, O3.out, B3.out, HC2.out⟩, by simp [intOf]⟩
    · have hf := HC.out.2.2 (by have := HZ.out; omega)
      rw [← HRR.out] at hf
      have HF := Lib.hid hf
      clear hf
      go_wp2
      go_ret
      have hn := HN.out
      refine ⟨A, c, ?_, ?_, BB.out⟩
      · rw [HF.out, ← hn]; rfl
      · rw [HF.out, ← hn]; exact O.out
end Go.Proofs.YtnpgoahdemfkpaaDoor
