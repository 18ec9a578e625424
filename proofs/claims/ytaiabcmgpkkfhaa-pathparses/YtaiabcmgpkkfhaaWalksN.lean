/- The laws PathParses and PathTexts. Conditions: what comes in is as long as may be. -/
import Derived.Test.YtaiabcmgpkkfhaaWalksM
namespace Go.Proofs.Ytaiabcmgpkkfhaa
open Go.ChangeShapes Go.WideShapes Go.RowKit Go.Path
set_option maxRecDepth 100000
set_option linter.unusedVariables false
set_option linter.unusedSimpArgs false
theorem parses_any (s : ByteArray) (hs : s.size ≤ maxLen) (w : World) : Calls Try.prog 3 #[.string s] w fun e w' => e = .returned (.bool true) ∧ Below w.heap.size w w' := by
  unfold maxLen at hs
  have AW := Lib.hid awake_any
  by_cases h1 : 1000 < s.size
  · go_enter Try.func3, Try.ntmps3
    go_wp2_with fail
    refine (AW.out _).mono ?_; rintro e w1 ⟨rfl, b1⟩
    have B1 := Lib.hid b1; clear b1
    go_wp2
    go_ret
    exact ⟨rfl, B1.out⟩
  · have P := Lib.hid (parse_any s (by omega))
    have Q := Lib.hid (rparse_any s (by omega))
    have NA := Lib.hid (name_any s (by omega))
    have CA := Lib.hid (check_any s (by omega))
    obtain ⟨h6, _⟩ := parseL_few s.data.toList
    have S := Lib.hid (fun A C c d w h h' => rsame_any A C (parseL s.data.toList) (parseL s.data.toList) c d (by omega) (by omega) w h h')
    rw [show decide (parseL s.data.toList = parseL s.data.toList) = true from by simp] at S
    unfold GivesParse at P
    unfold GivesParseR at Q
    have hnc := check_name (l := s.data.toList)
    generalize parseL s.data.toList = L at *
    generalize bs (parseS s.data.toList) = sb at *
    generalize parseE s.data.toList = E at *
    generalize name s.data.toList = nm at *
    generalize check s.data.toList = ck at *
    have key : (nm = true ∧ ck = 0) ∨ (nm = false ∧ ¬ (ck : Int) = 0) := by
      cases nm
      · exact .inr ⟨rfl, fun h => by have := hnc.1 (by omega); cases this⟩
      · exact .inl ⟨rfl, hnc.2 rfl⟩
    clear hnc
    rcases key with ⟨rfl, rfl⟩ | ⟨rfl, hck⟩
    all_goals
      first
      | have hck2 : ((ck : Int) == 0) = false := by simpa using hck
      | skip
      go_enter Try.func3, Try.ntmps3
      go_wp2_with fail
      refine (P.out _).mono ?_; rintro e w1 ⟨A, c, rfl, o1, b1⟩
      have R1 := Lib.hid o1.rs
      have B1 := Lib.hid b1; clear o1 b1
      go_wp2_with fail
      refine (Q.out _).mono ?_; rintro e w2 ⟨A2, c2, rfl, o2, b2⟩
      have R2 := Lib.hid o2
      have R1' := Lib.hid (R1.out.kept b2)
      have B2 := Lib.hid (B1.out.trans (b2.mono B1.out.size)); clear o2 b2
      go_wp2_with fail
      refine (S.out _ _ _ _ _ R1'.out R2.out).mono ?_; rintro e w3 ⟨rfl, b3⟩
      have B3 := Lib.hid (B2.out.trans (b3.mono B2.out.size)); clear b3
      go_wp2_with fail
      refine (NA.out _).mono ?_; rintro e w4 ⟨rfl, rfl⟩
      go_wp2_with fail
      refine (CA.out _).mono ?_; rintro e w4 ⟨rfl, rfl⟩
      go_wp2_with fail
      refine (AW.out _).mono ?_; rintro e w4 ⟨rfl, b4⟩
      have B4 := Lib.hid (B3.out.trans (b4.mono B3.out.size)); clear b4
      go_wp2
      go_ret
      exact ⟨rfl, B4.out⟩
theorem texts_any (s : ByteArray) (hs : s.size ≤ maxLen) (A : Option Addr) (l : List B) (c : Nat) (hl : l.length ≤ maxLen) (hc : l.length ≤ c) (hx : ∀ x ∈ l, x.length ≤ maxLen) (w : World) (h : Rs w A l) :
    Calls Try.prog 4 #[.string s, .slice A l.length c] w fun e w' => e = .returned (.bool true) ∧ Below w.heap.size w w' := by
  have AW := Lib.hid awake_any
  have F := Lib.hid (few_any A l c hl w h hx)
  have HR := Lib.hid h
  have HT := Lib.hid (fun (hf : Few l) (hs : s.size ≤ 200) w h => text_any A l c s (by have := hf.1; omega) hc (fun x hx => by have := hf.2 x hx; omega) (by omega) w h)
  have HU := Lib.hid (fun (hf : Few l) (hs : s.size ≤ 200) w h => rtext_any A l c s (by have := hf.1; omega) (fun x hx => by have := hf.2 x hx; omega) (by omega) w h)
  unfold GivesText at HT HU
  unfold maxLen at hs hl
  clear h hx
  generalize bs (textS s.data.toList l) = T at *
  generalize textE s.data.toList l = E at *
  generalize l.length = n at *
  go_enter Try.func4, Try.ntmps4
  go_wp2_with fail
  refine F.out.mono ?_; rintro e w1 ⟨b, rfl, rfl, hf⟩
  have HF := Lib.hid hf; clear hf
  cases b
  · go_wp2_with fail
    refine (AW.out _).mono ?_; rintro e w1 ⟨rfl, b1⟩
    have B1 := Lib.hid b1; clear b1
    go_wp2
    go_ret
    exact ⟨rfl, B1.out⟩
  · by_cases h2 : 200 < s.size
    · go_wp2_with fail
      refine (AW.out _).mono ?_; rintro e w1 ⟨rfl, b1⟩
      have B1 := Lib.hid b1; clear b1
      go_wp2
      go_ret
      exact ⟨rfl, B1.out⟩
    · go_wp2_with fail
      refine (HT.out (HF.out (by trivial)) (by omega) _ HR.out).mono ?_; rintro e w1 ⟨rfl, b1⟩
      have B1 := Lib.hid b1; clear b1
      go_wp2_with fail
      refine (HU.out (HF.out (by trivial)) (by omega) _ (HR.out.kept B1.out)).mono ?_; rintro e w2 ⟨rfl, b2⟩
      have B2 := Lib.hid (B1.out.trans (b2.mono B1.out.size)); clear b2
      go_wp2_with fail
      refine (AW.out _).mono ?_; rintro e w3 ⟨rfl, b3⟩
      have B3 := Lib.hid (B2.out.trans (b3.mono B2.out.size)); clear b3
      go_wp2
      go_ret
      exact ⟨rfl, B3.out⟩
end Go.Proofs.Ytaiabcmgpkkfhaa
