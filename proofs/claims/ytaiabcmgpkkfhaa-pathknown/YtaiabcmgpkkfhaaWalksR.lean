/- The law PathBack, all ways. Conditions: what comes in is as long as may be. -/
import Derived.Test.YtaiabcmgpkkfhaaWalksQ
namespace Go.Proofs.Ytaiabcmgpkkfhaa
open Go.ChangeShapes Go.WideShapes Go.RowKit Go.Path
set_option maxRecDepth 100000
set_option linter.unusedVariables false
set_option linter.unusedSimpArgs false
theorem back_long (A : Option Addr) (l : List B) (c n : Nat) (s p : ByteArray) (w : World) (hs : s.size ≤ 9223372036854775807) (hp : p.size ≤ 9223372036854775807) (hlong : 200 < s.size ∨ (s.size ≤ 200 ∧ 1000 < p.size))
    (F : Hid (Calls Try.prog 15 #[.slice A n c] w (FewPost l w))) (AW : Hid (∀ w, Says 9 #[] true w)) : Says 7 #[.string s, .slice A n c, .string p] true w := by
  rcases hlong with h1 | ⟨h1, h2⟩
  all_goals
    go_enter Try.func7, Try.ntmps7
    go_wp2_with fail
    refine F.out.mono ?_; rintro e w1 ⟨b, rfl, rfl, hf⟩
    clear hf
    cases b
    all_goals
      go_wp2_with fail
      refine (AW.out _).mono ?_; rintro e w1 ⟨rfl, b1⟩
      have B1 := Lib.hid b1; clear b1
      go_wp2
      go_ret
      exact ⟨rfl, B1.out⟩
theorem back_any (s : ByteArray) (A : Option Addr) (l : List B) (c : Nat) (p : ByteArray) (hs : s.size ≤ maxLen) (hl : l.length ≤ maxLen) (hc : l.length ≤ c) (hx : ∀ x ∈ l, x.length ≤ maxLen) (hp : p.size ≤ maxLen) (w : World) (h : Rs w A l) :
    Says 7 #[.string s, .slice A l.length c, .string p] true w := by
  have F := Lib.hid (few_any A l c hl w h hx)
  have AW : Hid (∀ w, Says 9 #[] true w) := awake_any
  unfold maxLen at hs hl hp
  by_cases hlong : 200 < s.size ∨ (s.size ≤ 200 ∧ 1000 < p.size)
  · exact back_long A l c l.length s p w hs hp hlong F AW
  have hs2 : s.size ≤ 200 := by omega
  have hp2 : p.size ≤ 1000 := by omega
  have TX : Few l → ∀ w, Rs w A l → Calls Try.prog 16 #[.string s, .slice A l.length c] w (GivesText s.data.toList l w) := fun g w h => text_any A l c s (by have := g.1; omega) hc (fun x hx => by have := g.2 x hx; omega) (by omega) w h
  have UP : Few l → ∀ w, Rs w A l → Calls Try.prog 18 #[.slice A l.length c] w fun e w' => ∃ C d x, e = .returned (.tuple #[.slice C (l.length - 1) d, .string x]) ∧ l.length - 1 ≤ d ∧ Rs w' C l.dropLast ∧ Below w.heap.size w w' := fun g w h =>
    (up_any A l c (by have := g.1; omega) hc w h).mono fun e w' ⟨C, d, e1, o, b⟩ => ⟨C, d, _, e1, o.2.1, o.rs, b⟩
  have hdl : l.dropLast.length = l.length - 1 := List.length_dropLast
  have W1 : Few l → ∀ w, Rs w A l → Says 21 #[.slice A l.length c, .slice A l.length c] true w := fun g w h => by
    have := within_any A A l l c c (by have := g.1; omega) (by have := g.1; omega) hc w h h
    rwa [within_self] at this
  have W2 : Few l → ∀ C d w, Rs w C l.dropLast → Rs w A l → Says 21 #[.slice C (l.length - 1) d, .slice A l.length c] true w := fun g C d w h h' => by
    have := within_any C A l.dropLast l d c (by have := g.1; omega) (by have := g.1; omega) hc w h h'
    rwa [within_up, hdl] at this
  have W3 : Few l → ∀ w, Rs w A l → Says 21 #[.slice none 0 0, .slice A l.length c] true w := fun g w h => by
    have := within_any none A [] l 0 c (by simp) (by have := g.1; omega) hc w Rs.nil h
    rwa [within_nil] at this
  have W4 : l ≠ [] → Few l → ∀ C d w, l.length - 1 ≤ d → Rs w A l → Rs w C l.dropLast → Says 21 #[.slice A l.length c, .slice C (l.length - 1) d] false w := fun hne g C d w hd h h' => by
    have := within_any A C l l.dropLast c d (by have := g.1; omega) (by have := g.1; omega) (by omega) w h h'
    rwa [within_not l hne, hdl] at this
  have SA : Few l → ∀ A C c d w, Rs w A l → Rs w C l → Says 28 #[.slice A l.length c, .slice C l.length d] true w := fun g A C c d w h h' => by
    have := same_any A C l l c d (by have := g.1; omega) (by have := g.1; omega) w h h'
    rwa [show decide (l = l) = true from by simp] at this
  have P2 := parse_any p (by omega)
  have P1 : textE s.data.toList l = 0 → ∀ w, Calls Try.prog 10 #[.string (bs (textS s.data.toList l))] w fun e w' => ∃ A c, e = .returned (.tuple #[.string s, .slice A l.length c, .int .i64 (0 : Nat)]) ∧ Own w' w.heap.size A l.length c l ∧ Below w.heap.size w w' := fun hE w => by
    obtain ⟨p1, p2, p3⟩ := parse_text hE
    have hlen : (textS s.data.toList l).length ≤ 120 := by
      unfold parseE at p1
      by_cases g : 120 < (textS s.data.toList l).length
      · rw [if_pos g] at p1; cases p1
      · omega
    have := parse_any (bs (textS s.data.toList l)) (by rw [bs_size]; omega) w
    rw [bs_data] at this
    unfold GivesParse at this
    rw [p1, p2, p3, bs_of] at this
    exact this
  have TM : parseE p.data.toList = 0 → ∀ A c w, (parseL p.data.toList).length ≤ c → Rs w A (parseL p.data.toList) → Calls Try.prog 16 #[.string (bs (parseS p.data.toList)), .slice A (parseL p.data.toList).length c] w fun e w' => e = .returned (.tuple #[.string p, .int .i64 (0 : Nat)]) ∧ Below w.heap.size w w' := fun hE A c w hc h => by
    obtain ⟨t1, t2⟩ := text_parse hE
    obtain ⟨h6, h16⟩ := parseL_few p.data.toList
    have := text_any A (parseL p.data.toList) c (bs (parseS p.data.toList)) (by omega) hc (fun x hx => by have := h16 x hx; omega) (by rw [bs_size]; have := parseS_few p.data.toList; omega) w h
    rw [bs_data] at this
    unfold GivesText at this
    rw [t1, t2, bs_of] at this
    exact this
  unfold GivesText at TX
  unfold GivesParse at P2
  have P2x : ∀ w, Calls Try.prog 10 #[.string p] w fun e w' => ∃ A c, e = .returned (.tuple #[.string (bs (parseS p.data.toList)), .slice A (parseL p.data.toList).length c, .int .i64 (parseE p.data.toList)]) ∧ Below w.heap.size w w' := fun w =>
    (P2 w).mono fun e w' ⟨A, c, e1, _, b⟩ => ⟨A, c, e1, b⟩
  by_cases hz : l = []
  · subst hz
    by_cases hE : textE s.data.toList [] = 0
    · have P1' := P1 hE
      rw [hE] at TX
      by_cases hf : parseE p.data.toList = 0
      · have TM' := TM hf
        rw [hf] at P2
        exact back_efz A [] c s p _ w h (Nat.zero_le _) hs2 hp2 F AW TX P1' SA _ _ _ P2 TM' UP W1 W2 W3
      · exact back_exz A [] c s p _ w h (Nat.zero_le _) hs2 hp2 F AW TX P1' SA _ _ _ (by omega) (by simpa using hf) P2x UP W1 W2 W3
    · by_cases hf : parseE p.data.toList = 0
      · have TM' := TM hf
        rw [hf] at P2
        exact back_xfz A [] c _ s p _ w h (Nat.zero_le _) hs2 hp2 F AW (by omega) (by simpa using hE) TX _ _ _ P2 TM' UP W1 W2 W3
      · exact back_xxz A [] c _ s p _ w h (Nat.zero_le _) hs2 hp2 F AW (by omega) (by simpa using hE) TX _ _ _ (by omega) (by simpa using hf) P2x UP W1 W2 W3
  · have hpos := List.length_pos_iff.2 hz
    have W4' := W4 hz
    by_cases hE : textE s.data.toList l = 0
    · have P1' := P1 hE
      rw [hE] at TX
      by_cases hf : parseE p.data.toList = 0
      · have TM' := TM hf
        rw [hf] at P2
        exact back_efx A l c _ s p _ w h hc hs2 hp2 hpos hl F AW TX P1' SA _ _ _ P2 TM' UP W1 W2 W3 W4'
      · exact back_exx A l c _ s p _ w h hc hs2 hp2 hpos hl F AW TX P1' SA _ _ _ (by omega) (by simpa using hf) P2x UP W1 W2 W3 W4'
    · by_cases hf : parseE p.data.toList = 0
      · have TM' := TM hf
        rw [hf] at P2
        exact back_xfx A l c _ _ s p _ w h hc hs2 hp2 hpos hl F AW (by omega) (by simpa using hE) TX _ _ _ P2 TM' UP W1 W2 W3 W4'
      · exact back_xxx A l c _ _ s p _ w h hc hs2 hp2 hpos hl F AW (by omega) (by simpa using hE) TX _ _ _ (by omega) (by simpa using hf) P2x UP W1 W2 W3 W4'
end Go.Proofs.Ytaiabcmgpkkfhaa
