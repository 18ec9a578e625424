/- What is above, by the document; moves, in both. Conditions: a hundred thousand names at most. -/
import Derived.Test.YtaiabcmgpkkfhaaWalksE
namespace Go.Proofs.Ytaiabcmgpkkfhaa
open Go.ChangeShapes Go.WideShapes Go.RowKit Go.Path
set_option maxRecDepth 100000
set_option linter.unusedVariables false
set_option linter.unusedSimpArgs false
theorem Own.base {w : World} {b b' n c : Nat} {A : Option Addr} {xs : List B} (h : Own w b A n c xs) (hb : b' ≤ b) : Own w b' A n c xs := by
  obtain ⟨h1, h2, h3 | h3⟩ := h
  · exact ⟨h1, h2, .inl h3⟩
  · refine ⟨h1, h2, .inr ⟨h3.1, ?_⟩⟩
    rcases h3.2 with h | ⟨g, cap, cur, hv, hg, hh⟩
    · exact .inl h
    · exact .inr ⟨g, cap, cur, hv, Nat.le_trans hb hg, hh⟩
theorem rup_any (A : Option Addr) (xs : List B) (c : Nat) (hl : xs.length ≤ 100000) (hc : xs.length ≤ c) (w : World) (h : Rs w A xs) :
    Calls Try.prog 19 #[.slice A xs.length c] w (GivesUp xs w) := by
  rcases List.eq_nil_or_concat xs with rfl | ⟨r, x, rfl⟩
  · unfold GivesUp
    go_enter Try.func19, Try.ntmps19
    go_wp2
    go_ret2
    exact ⟨none, 0, rfl, Own.nil _ _ _, Below.refl _ _⟩
  · rw [List.concat_eq_append] at *
    have hu : GivesUp (r ++ [x]) w = fun e w' => ∃ A c, e = .returned (.tuple #[.slice A r.length c, .string (bs x)]) ∧ Own w' w.heap.size A r.length c r ∧ Below w.heap.size w w' := by
      unfold GivesUp; simp
    rw [hu]
    obtain ⟨b, o, rfl, hlt, hcell⟩ := h.at_ (k := r.length) (x := x) (by simp)
    have hr : Rs w (some ⟨b, o, none⟩) r := by have := h.take r.length; simpa using this
    have hk : (r ++ [x]).length = r.length + 1 := by simp
    rw [hk] at hl hc ⊢
    obtain ⟨n, hn⟩ : ∃ n, n = r.length := ⟨_, rfl⟩
    rw [← hn] at hl hc hcell ⊢
    have HR := Lib.hid hr; have HN := Lib.hid hn; clear h hu hr hk hn
    generalize bs x = s at *
    have i1 : (0 : Int) ≤ (n : Int) := by omega
    have i2 : (n : Int) ≤ (n : Int) + 1 := by omega
    have i3 : (n : Int) ≤ (c : Int) := by omega
    have i4 : (n : Int) < (n : Int) + 1 := by omega
    have i5 : ¬ (n : Int) + 1 = 0 := by omega
    go_enter Try.func19, Try.ntmps19
    go_wp2_with (first
      | (at_builtin; refine wpList_app rfl (.tmp 8) (.tmp 13) rfl w.heap.size none 0 0 [] rfl (Own.nil _ _ _) (some ⟨b, o, none⟩) n c r rfl HN.out HR.out ?c1 (Nat.le_refl _) ?_))
    case c1 => have := HN.out; simp; omega
    intro A1 c1 w1 o1 b1
    have hc1 := (b1.cell (p := ⟨b, o + n, none⟩) hlt).trans hcell
    have O1 := Lib.hid o1; have B1 := Lib.hid b1; clear o1 b1
    go_wp2
    go_quiet (fail)
    go_wp2
    go_ret2
    exact ⟨A1, c1, rfl, O1.out, B1.out.trans ((below_drewN _ _).mono B1.out.size)⟩
theorem Rs.drop1 {w : World} {A : Option Addr} {l : List B} {k c : Nat} (h : Rs w A l) (hk : k ≤ l.length) (hc : l.length ≤ c) (e : c = k) : Rs w A (l.drop k) := by
  have := h.drop k c hk hc
  rwa [if_pos e] at this
theorem Rs.drop2 {w : World} {A : Option Addr} {l : List B} {k c : Nat} (h : Rs w A l) (hk : k ≤ l.length) (hc : l.length ≤ c) (e : ¬ c = k) : Rs w (A.map fun x => x.add k) (l.drop k) := by
  have := h.drop k c hk hc
  rwa [if_neg e, Nat.mul_one] at this
theorem move_any (A F T : Option Addr) (l fr tt : List B) (c cf ct : Nat) (hl : l.length ≤ 50000) (hf : fr.length ≤ 50000) (ht : tt.length ≤ 50000) (hc : l.length ≤ c) (w : World) (h : Rs w A l) (h2 : Rs w F fr) (h3 : Rs w T tt) :
    Calls Try.prog 20 #[.slice A l.length c, .slice F fr.length cf, .slice T tt.length ct] w (Gives (Path.move l fr tt) w) := by
  have K := Lib.hid (fun w h2 h => within_any F A fr l cf c (by omega) (by omega) hc w h2 h)
  have H := Lib.hid h; have H2 := Lib.hid h2; have H3 := Lib.hid h3; clear h h2 h3
  by_cases hw : within fr l = true
  · have hm : Path.move l fr tt = tt ++ l.drop fr.length := if_pos hw
    have hle : fr.length ≤ l.length := (of_decide_eq_true hw).1
    rw [hm]
    rw [hw] at K
    by_cases hck : c = fr.length
    · have hlk : l.length = fr.length := by omega
      have hnil : l.drop fr.length = [] := by rw [← hlk, List.drop_length]
      rw [hnil, List.append_nil]
      have K2 := Lib.hid (fun A2 c2 w h => taken_any T A2 tt [] ct c2 (by omega) (by simp) w h Rs.nil)
      rw [List.append_nil, List.length_nil] at K2
      unfold Gives at K2 ⊢
      rw [hlk] at K ⊢
      rw [hck] at K ⊢
      clear hnil hlk hck hm hw hl hc hle
      generalize fr.length = k at *
      generalize tt.length = m at *
      go_enter Try.func20, Try.ntmps20
      go_wp2_with fail
      refine (K.out _ H2.out H.out).mono ?_; rintro e w1 ⟨rfl, b1⟩
      have B1 := Lib.hid b1; clear b1
      go_wp2_with fail
      refine (K2.out _ _ _ (H3.out.kept B1.out)).mono ?_; rintro e w2 ⟨A2, c2, rfl, o2, b2⟩
      have O2 := Lib.hid o2; have B2 := Lib.hid b2; clear o2 b2
      go_wp2
      go_ret
      exact ⟨A2, c2, rfl, O2.out.base B1.out.size, B1.out.trans (B2.out.mono B1.out.size)⟩
    have K2 := Lib.hid (fun A2 c2 w h h2 => taken_any T A2 tt (l.drop fr.length) ct c2 (by omega) (by simp; omega) w h h2)
    rw [List.length_drop] at K2
    have D := Lib.hid (Rs.drop2 H.out hle hc hck)
    unfold Gives at K2 ⊢
    generalize tt ++ l.drop fr.length = R at *
    generalize fr.length = k at *
    generalize l.length = n at *
    generalize tt.length = m at *
    clear hw hm
    have i1 : (k : Int) ≤ (n : Int) := by omega
    have i2 : (n : Int) ≤ (c : Int) := by omega
    go_enter Try.func20, Try.ntmps20
    go_wp2_with fail
    refine (K.out _ H2.out H.out).mono ?_; rintro e w1 ⟨rfl, b1⟩
    have B1 := Lib.hid b1; clear b1
    go_wp2_with fail
    refine (K2.out _ _ _ (H3.out.kept B1.out) (D.out.kept B1.out)).mono ?_; rintro e w2 ⟨A2, c2, rfl, o2, b2⟩
    have O2 := Lib.hid o2; have B2 := Lib.hid b2; clear o2 b2
    go_wp2
    go_ret
    exact ⟨A2, c2, rfl, O2.out.base B1.out.size, B1.out.trans (B2.out.mono B1.out.size)⟩
  · have hw' : within fr l = false := by simpa using hw
    have hm : Path.move l fr tt = l := if_neg hw
    rw [hm]
    rw [hw'] at K
    have K2 := Lib.hid (fun w h => taken_any A none l [] c 0 (by omega) (by simp) w h Rs.nil)
    rw [List.append_nil, List.length_nil] at K2
    unfold Gives at K2 ⊢
    generalize fr.length = k at *
    generalize l.length = n at *
    generalize tt.length = m at *
    clear hw hw' hm
    go_enter Try.func20, Try.ntmps20
    go_wp2_with fail
    refine (K.out _ H2.out H.out).mono ?_; rintro e w1 ⟨rfl, b1⟩
    have B1 := Lib.hid b1; clear b1
    go_wp2_with fail
    refine (K2.out _ (H.out.kept B1.out)).mono ?_; rintro e w2 ⟨A2, c2, rfl, o2, b2⟩
    have O2 := Lib.hid o2; have B2 := Lib.hid b2; clear o2 b2
    go_wp2
    go_ret
    exact ⟨A2, c2, rfl, O2.out.base B1.out.size, B1.out.trans (B2.out.mono B1.out.size)⟩
theorem rmove_any (A F T : Option Addr) (l fr tt : List B) (c cf ct : Nat) (hl : l.length ≤ 50000) (hf : fr.length ≤ 50000) (ht : tt.length ≤ 50000) (hc : l.length ≤ c) (w : World) (h : Rs w A l) (h2 : Rs w F fr) (h3 : Rs w T tt) :
    Calls Try.prog 23 #[.slice A l.length c, .slice F fr.length cf, .slice T tt.length ct] w (Gives (Path.move l fr tt) w) := by
  have K := Lib.hid (fun w h2 h => rwithin_any F A fr l cf c (by omega) (by omega) w h2 h)
  have H := Lib.hid h; have H2 := Lib.hid h2; have H3 := Lib.hid h3; clear h h2 h3
  have HL := Lib.hid (And.intro hl ht)
  by_cases hw : within fr l = true
  · have hm : Path.move l fr tt = tt ++ l.drop fr.length := if_pos hw
    have hle : fr.length ≤ l.length := (of_decide_eq_true hw).1
    rw [hm]
    rw [hw] at K
    by_cases hck : c = fr.length
    · have hlk : l.length = fr.length := by omega
      have hnil : l.drop fr.length = [] := by rw [← hlk, List.drop_length]
      rw [hnil, List.append_nil]
      unfold Gives
      rw [hlk] at K ⊢
      rw [hck] at ⊢
      obtain ⟨m, hm'⟩ : ∃ m, m = tt.length := ⟨_, rfl⟩
      rw [← hm'] at ht ⊢
      have HM := Lib.hid hm'
      rw [hck] at K
      clear hnil hlk hck hm hw hl hc hle hm'
      generalize fr.length = k at *
      go_enter Try.func23, Try.ntmps23
      go_wp2_with fail
      refine (K.out _ H2.out H.out).mono ?_; rintro e w1 ⟨rfl, b1⟩
      have B1 := Lib.hid b1; clear b1
      go_wp2_with (first
        | (at_builtin; refine wpList_app rfl (.tmp 15) (.tmp 16) rfl w.heap.size none 0 0 [] rfl (Own.nil _ _ _) T m ct tt rfl HM.out (H3.out.kept B1.out) ?ca B1.out.size ?_))
      case ca => have := HL.out; simp; omega
      intro A2 c2 w2 o2 b2
      have o2' : Own w2 w.heap.size A2 m c2 tt := by simpa using o2
      have O2 := Lib.hid o2'
      have B2 := Lib.hid (B1.out.trans b2); clear o2 o2' b2
      go_wp2_with (first
        | (at_builtin; refine wpList_app rfl (.tmp 18) (.tmp 22) rfl w.heap.size A2 m c2 tt rfl O2.out A 0 0 [] rfl rfl Rs.nil ?cb B2.out.size ?_))
      case cb => have := HL.out; simp; omega
      intro A3 c3 w3 o3 b3
      have o3' : Own w3 w.heap.size A3 m c3 tt := by simpa using o3
      have O3 := Lib.hid o3'
      have B3 := Lib.hid (B2.out.trans b3); clear o3 o3' b3
      go_wp2
      go_ret
      exact ⟨A3, c3, rfl, O3.out, B3.out⟩
    have D := Lib.hid (Rs.drop2 H.out hle hc hck)
    unfold Gives
    have hR : (tt ++ l.drop fr.length).length = tt.length + (l.length - fr.length) := by simp
    rw [hR]
    have HDn := Lib.hid (List.length_drop (i := fr.length) (l := l)).symm
    generalize hD : l.drop fr.length = Dl at *
    clear hD hR
    generalize fr.length = k at *
    obtain ⟨n, hn⟩ : ∃ n, n = l.length := ⟨_, rfl⟩
    obtain ⟨m, hm'⟩ : ∃ m, m = tt.length := ⟨_, rfl⟩
    rw [← hn] at hl hc hle K HDn ⊢
    rw [← hm'] at ht ⊢
    have HN := Lib.hid hn; have HM := Lib.hid hm'
    clear hw hm hn hm'
    have i1 : (k : Int) ≤ (n : Int) := by omega
    have i2 : (n : Int) ≤ (c : Int) := by omega
    go_enter Try.func23, Try.ntmps23
    go_wp2_with fail
    refine (K.out _ H2.out H.out).mono ?_; rintro e w1 ⟨rfl, b1⟩
    have B1 := Lib.hid b1; clear b1
    go_wp2_with (first
      | (at_builtin; refine wpList_app rfl (.tmp 15) (.tmp 16) rfl w.heap.size none 0 0 [] rfl (Own.nil _ _ _) T m ct tt rfl HM.out (H3.out.kept B1.out) ?cc B1.out.size ?_))
    case cc => have := HL.out; simp; omega
    intro A2 c2 w2 o2 b2
    have o2' : Own w2 w.heap.size A2 m c2 tt := by simpa using o2
    have O2 := Lib.hid o2'
    have B2 := Lib.hid (B1.out.trans b2); clear o2 o2' b2
    go_wp2_with (first
      | (at_builtin; refine wpList_app rfl (.tmp 18) (.tmp 22) rfl w.heap.size A2 m c2 tt rfl O2.out (A.map fun x => x.add k) (n - k) (c - k) Dl rfl HDn.out (D.out.kept B2.out) ?cd B2.out.size ?_))
    case cd => have := HL.out; have := HDn.out; have := HN.out; omega
    intro A3 c3 w3 o3 b3
    have O3 := Lib.hid o3
    have B3 := Lib.hid (B2.out.trans b3); clear o3 b3
    go_wp2
    go_ret
    exact ⟨A3, c3, rfl, O3.out, B3.out⟩
  · have hw' : within fr l = false := by simpa using hw
    have hm : Path.move l fr tt = l := if_neg hw
    rw [hm]
    rw [hw'] at K
    unfold Gives
    obtain ⟨n, hn⟩ : ∃ n, n = l.length := ⟨_, rfl⟩
    rw [← hn] at hl hc K ⊢
    have HN := Lib.hid hn
    generalize fr.length = k at *
    generalize tt.length = m at *
    clear hw hw' hm hn
    go_enter Try.func23, Try.ntmps23
    go_wp2_with fail
    refine (K.out _ H2.out H.out).mono ?_; rintro e w1 ⟨rfl, b1⟩
    have B1 := Lib.hid b1; clear b1
    go_wp2_with (first
      | (at_builtin; refine wpList_app rfl (.tmp 12) (.tmp 13) rfl w.heap.size none 0 0 [] rfl (Own.nil _ _ _) A n c l rfl HN.out (H.out.kept B1.out) ?ce B1.out.size ?_))
    case ce => have := HL.out; simp; omega
    intro A2 c2 w2 o2 b2
    have o2' : Own w2 w.heap.size A2 n c2 l := by simpa using o2
    have O2 := Lib.hid o2'
    have B2 := Lib.hid (B1.out.trans b2); clear o2 o2' b2
    go_wp2
    go_ret
    exact ⟨A2, c2, rfl, O2.out, B2.out⟩
end Go.Proofs.Ytaiabcmgpkkfhaa
