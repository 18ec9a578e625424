/- The law PathReturns. Conditions: what comes in is as long as may be. -/
import Derived.Test.YtaiabcmgpkkfhaaWalksN
namespace Go.Proofs.Ytaiabcmgpkkfhaa
open Go.ChangeShapes Go.WideShapes Go.RowKit Go.Path
set_option maxRecDepth 100000
set_option linter.unusedVariables false
set_option linter.unusedSimpArgs false
set_option maxHeartbeats 1000000 in
theorem returns_any (A F T : Option Addr) (rest fr tt : List B) (c cf ct : Nat) (hl : rest.length ≤ maxLen) (hf : fr.length ≤ maxLen) (ht : tt.length ≤ maxLen) (hc : rest.length ≤ c) (hcf : fr.length ≤ cf) (hct : tt.length ≤ ct)
    (hx : ∀ x ∈ rest, x.length ≤ maxLen) (hxf : ∀ x ∈ fr, x.length ≤ maxLen) (hxt : ∀ x ∈ tt, x.length ≤ maxLen) (w : World) (h : Rs w A rest) (h2 : Rs w F fr) (h3 : Rs w T tt) :
    Calls Try.prog 8 #[.slice A rest.length c, .slice F fr.length cf, .slice T tt.length ct] w fun e w' => e = .returned (.bool true) ∧ Below w.heap.size w w' := by
  have AW := Lib.hid awake_any
  have F0 := Lib.hid (few_any A rest c hl w h hx)
  have F1 := Lib.hid (few_any F fr cf hf w h2 hxf)
  have F2 := Lib.hid (few_any T tt ct ht w h3 hxt)
  have R0 := Lib.hid h; have R1 := Lib.hid h2; have R2 := Lib.hid h3
  clear h h2 h3 hx hxf hxt
  obtain ⟨mb1, mb2⟩ := move_back rest fr tt
  have M1 := Lib.hid (fun (g0 : Few rest) (g1 : Few fr) (g2 : Few tt) A c hc w h h2 h3 => move_any A F T (fr ++ rest) fr tt c cf ct (by have := g0.1; have := g1.1; simp; omega) (by have := g1.1; omega) (by have := g2.1; omega) hc w h h2 h3)
  have M2 := Lib.hid (fun (g0 : Few rest) (g1 : Few fr) (g2 : Few tt) A c hc w h h2 h3 => move_any A T F (tt ++ rest) tt fr c ct cf (by have := g0.1; have := g2.1; simp; omega) (by have := g2.1; omega) (by have := g1.1; omega) hc w h h2 h3)
  have WI := Lib.hid (fun (g0 : Few rest) (g2 : Few tt) A d hd w h h' => within_any T A tt (tt ++ rest) ct d (by have := g2.1; omega) (by have := g0.1; have := g2.1; simp; omega) hd w h h')
  have SA := Lib.hid (fun (g0 : Few rest) (g1 : Few fr) A C c d w h h' => same_any A C (fr ++ rest) (fr ++ rest) c d (by have := g0.1; have := g1.1; simp; omega) (by have := g0.1; have := g1.1; simp; omega) w h h')
  rw [mb1] at M1
  rw [mb2] at M2
  rw [within_append] at WI
  rw [show decide (fr ++ rest = fr ++ rest) = true from by simp] at SA
  unfold Gives at M1 M2
  have hlen1 : (fr ++ rest).length = fr.length + rest.length := List.length_append
  have hlen2 : (tt ++ rest).length = tt.length + rest.length := List.length_append
  rw [hlen1, hlen2] at M1 M2
  rw [hlen2] at WI
  rw [hlen1] at SA
  obtain ⟨n0, hn0⟩ : ∃ n, n = rest.length := ⟨_, rfl⟩
  obtain ⟨n1, hn1⟩ : ∃ n, n = fr.length := ⟨_, rfl⟩
  obtain ⟨n2, hn2⟩ : ∃ n, n = tt.length := ⟨_, rfl⟩
  rw [← hn0] at M1 M2 WI SA hl hc F0 ⊢
  rw [← hn1] at M1 M2 SA hf hcf F1 ⊢
  rw [← hn2] at M1 M2 WI ht hct F2 ⊢
  have N0 := Lib.hid hn0; have N1 := Lib.hid hn1
  have BN := Lib.hid (show Few rest → Few fr → Few tt → n0 ≤ 30 ∧ n1 ≤ 30 ∧ n2 ≤ 30 from fun a b c => ⟨by rw [hn0]; exact a.1, by rw [hn1]; exact b.1, by rw [hn2]; exact c.1⟩)
  unfold maxLen at hl hf ht
  clear mb1 mb2 hlen1 hlen2 hn0 hn1 hn2
  go_enter Try.func8, Try.ntmps8
  go_wp2_with fail
  refine F0.out.mono ?_; rintro e w1 ⟨b, rfl, rfl, hf0⟩
  have HF0 := Lib.hid hf0; clear hf0
  cases b
  · go_wp2_with fail
    refine (AW.out _).mono ?_; rintro e w1 ⟨rfl, b1⟩
    have B1 := Lib.hid b1; clear b1
    go_wp2
    go_ret
    exact ⟨rfl, B1.out⟩
  go_wp2_with fail
  refine F1.out.mono ?_; rintro e w1 ⟨b, rfl, rfl, hf1⟩
  have HF1 := Lib.hid hf1; clear hf1
  cases b
  · go_wp2_with fail
    refine (AW.out _).mono ?_; rintro e w1 ⟨rfl, b1⟩
    have B1 := Lib.hid b1; clear b1
    go_wp2
    go_ret
    exact ⟨rfl, B1.out⟩
  go_wp2_with fail
  refine F2.out.mono ?_; rintro e w1 ⟨b, rfl, rfl, hf2⟩
  have HF2 := Lib.hid hf2; clear hf2
  cases b
  · go_wp2_with fail
    refine (AW.out _).mono ?_; rintro e w1 ⟨rfl, b1⟩
    have B1 := Lib.hid b1; clear b1
    go_wp2
    go_ret
    exact ⟨rfl, B1.out⟩
  have G0 := Lib.hid (HF0.out (by trivial)); have G1 := Lib.hid (HF1.out (by trivial)); have G2 := Lib.hid (HF2.out (by trivial))
  obtain ⟨q0, q1, q2⟩ := BN.out G0.out G1.out G2.out
  clear HF0 HF1 HF2 F0 F1 F2 hl hf ht
  go_wp2_with (first
    | (at_builtin; refine wpList_app rfl (.tmp 23) (.tmp 24) rfl w.heap.size none 0 0 [] rfl (Own.nil _ _ _) F n1 cf fr rfl N1.out R1.out ?c1 (Nat.le_refl _) ?_))
  case c1 => have := N1.out; simp; omega
  intro A1 c1 w1 o1 b1
  have o1' : Own w1 w.heap.size A1 n1 c1 fr := by simpa using o1
  have O1 := Lib.hid o1'; have B1 := Lib.hid b1; clear o1 o1' b1
  go_wp2_with (first
    | (at_builtin; refine wpList_app rfl (.tmp 26) (.tmp 27) rfl w.heap.size A1 n1 c1 fr rfl O1.out A n0 c rest rfl N0.out (R0.out.kept B1.out) ?c2 B1.out.size ?_))
  case c2 => have := N0.out; have := N1.out; omega
  intro A2 c2 w2 o2 b2
  have hc2 := o2.2.1
  have O2 := Lib.hid o2; have B2 := Lib.hid (B1.out.trans b2); have C2 := Lib.hid hc2; clear o2 b2 hc2
  go_wp2_with fail
  refine (M1.out G0.out G1.out G2.out _ _ C2.out _ O2.out.rs (R1.out.kept B2.out) (R2.out.kept B2.out)).mono ?_; rintro e w3 ⟨A3, c3, rfl, o3, b3⟩
  have C3 := Lib.hid o3.2.1
  have RL := Lib.hid (O2.out.rs.kept b3)
  have RM := Lib.hid o3.rs; have B3 := Lib.hid (B2.out.trans (b3.mono B2.out.size)); clear o3 b3
  go_wp2_with fail
  refine (WI.out G0.out G2.out _ _ C3.out _ (R2.out.kept B3.out) RM.out).mono ?_; rintro e w4 ⟨rfl, b4⟩
  have RL4 := Lib.hid (RL.out.kept b4); have RM4 := Lib.hid (RM.out.kept b4); have B4 := Lib.hid (B3.out.trans (b4.mono B3.out.size)); clear b4 RL RM
  go_wp2_with fail
  refine (M2.out G0.out G1.out G2.out _ _ C3.out _ RM4.out (R2.out.kept B4.out) (R1.out.kept B4.out)).mono ?_; rintro e w5 ⟨A5, c5, rfl, o5, b5⟩
  have RL5 := Lib.hid (RL4.out.kept b5); have R5 := Lib.hid o5.rs; have B5 := Lib.hid (B4.out.trans (b5.mono B4.out.size)); clear b5 o5 RL4
  go_wp2_with fail
  refine (SA.out G0.out G1.out _ _ _ _ _ R5.out RL5.out).mono ?_; rintro e w6 ⟨rfl, b6⟩
  have B6 := Lib.hid (B5.out.trans (b6.mono B5.out.size)); clear b6
  go_wp2_with fail
  refine (AW.out _).mono ?_; rintro e w7 ⟨rfl, b7⟩
  have B7 := Lib.hid (B6.out.trans (b7.mono B6.out.size)); clear b7
  go_wp2
  go_ret
  exact ⟨rfl, B7.out⟩
end Go.Proofs.Ytaiabcmgpkkfhaa
