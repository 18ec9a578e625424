/- The law PathMoves. Conditions: what comes in is as long as may be. -/
import Derived.Test.YtaiabcmgpkkfhaaWalksO
namespace Go.Proofs.Ytaiabcmgpkkfhaa
open Go.ChangeShapes Go.WideShapes Go.RowKit Go.Path
set_option maxRecDepth 100000
set_option linter.unusedVariables false
set_option linter.unusedSimpArgs false
theorem move_len (l fr tt : List B) : (Path.move l fr tt).length ≤ l.length + tt.length := by
  unfold Path.move
  split
  · simp; omega
  · omega
/-- A row of the call's own may be written. -/
theorem Own.cell {w : World} {base n c k : Nat} {A : Option Addr} {xs : List B} (h : Own w base A n c xs) (hk : k < n) :
    ∃ g u, A = some ⟨g, 0, none⟩ ∧ base ≤ g ∧ w.cell? ⟨g, k, none⟩ = some u ∧ w.frozen? ⟨g, k, none⟩ = false ∧ ∀ x : B, Own (w.setCell ⟨g, k, none⟩ (str x)) base A n c (xs.set k x) := by
  obtain ⟨hn, hc, ⟨rfl, _⟩ | h⟩ := h
  · simp at hn; omega
  · rcases h.2 with ⟨_, h0⟩ | ⟨g, cap, cur, hv, hg, hh, _⟩
    · omega
    · injection hv with hA hn' hc'
      subst hA
      have hi : k < (xs.map str).length := by rw [List.length_map]; omega
      refine ⟨g, (xs.map str)[k], rfl, hg, ?_, h.frozenAt k, fun x => ⟨by simpa using hn, hc, .inr ?_⟩⟩
      · rw [h.cellAt k (by omega), List.getElem?_eq_getElem hi]
      · have := h.stored k (str x)
        rw [← List.map_set] at this
        exact this.1
set_option maxHeartbeats 2000000 in
theorem moves_any (A F T : Option Addr) (l fr tt : List B) (c cf ct : Nat) (hl : l.length ≤ maxLen) (hf : fr.length ≤ maxLen) (ht : tt.length ≤ maxLen) (hc : l.length ≤ c) (hcf : fr.length ≤ cf) (hct : tt.length ≤ ct)
    (hx : ∀ x ∈ l, x.length ≤ maxLen) (hxf : ∀ x ∈ fr, x.length ≤ maxLen) (hxt : ∀ x ∈ tt, x.length ≤ maxLen) (w : World) (h : Rs w A l) (h2 : Rs w F fr) (h3 : Rs w T tt) :
    Calls Try.prog 5 #[.slice A l.length c, .slice F fr.length cf, .slice T tt.length ct] w fun e w' => e = .returned (.bool true) ∧ Below w.heap.size w w' := by
  have AW := Lib.hid awake_any
  have F0 := Lib.hid (few_any A l c hl w h hx)
  have F1 := Lib.hid (few_any F fr cf hf w h2 hxf)
  have F2 := Lib.hid (few_any T tt ct ht w h3 hxt)
  have R0 := Lib.hid h; have R1 := Lib.hid h2; have R2 := Lib.hid h3
  clear h h2 h3 hx hxf hxt
  have HML := move_len l fr tt
  have UP := Lib.hid (fun (g0 : Few l) w h => up_any A l c (by have := g0.1; omega) hc w h)
  have RUP := Lib.hid (fun (g0 : Few l) w h => rup_any A l c (by have := g0.1; omega) hc w h)
  have MV := Lib.hid (fun (g0 : Few l) (g1 : Few fr) (g2 : Few tt) T ct w h h2 h3 => move_any A F T l fr tt c cf ct (by have := g0.1; omega) (by have := g1.1; omega) (by have := g2.1; omega) hc w h h2 h3)
  have RMV := Lib.hid (fun (g0 : Few l) (g1 : Few fr) (g2 : Few tt) w h h2 h3 => rmove_any A F T l fr tt c cf ct (by have := g0.1; omega) (by have := g1.1; omega) (by have := g2.1; omega) hc w h h2 h3)
  have WI := Lib.hid (fun (g0 : Few l) (g1 : Few fr) w h h' => within_any F A fr l cf c (by have := g1.1; omega) (by have := g0.1; omega) hc w h h')
  have RWI := Lib.hid (fun (g0 : Few l) (g1 : Few fr) w h h' => rwithin_any F A fr l cf c (by have := g1.1; omega) (by have := g0.1; omega) w h h')
  have SU := Lib.hid (fun (g0 : Few l) A C c d w h h' => rsame_any A C l.dropLast l.dropLast c d (by have := g0.1; simp; omega) (by have := g0.1; simp; omega) w h h')
  have SM := Lib.hid (fun (g0 : Few l) (g2 : Few tt) A C c d w h h' => rsame_any A C (Path.move l fr tt) (Path.move l fr tt) c d (by have := g0.1; have := g2.1; omega) (by have := g0.1; have := g2.1; omega) w h h')
  have ST := Lib.hid (fun (g2 : Few tt) A C c d w h h' => rsame_any A C tt tt c d (by have := g2.1; omega) (by have := g2.1; omega) w h h')
  rw [show decide (l.dropLast = l.dropLast) = true from by simp, List.length_dropLast] at SU
  rw [show decide (Path.move l fr tt = Path.move l fr tt) = true from by simp] at SM
  rw [show decide (tt = tt) = true from by simp] at ST
  unfold Gives at MV RMV
  unfold GivesUp at UP RUP
  generalize bs (l.getLast?.getD []) = lastb at *
  generalize within fr l = wi at *
  obtain ⟨n0, hn0⟩ : ∃ n, n = l.length := ⟨_, rfl⟩
  obtain ⟨n1, hn1⟩ : ∃ n, n = fr.length := ⟨_, rfl⟩
  obtain ⟨n2, hn2⟩ : ∃ n, n = tt.length := ⟨_, rfl⟩
  obtain ⟨nm, hnm⟩ : ∃ n, n = (Path.move l fr tt).length := ⟨_, rfl⟩
  rw [← hn0] at UP RUP MV RMV WI RWI SU HML hl hc F0 ⊢
  rw [← hn1] at MV RMV WI RWI hf hcf F1 ⊢
  rw [← hn2] at MV RMV ST HML ht hct F2 ⊢
  rw [← hnm] at MV RMV SM HML
  have N2 := Lib.hid hn2
  have BN := Lib.hid (show Few l → Few fr → Few tt → n0 ≤ 30 ∧ n1 ≤ 30 ∧ n2 ≤ 30 from fun a b c => ⟨by rw [hn0]; exact a.1, by rw [hn1]; exact b.1, by rw [hn2]; exact c.1⟩)
  unfold maxLen at hl hf ht
  clear hn0 hn1 hn2 hnm
  generalize Path.move l fr tt = mv at *
  go_enter Try.func5, Try.ntmps5
  go_wp2_with fail
  refine F0.out.mono ?_; rintro e w1 ⟨b, rfl, rfl, hf0⟩
  have HF0 := Lib.hid hf0; clear hf0
  cases b
  · go_wp2_with fail
    refine (AW.out _).mono ?_; rintro e w1 ⟨rfl, b1⟩
    have B1 := Lib.hid b1; clear b1
    go_wp2
    go_ret
    exact ⟨rfl, B1.out⟩
  go_wp2_with fail
  refine F1.out.mono ?_; rintro e w1 ⟨b, rfl, rfl, hf1⟩
  have HF1 := Lib.hid hf1; clear hf1
  cases b
  · go_wp2_with fail
    refine (AW.out _).mono ?_; rintro e w1 ⟨rfl, b1⟩
    have B1 := Lib.hid b1; clear b1
    go_wp2
    go_ret
    exact ⟨rfl, B1.out⟩
  go_wp2_with fail
  refine F2.out.mono ?_; rintro e w1 ⟨b, rfl, rfl, hf2⟩
  have HF2 := Lib.hid hf2; clear hf2
  cases b
  · go_wp2_with fail
    refine (AW.out _).mono ?_; rintro e w1 ⟨rfl, b1⟩
    have B1 := Lib.hid b1; clear b1
    go_wp2
    go_ret
    exact ⟨rfl, B1.out⟩
  have G0 := Lib.hid (HF0.out (by trivial)); have G1 := Lib.hid (HF1.out (by trivial)); have G2 := Lib.hid (HF2.out (by trivial))
  obtain ⟨q0, q1, q2⟩ := BN.out G0.out G1.out G2.out
  clear HF0 HF1 HF2 F0 F1 F2 hl hf ht
  go_wp2_with (first
    | (at_builtin; refine wpList_app rfl (.tmp 28) (.tmp 29) rfl w.heap.size none 0 0 [] rfl (Own.nil _ _ _) T n2 ct tt rfl N2.out R2.out ?c1 (Nat.le_refl _) ?_))
  case c1 => have := N2.out; simp; omega
  intro A1 c1 w1 o1 b1
  have o1' : Own w1 w.heap.size A1 n2 c1 tt := by simpa using o1
  have RO1 := Lib.hid o1'.rs; have B1 := Lib.hid b1; clear o1 o1' b1
  go_wp2_with fail
  refine (UP.out G0.out _ (R0.out.kept B1.out)).mono ?_; rintro e w2 ⟨A2, c2, rfl, o2, b2⟩
  have RO2 := Lib.hid (RO1.out.kept b2); have RU2 := Lib.hid o2.rs; have B2 := Lib.hid (B1.out.trans (b2.mono B1.out.size)); clear o2 b2 RO1
  go_wp2_with fail
  refine (RUP.out G0.out _ (R0.out.kept B2.out)).mono ?_; rintro e w3 ⟨A3, c3, rfl, o3, b3⟩
  have RO3 := Lib.hid (RO2.out.kept b3); have RU3 := Lib.hid (RU2.out.kept b3); have RV3 := Lib.hid o3.rs; have B3 := Lib.hid (B2.out.trans (b3.mono B2.out.size)); clear o3 b3 RO2 RU2
  go_wp2_with fail
  refine (MV.out G0.out G1.out G2.out _ _ _ (R0.out.kept B3.out) (R1.out.kept B3.out) RO3.out).mono ?_; rintro e w4 ⟨A4, c4, rfl, o4, b4⟩
  have RU4 := Lib.hid (RU3.out.kept b4); have RV4 := Lib.hid (RV3.out.kept b4); have OM4 := Lib.hid o4; have B4 := Lib.hid b4; have BW4 := Lib.hid (B3.out.trans (b4.mono B3.out.size)); clear o4 b4 RU3 RV3
  go_wp2_with fail
  refine (WI.out G0.out G1.out _ (R1.out.kept BW4.out) (R0.out.kept BW4.out)).mono ?_; rintro e w5 ⟨rfl, b5⟩
  have RU5 := Lib.hid (RU4.out.kept b5); have RV5 := Lib.hid (RV4.out.kept b5); have OM5 := Lib.hid (OM4.out.kept b5); have B5 := Lib.hid (B4.out.trans (b5.mono B4.out.size)); have BW5 := Lib.hid (BW4.out.trans (b5.mono BW4.out.size)); clear b5 RU4 RV4 OM4 B4
  go_wp2_with fail
  refine (RWI.out G0.out G1.out _ (R1.out.kept BW5.out) (R0.out.kept BW5.out)).mono ?_; rintro e w6 ⟨rfl, b6⟩
  have RU6 := Lib.hid (RU5.out.kept b6); have RV6 := Lib.hid (RV5.out.kept b6); have OM6 := Lib.hid (OM5.out.kept b6); have B6 := Lib.hid (B5.out.trans (b6.mono B5.out.size)); have BW6 := Lib.hid (BW5.out.trans (b6.mono BW5.out.size)); clear b6 RU5 RV5 OM5 B5
  go_wp2_with fail
  refine (SU.out G0.out _ _ _ _ _ RU6.out RV6.out).mono ?_; rintro e w7 ⟨rfl, b7⟩
  have OM7 := Lib.hid (OM6.out.kept b7); have B7 := Lib.hid (B6.out.trans (b7.mono B6.out.size)); have BW7 := Lib.hid (BW6.out.trans (b7.mono BW6.out.size)); clear b7 RU6 RV6 OM6 B6
  go_wp2_with fail
  refine (RMV.out G0.out G1.out G2.out _ (R0.out.kept BW7.out) (R1.out.kept BW7.out) (R2.out.kept BW7.out)).mono ?_; rintro e w8 ⟨A8, c8, rfl, o8, b8⟩
  have RM8 := Lib.hid o8.rs; have OM8 := Lib.hid (OM7.out.kept b8); have B8 := Lib.hid (B7.out.trans (b8.mono B7.out.size)); have BW8 := Lib.hid (BW7.out.trans (b8.mono BW7.out.size)); clear o8 b8 OM7 B7
  go_wp2_with fail
  refine (SM.out G0.out G2.out _ _ _ _ _ OM8.out.rs RM8.out).mono ?_; rintro e w9 ⟨rfl, b9⟩
  have OM9 := Lib.hid (OM8.out.kept b9); have B9 := Lib.hid (B8.out.trans (b9.mono B8.out.size)); have BW9 := Lib.hid (BW8.out.trans (b9.mono BW8.out.size)); clear b9 OM8 B8 RM8
  go_wp2
  go_loopw [13] (fun i wr => ∃ k : Nat, ∃ ys : List B, k ≤ nm ∧ i = .int .i64 k ∧ Own wr w3.heap.size A4 nm c4 ys ∧ Below w3.heap.size w3 wr ∧ Below w.heap.size w wr) (fun i _ => nm - (intOf i).toNat)
  case atStart => exact ⟨0, mv, by omega, rfl, OM9.out, B9.out, BW9.out⟩
  case round =>
    obtain ⟨k, ys, hk, rfl, ho, hb, hbw⟩ := hrel
    have O := Lib.hid ho; have BB := Lib.hid hb; have BW := Lib.hid hbw
    clear ho hb hbw
    by_cases hlt : k < nm
    · obtain ⟨g, u, rfl, hg, hcell, hfr, hset⟩ := O.out.cell hlt
      have HS := Lib.hid (hset [115, 112, 111, 105, 108, 116])
      have HG := Lib.hid hg
      clear hset hg
      go_wp2
      refine ⟨⟨k + 1, _, by omega, by go_num, HS.out, BB.out.setCell (p := ⟨g, k, none⟩) HG.out _, BW.out.setCell (p := ⟨g, k, none⟩) (Nat.le_trans B3.out.size HG.out) _⟩, by simp [intOf]; omega⟩
    · go_wp2_with fail
      refine (ST.out G2.out _ _ _ _ _ (RO3.out.kept BB.out) (R2.out.kept BW.out)).mono ?_; rintro e w10 ⟨rfl, b10⟩
      have B10 := Lib.hid (BW.out.trans (b10.mono BW.out.size)); clear b10
      go_wp2_with fail
      refine (AW.out _).mono ?_; rintro e w11 ⟨rfl, b11⟩
      have B11 := Lib.hid (B10.out.trans (b11.mono B10.out.size)); clear b11
      go_wp2
      go_ret
      exact ⟨rfl, B11.out⟩
end Go.Proofs.Ytaiabcmgpkkfhaa
