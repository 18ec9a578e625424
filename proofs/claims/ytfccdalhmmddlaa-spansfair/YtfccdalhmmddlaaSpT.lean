/- The document's set: Count, Copy, Take. Conditions: none. -/
import Derived.Test.YtfccdalhmmddlaaSpS
import Derived.Test.YtfccdalhmmddlaaSpM
import Derived.Test.YtfccdalhmmddlaaSpN
namespace Go.Proofs.Ytfccdalhmmddlaa
open Go.ChangeShapes Go.WideShapes Go.RowKit Go.Spans
set_option maxRecDepth 100000
/-- Which there are below k, rising. -/
def Fl (h : Nat → Bool) (k : Nat) : List Nat := (List.range k).filter h
theorem Fl_succ (h : Nat → Bool) (k : Nat) : Fl h (k + 1) = if h k then Fl h k ++ [k] else Fl h k := by
  simp only [Fl, List.range_succ, List.filter_append, List.filter_cons, List.filter_nil]
  split <;> simp
theorem Fl_len (h : Nat → Bool) (k : Nat) : (Fl h k).length ≤ k := by
  have := List.length_filter_le h (List.range k)
  simpa [Fl] using this
theorem Fl_split (h : Nat → Bool) {i n : Nat} (hi : i ≤ n) : ∃ r, Fl h n = Fl h i ++ r := by
  refine ⟨(List.range' i (n - i)).filter h, ?_⟩
  have e : List.range n = List.range i ++ List.range' i (n - i) := by
    rw [List.range_eq_range', List.range_eq_range']
    have := List.range'_append_1 (s := 0) (m := i) (n := n - i)
    rw [Nat.zero_add, show i + (n - i) = n by omega] at this
    exact this.symm
  rw [Fl, e, List.filter_append]
  rfl
theorem Fl_mem {h : Nat → Bool} {k j : Nat} : j ∈ Fl h k ↔ j < k ∧ h j = true := by simp [Fl]
set_option maxHeartbeats 2000000 in
theorem rcount_c {w : World} {R b n cap : Nat} {h : Nat → Bool} (x : Rf w R b n cap h) :
    Calls Try.prog 13 #[.pointer (some ⟨R, 0, none⟩)] w fun e w' => e = .returned (.int .i64 ((Fl h n).length : Nat)) ∧ w' = w := by
  obtain ⟨c0, c1, _⟩ := x.cells
  have hhi := x.hi
  obtain ⟨C, hC⟩ : ∃ C, C = (Fl h n).length := ⟨_, rfl⟩
  rw [← hC]
  have hC' := Lib.hid hC
  clear x hC
  go_enter Try.func13, Try.ntmps13
  go_wp2
  go_loopw [3, 4] (fun c i wr => ∃ k : Nat, i = .int .i64 k ∧ k ≤ n ∧ c = .int .i64 ((Fl h k).length : Nat) ∧ wr = w) (fun _ i _ => n - (Lib.intOf i).toNat)
  case atStart => exact ⟨0, rfl, Nat.zero_le _, rfl, rfl⟩
  case round =>
    obtain ⟨k, rfl, hk, rfl, hw⟩ := hrel
    have hw' := hw.symm
    clear hw
    subst hw'
    have hs := Fl_succ h k
    have hl := Fl_len h k
    by_cases hlt : k < n
    · have hz : (k : Int) < (n : Int) := by omega
      have c3 := c1 k hlt
      rcases Bool.eq_false_or_eq_true (h k) with hh | hh
      · rw [hh] at c3
        rw [hh, if_pos rfl] at hs
        have hs' : (Fl h (k + 1)).length = (Fl h k).length + 1 := by rw [hs, List.length_append]; rfl
        clear hs
        generalize (Fl h k).length = c at *
        generalize hq : (Fl h (k + 1)).length = c' at *
        subst hs'
        go_wp2
        go_roundw
        case rel => exact ⟨k + 1, rfl, hlt, by rw [hq]; rfl, by simp⟩
        case measure => simp [Lib.intOf]; omega
      · rw [hh] at c3
        rw [hh, if_neg (by simp)] at hs
        clear hl
        rw [← hs]
        go_wp2
        go_roundw
        case rel => exact ⟨k + 1, rfl, hlt, rfl, by simp⟩
        case measure => simp [Lib.intOf]; omega
    · have hke : k = n := by omega
      subst hke
      clear hs hl c1
      go_wp2
      go_ret
      exact ⟨by rw [hC'.out]; rfl, rfl⟩
/-- Its cells. -/
def bls (n : Nat) (h : Nat → Bool) : List Value := (List.range n).map fun k => .bool (h k)
theorem rcopy_c {w : World} {R b n cap : Nat} {h : Nat → Bool} (x : Rf w R b n cap h) :
    Calls Try.prog 28 #[.pointer (some ⟨R, 0, none⟩)] w fun e w' => ∃ R', e = .returned (.pointer (some ⟨R', 0, none⟩)) ∧ ∃ b' cap', Rf w' R' b' n cap' h ∧ w.heap.size ≤ R' ∧ w.heap.size ≤ b' ∧ Below w.heap.size w w' := by
  obtain ⟨i0, hi0, hz0, hz1, hz2⟩ := info_parts info4
  obtain ⟨c0, c1, _⟩ := x.cells
  have hhi := x.hi
  have hlo := x.lo
  have hnews : ∀ j u, (bls n h)[j]? = some u → w.cell? ((⟨b, 0, none⟩ : Addr).add j) = some u := fun j u hj => by
    rw [hadd, Nat.zero_add]
    rw [bls, List.getElem?_map] at hj
    by_cases hjn : j < n
    · rw [List.getElem?_range hjn] at hj
      rw [c1 j hjn]
      simpa using hj
    · rw [List.getElem?_eq_none (by simp; omega)] at hj
      cases hj
  obtain ⟨v', w', hr, h2, h3, h4, h5⟩ := run_append_own_at (P := Try.prog) w w.heap.size 40 40 4 i0 _ 1 1 Try.underlying40 hi0 hz0 hz1 hz2 rfl (by decide) (.slice none 0 0) 0 [] (World.ownsRow_nil _ _ _ _) ⟨b, 0, none⟩ n cap (bls n h) (by simp [bls]) hnews (by simp [bls, Value.oneCell']) (by unfold maxLen; omega) (by omega) (Nat.le_refl _)
  simp only [Nat.zero_add, List.nil_append] at h2
  have hB : Below w.heap.size w w' := (Below.refl _ w).grown h3 (Nat.le_refl _) (fun r e => by cases e)
  obtain ⟨g, cap', cur, rfl, hg1, hg2, hg3, hg4, hg5, hg6⟩ : ∃ g cap' cur, v' = .slice (some ⟨g, 0, none⟩) n cap' ∧ w.heap.size ≤ g ∧ Is w' g 4 cur ∧ n ≤ cap' ∧ cap' ≤ maxLen ∧ cur.size = cap' ∧ cur.toList.take n = bls n h := by
    rcases h2.2 with ⟨_, h0⟩ | ⟨g, cap', cur, rfl, q1, q2, q3, q4, q5, q6⟩
    · omega
    · exact ⟨g, cap', cur, rfl, q1, q2, q3, q4, by omega, by rwa [Nat.mul_one] at q6⟩
  have hres : Rf (w'.alloc (.cells #[.slice (some ⟨g, 0, none⟩) n cap'] 55)) w'.heap.size g n cap' h := ⟨Is.new _ _ _, ⟨cur, hg2.alloc _, hg5, hg3, hg4, fun k hk => cur_get hg6 (by rw [bls, List.getElem?_map, List.getElem?_range hk]; rfl)⟩, hlo, hhi⟩
  have hBs := hB.size
  have hB2 := hB.alloc hB.size (.cells #[.slice (some ⟨g, 0, none⟩) n cap'] 55)
  clear x c1 hnews h2 h3 h4 h5 hg2 hg6
  go_enter Try.func28, Try.ntmps28
  go_wp2_with (at_builtin; refine Lib.wpList_append_run _ rfl _ _ _ _ rfl _ _ rfl rfl _ _ hr ?_)
  go_ret
  exact ⟨_, rfl, _, _, hres, hBs, hg1, hB2⟩
/-- What Take answers, hands out and leaves. -/
def rtakeE (n : Nat) (h : Nat → Bool) (k : Int) : Int := if k < 1 then 2 else if ((Fl h n).length : Int) < k then 7 else 0
def rtakeL (n : Nat) (h : Nat → Bool) (k : Int) : List Nat := if k < 1 ∨ ((Fl h n).length : Int) < k then [] else (Fl h n).take k.toNat
def rtakeX (n : Nat) (h : Nat → Bool) (k : Int) : Nat → Bool := if k < 1 ∨ ((Fl h n).length : Int) < k then h else fun j => h j && !decide (j ∈ (Fl h n).take k.toNat)
set_option maxHeartbeats 4000000 in
theorem rtake_c {w : World} {R b n cap : Nat} {h : Nat → Bool} (x : Rf w R b n cap h) (k : Int) :
    Calls Try.prog 26 #[.pointer (some ⟨R, 0, none⟩), .int .i64 k] w fun e w' => ∃ r, e = .returned (.tuple #[r, .int .i64 (rtakeE n h k)]) ∧ Rf w' R b n cap (rtakeX n h k) ∧ w'.ownsRow w.heap.size 3 1 r (rtakeL n h k).length (ints (rtakeL n h k)) ∧ Kp w w' [b] := by
  have hC := rcount_c x
  have hk := Kp.refl w [b]
  have x' := Lib.hid x
  by_cases h1 : k < 1
  · have e1 : rtakeE n h k = 2 := by simp [rtakeE, h1]
    have e2 : rtakeX n h k = h := by simp [rtakeX, h1]
    have e3 : rtakeL n h k = [] := by simp [rtakeL, h1]
    rw [e1, e2, e3]
    clear e1 e2 e3 hC x
    go_enter Try.func26, Try.ntmps26
    go_wp2
    go_ret2
    exact ⟨_, rfl, x'.out, ⟨rfl, .inl ⟨rfl, rfl⟩⟩, hk⟩
  · by_cases h2 : ((Fl h n).length : Int) < k
    · have e1 : rtakeE n h k = 7 := by simp [rtakeE, h1, h2]
      have e2 : rtakeX n h k = h := by simp [rtakeX, h2]
      have e3 : rtakeL n h k = [] := by simp [rtakeL, h2]
      rw [e1, e2, e3]
      clear e1 e2 e3 x
      generalize (Fl h n).length = c at *
      go_enter Try.func26, Try.ntmps26
      go_wp2_with (go_at_call 13; refine hC.mono ?_; clear hC; rintro e w' ⟨rfl, rfl⟩)
      go_ret2
      exact ⟨_, rfl, x'.out, ⟨rfl, .inl ⟨rfl, rfl⟩⟩, hk⟩
    · obtain ⟨q, rfl⟩ := Int.eq_ofNat_of_zero_le (a := k) (by omega)
      have hq1 : 1 ≤ q := by omega
      have hqc : q ≤ (Fl h n).length := by omega
      have e1 : rtakeE n h (q : Int) = 0 := by simp only [rtakeE, if_neg h1, if_neg h2]
      have e2 : rtakeX n h (q : Int) = fun j => h j && !decide (j ∈ (Fl h n).take q) := by simp only [rtakeX, h1, h2, or_self, if_false, Int.toNat_natCast]
      have e3 : rtakeL n h (q : Int) = (Fl h n).take q := by simp only [rtakeL, h1, h2, or_self, if_false, Int.toNat_natCast]
      have e4 : ((Fl h n).take q).length = q := by rw [List.length_take]; omega
      rw [e1, e2, e3, e4]
      clear e1 e2 e3 e4
      obtain ⟨i0, hi0, hz0, hz1, hz2⟩ := info_parts info3
      have hhi := x.hi
      have hll := Fl_len h n
      have hbw := x.lt
      obtain ⟨X, hX⟩ : ∃ X : Nat → Bool, X = fun j => h j && !decide (j ∈ (Fl h n).take q) := ⟨_, rfl⟩
      obtain ⟨L, hL⟩ : ∃ L, L = ints ((Fl h n).take q) := ⟨_, rfl⟩
      rw [← hX, ← hL]
      obtain ⟨c, hc⟩ : ∃ c, c = (Fl h n).length := ⟨_, rfl⟩
      rw [← hc] at hC h2 hqc
      have hdz : (c < q) = False := by simp; omega
      have h1' : (1 : Int) ≤ (q : Int) := by omega
      have hX' := Lib.hid hX
      have hL' := Lib.hid hL
      have hc' := Lib.hid hc
      have hll' := Lib.hid hll
      clear hX hL hc x h1 h2 hll
      go_enter Try.func26, Try.ntmps26
      go_wp2_with (go_at_call 13; refine hC.mono ?_; clear hC; rintro e w' ⟨rfl, hw'⟩; cases hw'.symm)
      go_loopw [6, 7] (fun o i wr => ∃ (k : Nat) (p : Option Addr) (cap' : Nat), i = .int .i64 k ∧ k ≤ n ∧ o = .slice p (Fl h k).length cap' ∧ (Fl h k).length ≤ q ∧ Rf wr R b n cap (fun j => h j && !decide (j < k)) ∧ wr.ownsRow w.heap.size 3 1 (.slice p (Fl h k).length cap') (Fl h k).length (ints (Fl h k)) ∧ Kp w wr [b]) (fun _ i _ => n - (Lib.intOf i).toNat)
      case atStart => exact ⟨0, none, 0, rfl, Nat.zero_le _, rfl, Nat.zero_le _, x'.out.ext (fun j _ => by simp), ⟨rfl, .inl ⟨rfl, rfl⟩⟩, hk⟩
      case round =>
        obtain ⟨k, p, cap', rfl, hkn, rfl, hcq, xr, hown, hkr⟩ := hrel
        obtain ⟨d0, d1, d2⟩ := xr.cells
        have hs := Fl_succ h k
        have hl := Fl_len h k
        obtain ⟨T, hT⟩ : ∃ T, T = Fl h k := ⟨_, rfl⟩
        rw [← hT] at hcq hown hs hl ⊢
        have hT' := Lib.hid hT
        clear hT
        have hwk := hkr.size
        have hkp := Lib.hid hkr
        have hxr := Lib.hid xr
        clear xr hkr
        by_cases hlt : k < n
        · have hz : (k : Int) < (n : Int) := by omega
          by_cases hcl : T.length < q
          · have hcz : (T.length : Int) < (q : Int) := by omega
            have d3 := d1 k hlt
            have d4 := d2 k
            simp only [Nat.lt_irrefl, decide_false, Bool.not_false, Bool.and_true] at d3
            rcases Bool.eq_false_or_eq_true (h k) with hh | hh
            · rw [hh] at d3
              rw [hh, if_pos rfl] at hs
              obtain ⟨W1, hW1⟩ : ∃ W1, wr.setCell ⟨b, k, none⟩ (.bool false) = W1 := ⟨_, rfl⟩
              have y1 : Rf W1 R b n cap (fun j => h j && !decide (j < k + 1)) := by
                rw [← hW1]
                refine (hxr.out.put k false).ext fun j _ => ?_
                by_cases e : j = k
                · subst e; simp
                · rw [if_neg e]
                  congr 2
                  rw [decide_eq_decide]
                  omega
              have y2 : Kp w W1 [b] := by rw [← hW1]; exact hkp.out.put _ _ (.inl (by simp))
              have y3 : W1.ownsRow w.heap.size 3 1 (.slice p T.length cap') T.length (ints T) := by
                rw [← hW1]
                exact hown.kept (grown_put wr ⟨b, k, none⟩ (.bool false)) (.inr fun e => by have := (own_ge hown e).1; simp at this; omega)
              have hm1 : T.length + 1 ≤ maxLen := by unfold maxLen; omega
              have hm2 : (T.length + 1) * 8 ≤ 140737488355328 := by omega
              have hm3 : w.heap.size ≤ (W1.alloc (.cells #[.int .i64 (k : Int)] 3)).heap.size := by have := y2.size; simp; omega
              have hns := one_new W1 (.int .i64 (k : Int))
              have hone : ∀ u ∈ [Value.int .i64 (k : Int)], u.oneCell' = true := by simp [Value.oneCell']
              have y4 := y3.alloc (.cells #[.int .i64 (k : Int)] 3)
              have y5 := Lib.hid (show Rf (W1.alloc (.cells #[.int .i64 (k : Int)] 3)) R b n cap (fun j => h j && !decide (j < k + 1)) from y1.below ((Below.refl _ _).alloc (Nat.le_refl _) _))
              have y6 := Lib.hid (y2.alloc (.cells #[.int .i64 (k : Int)] 3))
              obtain ⟨e0, _, _⟩ := y1.cells
              clear hown y1 y2 y3 d1 d2
              go_wp2_with (at_builtin; refine wpList_append_own_at _ rfl _ _ 44 rfl w.heap.size 3 i0 _ 1 8 Try.underlying44 hi0 hz0 hz1 hz2 rfl (by decide) _ _ _ rfl y4 ⟨W1.heap.size, 0, none⟩ 1 1 [.int .i64 (k : Int)] rfl rfl hns hone hm1 hm2 hm3 ?_; intro v' w1 hown' hgrow hnil hat; replace hgrow : (W1.alloc (.cells #[.int .i64 (k : Int)] 3)).grownBy w1 (Value.slice p T.length cap').ownBlock := hgrow; obtain ⟨p2, cap2, rfl⟩ := own_slice hown')
              have hgk : Kp w w1 [b] := y6.out.grow hgrow (fun r e => (own_ge y4 e).1)
              have hgx : Rf w1 R b n cap (fun j => h j && !decide (j < k + 1)) := y5.out.kept (Kp.of_grown hgrow) (fun hm => by
                have := (own_ge y4 (show Value.ownBlock _ = some R by simpa using hm)).1
                omega) (fun hm => by
                have := (own_ge y4 (show Value.ownBlock _ = some b by simpa using hm)).1
                omega)
              have hi1 : ints (T ++ [k]) = ints T ++ [.int .i64 (k : Int)] := by simp [ints]
              rw [← hi1] at hown'
              go_roundw
              case rel => exact ⟨k + 1, p2, cap2, rfl, hlt, by rw [hs, List.length_append]; rfl, by rw [hs, List.length_append]; exact hcl, hgx, by rw [hs, List.length_append]; exact hown', hgk⟩
              case measure => simp [Lib.intOf]; omega
            · rw [hh] at d3
              rw [hh, if_neg (by simp)] at hs
              have hx2 : Rf wr R b n cap (fun j => h j && !decide (j < k + 1)) := hxr.out.ext fun j _ => by
                by_cases e : j = k
                · subst e; simp [hh]
                · congr 2
                  rw [decide_eq_decide]
                  omega
              have hx3 := Lib.hid hx2
              clear hx2 d1 d2
              go_wp2
              go_roundw
              case rel => exact ⟨k + 1, p, cap', rfl, hlt, by rw [hs], by rw [hs]; exact hcq, hx3, by rw [hs]; exact hown, hkp⟩
              case measure => simp [Lib.intOf]; omega
          · have hcz : ¬ ((T.length : Int) < (q : Int)) := by omega
            have hTq : T.length = q := by omega
            have hfin : (Fl h n).take q = T := by
              obtain ⟨r, hr⟩ := Fl_split h hkn
              rw [hr, ← hT'.out, ← hTq, List.take_left]
            have hfx : Rf wr R b n cap X := by
              rw [hX'.out, hfin]
              refine hxr.out.ext fun j _ => ?_
              rw [hT'.out]
              by_cases hj : h j = true
              · rw [hj]
                congr 2
                rw [decide_eq_decide, Fl_mem]
                simp [hj]
              · simp [hj]
            rw [← (show L = ints T by rw [hL'.out, hfin]), hTq] at hown
            have hfx' := Lib.hid hfx
            have hTq' := Lib.hid hTq
            clear hfx hfin hs hl hTq d1 d2
            go_wp2
            go_ret2
            rw [hTq'.out]
            exact ⟨_, rfl, hfx', hown, hkp⟩
        · have hke : k = n := by omega
          have hz : ¬ ((k : Int) < (n : Int)) := by omega
          have hTc : T.length = c := by rw [hT'.out, hke]; exact hc'.out.symm
          have hTq : T.length = q := by omega
          have hfin : (Fl h n).take q = T := by
            rw [hT'.out, hke, ← hTq, hT'.out, hke, List.take_length]
          have hfx : Rf wr R b n cap X := by
            rw [hX'.out, hfin]
            refine hxr.out.ext fun j _ => ?_
            rw [hT'.out]
            by_cases hj : h j = true
            · rw [hj]
              congr 2
              rw [decide_eq_decide, Fl_mem]
              simp [hj]
            · simp [hj]
          rw [← (show L = ints T by rw [hL'.out, hfin]), hTq] at hown
          have hfx' := Lib.hid hfx
          have hTq' := Lib.hid hTq
          clear hfx hfin hs hl hTq hTc hke d1 d2
          go_wp2
          go_ret2
          rw [hTq'.out]
          exact ⟨_, rfl, hfx', hown, hkp⟩
end Go.Proofs.Ytfccdalhmmddlaa
