/- told: has a set just these sectors, by each of its calls. Conditions: none. -/
import Derived.Test.YtfccdalhmmddlaaSpX
namespace Go.Proofs.Ytfccdalhmmddlaa
open Go.ChangeShapes Go.WideShapes Go.RowKit Go.Spans
set_option maxRecDepth 100000
/-- A row of yes and no. -/
def Bs (w : World) (H n : Nat) (h : Nat → Bool) : Prop := ∃ cur, Is w H 4 cur ∧ cur.size = n ∧ ∀ k, k < n → cur[k]? = some (.bool (h k))
theorem Bs.cell {w : World} {H n : Nat} {h : Nat → Bool} (x : Bs w H n h) (k : Nat) (hk : k < n) : w.cell? ⟨H, k, none⟩ = some (.bool (h k)) := by
  obtain ⟨cur, hi, _, hc⟩ := x
  exact (hi.cell k).trans (hc k hk)
theorem Bs.kept {w w' : World} {H n : Nat} {h : Nat → Bool} {X : List Nat} (x : Bs w H n h) (hk : Kp w w' X) (hX : H ∉ X) : Bs w' H n h := by
  obtain ⟨cur, hi, r⟩ := x
  exact ⟨cur, hk.is hi hX, r⟩
theorem Bs.below {w w' : World} {H n : Nat} {h : Nat → Bool} (x : Bs w H n h) (hb : Below w.heap.size w w') : Bs w' H n h := x.kept (Kp.of_below hb []) (by simp)
theorem Bs.ext {w : World} {H n : Nat} {h h' : Nat → Bool} (x : Bs w H n h) (e : ∀ k, k < n → h k = h' k) : Bs w H n h' := by
  obtain ⟨cur, hi, hs, hc⟩ := x
  exact ⟨cur, hi, hs, fun k hk => by rw [hc k hk, e k hk]⟩
theorem Bs.put {w : World} {H n : Nat} {h : Nat → Bool} (x : Bs w H n h) (k : Nat) (u : Bool) : Bs (w.setCell ⟨H, k, none⟩ (.bool u)) H n (fun j => if j = k then u else h j) := by
  obtain ⟨cur, hi, hs, hc⟩ := x
  refine ⟨_, hi.put k (.bool u), by simpa using hs, fun j hj => ?_⟩
  rw [Array.getElem?_setIfInBounds]
  have hjs : j < cur.size := by omega
  by_cases e : k = j
  · subst e; simp [hjs]
  · rw [if_neg e, hc j hj]; simp [show ¬ j = k by omega]
/-- Where the span ahead of the j-th ends. -/
def ends (xs : List Sp) (j : Nat) : Int := if j = 0 then -1 else (en (xs.getD (j - 1) (0, 0)) : Nat)
theorem ends_lt {n : Nat} {xs : List Sp} (ok : Ok n xs) {j : Nat} (hj : j < xs.length) : ends xs j < ((xs.getD j (0, 0)).1 : Nat) := by
  unfold ends
  split
  · omega
  · have h1 := List.pairwise_iff_getElem.1 ok.gap (j - 1) j (by omega) hj (by omega)
    rw [tell_at hj, tell_at (show j - 1 < xs.length by omega)]
    omega
set_option maxHeartbeats 8000000 in
theorem told_c {w : World} {S n H : Nat} {v : Value} {xs : List Sp} (st : St w S v n xs) (bs : Bs w H n (hasB xs)) :
    Calls Try.prog 21 #[.pointer (some ⟨S, 0, none⟩), .slice (some ⟨H, 0, none⟩) n n] w fun e w' => e = .returned (.bool true) ∧ Below w.heap.size w w' := by
  have hhi := st.hi
  have ok := st.ok
  have hlen := len_le ok
  have hcn := cnt_le ok
  have hcnt : (Fl (hasB xs) n).length = cnt xs := by
    have e : Fl (hasB xs) n = elems xs := elems_eq ok
    rw [e, elems_len]
  have hbc : ∀ W, Below w.heap.size w W → ∀ k, k < n → W.cell? ⟨H, k, none⟩ = some (.bool (hasB xs k)) := fun W hW k hk => (bs.below hW).cell k hk
  have C10 := Lib.hid (fun (W : World) (hW : Below w.heap.size w W) (k : Nat) => ((has_c (st.below hW) (k : Int)).mono (R' := fun e w' => e = .returned (.bool (hasB xs k)) ∧ Below w.heap.size w w') (fun e w' ⟨h1, h2⟩ => ⟨by rw [h1]; simp, hW.trans (h2.mono hW.size)⟩)))
  have C15 := Lib.hid (fun (W : World) (hW : Below w.heap.size w W) => ((list_c (st.below hW)).mono (R' := fun e w' => ∃ p c, e = .returned (.slice p xs.length c) ∧ Below w.heap.size w w' ∧ ∀ W', Below w'.heap.size w' W' → ∀ i, i < xs.length → ∃ g, p = some ⟨g, 0, none⟩ ∧ W'.cell? ⟨g, i * 2, none⟩ = some (.int .i64 (xs.getD i (0, 0)).1) ∧ W'.cell? ⟨g, i * 2 + 1, none⟩ = some (.int .i64 (xs.getD i (0, 0)).2)) (fun e w' ⟨u, h1, h2, _, h4⟩ => by
    rcases h2.cases with ⟨rfl, hx0⟩ | ⟨g, cap, cur, rfl, _, hg, k4, k5, k6, k7⟩
    · refine ⟨none, 0, by rw [h1, hx0]; rfl, hW.trans (h4.mono hW.size), fun W' _ i hi => by rw [hx0] at hi; simp at hi⟩
    · refine ⟨some ⟨g, 0, none⟩, cap, h1, hW.trans (h4.mono hW.size), fun W' hW' i hi => ⟨g, rfl, ?_⟩⟩
      rw [tell_at hi]
      exact row_cells ((Kp.of_below hW' []).is hg (by simp)) k7 i hi)))
  have hb0 := Below.refl w.heap.size w
  have HB := Lib.hid hbc
  have HN := Lib.hid hcnt
  clear st bs hbc hcnt
  go_enter Try.func21, Try.ntmps21
  go_wp2
  go_loopw [5, 6] (fun c i wr => ∃ k : Nat, i = .int .i64 k ∧ k ≤ n ∧ c = .int .i64 ((Fl (hasB xs) k).length : Nat) ∧ Below w.heap.size w wr) (fun _ i _ => n - (Lib.intOf i).toNat)
  case atStart => exact ⟨0, rfl, Nat.zero_le _, rfl, hb0⟩
  case round =>
    obtain ⟨k, rfl, hk, rfl, hbr⟩ := hrel
    clear hb0
    by_cases hlt : k < n
    · have hkz : (k : Int) < (n : Int) := by omega
      have hs := Fl_succ (hasB xs) k
      have hl := Fl_len (hasB xs) k
      have a0 := HB.out wr hbr k hlt
      have X := below_drew hbr
      have HK := Lib.hid (fun (W : World) (hW : Below w.heap.size w W) => HB.out W hW k hlt)
      obtain ⟨E, hE⟩ : ∃ E, E = hasB xs k := ⟨_, rfl⟩
      rw [← hE] at hs a0
      have HK' : Hid (∀ W, Below w.heap.size w W → W.cell? ⟨H, k, none⟩ = some (.bool E)) := Lib.hid (by rw [hE]; exact HK.out)
      have C10' : Hid (∀ W, Below w.heap.size w W → Calls Try.prog 10 #[.pointer (some ⟨S, 0, none⟩), .int .i64 (k : Int)] W fun e w' => e = .returned (.bool E) ∧ Below w.heap.size w w') := Lib.hid (by rw [hE]; exact fun W hW => C10.out W hW k)
      clear hE HK hbr a0
      have hs' : (Fl (hasB xs) (k + 1)).length = if E then (Fl (hasB xs) k).length + 1 else (Fl (hasB xs) k).length := by
        rw [hs]; cases E <;> simp
      clear hs
      generalize hq : (Fl (hasB xs) (k + 1)).length = c' at hs'
      generalize (Fl (hasB xs) k).length = c at *
      go_wp2
      go_region_held3 (fun wx => wx.cell? ⟨H, k, none⟩ = some (.bool E)) (first | exact HK'.out _ (by assumption))
        (first
          | (go_at_call 10; with_reducible refine (C10'.out _ (by assumption)).mono ?_; clear X; rintro e w4 ⟨rfl, X⟩))
      have a0 := HK'.out _ X
      cases E with
      | true =>
        simp only [if_true] at hs'
        subst hs'
        go_wp2
        go_roundw
        case rel => exact ⟨k + 1, rfl, hlt, by rw [hq]; rfl, X⟩
        case measure => simp [Lib.intOf]; omega
      | false =>
        simp only [Bool.false_eq_true, if_false] at hs'
        subst hs'
        go_wp2
        go_roundw
        case rel => exact ⟨k + 1, rfl, hlt, by rw [hq], X⟩
        case measure => simp [Lib.intOf]; omega
    · have hke : k = n := by omega
      subst hke
      rw [HN.out]
      have X := hbr
      clear hbr
      go_wp2_with (go_at_call 15; refine (C15.out _ X).mono ?_; clear X; rintro e w2 ⟨p, cp, rfl, X, hsp⟩)
      have HS := Lib.hid hsp
      have X2 := Below.refl w2.heap.size w2
      clear hsp
      go_loopw [5, 8, 9] (fun c e i wr => ∃ j : Nat, i = .int .i64 j ∧ j ≤ xs.length ∧ e = .int .i64 (ends xs j) ∧ c = .int .i64 ((cnt xs - cnt (xs.take j) : Nat) : Int) ∧ Below w2.heap.size w2 wr) (fun _ _ i _ => xs.length - (Lib.intOf i).toNat)
      case atStart => exact ⟨0, rfl, Nat.zero_le _, rfl, by simp [cnt], X2⟩
      case round =>
        obtain ⟨j, rfl, hj, rfl, rfl, X3⟩ := hrel
        clear X2
        by_cases hlt : j < xs.length
        · have hjz : (j : Int) < (xs.length : Int) := by omega
          have hel := ends_lt ok hlt
          have hpos := ok.pos _ (List.getElem_mem hlt)
          have hend := ok.hi _ (List.getElem_mem hlt)
          have hct := cnt_take xs j hlt
          have hcl := cnt_take_le xs (j + 1)
          have hes : ends xs (j + 1) = (en (xs.getD j (0, 0)) : Nat) := by simp [ends]
          have hin : ∀ q, (xs.getD j (0, 0)).1 ≤ q → q < en (xs.getD j (0, 0)) → hasB xs q = true := fun q h1 h2 => hasB_iff.2 ⟨_, List.getElem_mem hlt, by rwa [tell_at hlt] at h1, by rwa [tell_at hlt] at h2⟩
          rw [← tell_at hlt] at hpos hend
          obtain ⟨g, rfl, _⟩ := HS.out w2 (Below.refl _ _) j hlt
          have HA := Lib.hid (fun (W : World) (hW : Below w2.heap.size w2 W) => show W.cell? ⟨g, j * 2, none⟩ = _ ∧ W.cell? ⟨g, j * 2 + 1, none⟩ = _ from by
            obtain ⟨g', e, r⟩ := HS.out W hW j hlt
            injection e with e; injection e with e; subst e
            exact r)
          unfold en at hend hes hin
          have hcn2 : cnt (xs.take j) ≤ cnt xs := cnt_take_le xs j
          generalize cnt (xs.take j) = C0 at *
          generalize ends xs j = E0 at *
          generalize (xs.getD j (0, 0)).1 = A at *
          generalize (xs.getD j (0, 0)).2 = M at *
          rw [hct] at hcl
          have HI := Lib.hid hin
          have HE1 := Lib.hid hes
          have HCT := Lib.hid (show cnt xs - cnt (xs.take (j + 1)) = (cnt xs - C0) - M by omega)
          have hMc : M ≤ cnt xs - C0 := by omega
          clear hin hes hct HN C10
          have hc0 : cnt xs - C0 ≤ 4096 := by omega
          generalize cnt xs - C0 = c0 at *
          have hw3 : IntKind.i64.wrap ((c0 : Int) - (M : Int)) = ((c0 - M : Nat) : Int) := by rw [wrap_small (by omega) (by omega)]; omega
          obtain ⟨a0, a1⟩ := HA.out wr X3
          have hw1 : IntKind.i64.wrap ((k : Int) - (A : Int)) = (k : Int) - (A : Int) := wrap_small (by omega) (by omega)
          have hw2 : IntKind.i64.wrap ((A : Int) + (M : Int)) = (A : Int) + (M : Int) := wrap_small (by omega) (by omega)
          have g1 : ¬ ((A : Int) ≤ E0) := by omega
          have g2 : ¬ ((M : Int) < 1) := by omega
          have g3 : ¬ ((A : Int) < 0) := by omega
          have g4 : ¬ ((M : Int) > (k : Int) - (A : Int)) := by omega
          go_wp2
          go_quiet (fail)
          clear g1 g2 g3 g4
          go_wp2
          go_loopw [10] (fun q wr => ∃ d : Nat, q = .int .i64 ((A + d : Nat) : Int) ∧ d ≤ M ∧ Below w2.heap.size w2 wr) (fun q _ => M + A - (Lib.intOf q).toNat)
          case atStart => exact ⟨0, by simp, Nat.zero_le _, X3.trans ⟨rfl, rfl, rfl, Nat.le_refl _, fun _ _ => rfl⟩⟩
          case round =>
            obtain ⟨d, rfl, hd, X4⟩ := hrel
            clear a0 a1
            obtain ⟨a0, a1⟩ := HA.out _ X4
            by_cases hdl : d < M
            · have a2 := HB.out _ (X.trans (X4.mono X.size)) (A + d) (by omega)
              rw [HI.out (A + d) (by omega) (by omega)] at a2
              have hq : ((A + d : Nat) : Int) < (A : Int) + (M : Int) := by omega
              have hwq : IntKind.i64.wrap (((A + d : Nat) : Int) + 1) = ((A + (d + 1) : Nat) : Int) := by rw [wrap_small (by omega) (by omega)]; omega
              have hqk : A + d < k := by omega
              have hle : A + d + 1 ≤ A + M := by omega
              generalize hQ : A + d = q at *
              go_wp2
              go_quiet (fail)
              go_wp2
              go_roundw
              case rel => exact ⟨d + 1, by first | rfl | (rw [hwq]), hdl, X4.trans ⟨rfl, rfl, rfl, Nat.le_refl _, fun _ _ => rfl⟩⟩
              case measure => simp [Lib.intOf]; omega
            · have hdM : d = M := by omega
              subst hdM
              have hq : ¬ ((A + d : Nat) : Int) < (A : Int) + (d : Int) := by omega
              go_wp2
              go_quiet (fail)
              go_wp2
              go_quiet (fail)
              go_wp2
              go_roundw
              case rel => exact ⟨j + 1, rfl, hlt, by rw [HE1.out]; simp, by rw [HCT.out, ← hw3], X4.trans ⟨rfl, rfl, rfl, Nat.le_refl _, fun _ _ => rfl⟩⟩
              case measure => simp [Lib.intOf]; omega
        · have hje : j = xs.length := by omega
          subst hje
          have hz : cnt xs - cnt (xs.take xs.length) = 0 := by simp
          rw [hz]
          go_wp2
          go_ret
          exact ⟨rfl, X.trans (X3.mono X.size)⟩
end Go.Proofs.Ytfccdalhmmddlaa
