/- The document's set: Fill, Count, Copy. Conditions: none. -/
import Derived.Test.YtfccdalhmmddlaaSpR
namespace Go.Proofs.Ytfccdalhmmddlaa
open Go.ChangeShapes Go.WideShapes Go.RowKit Go.Spans
set_option maxRecDepth 100000
/-- Is one of f to t there? -/
def rbusy (h : Nat → Bool) (f t : Nat) : Bool := (List.range t).any fun k => decide (f ≤ k) && h k
theorem rbusy_false {h : Nat → Bool} {f t : Nat} : rbusy h f t = false ↔ ∀ k, f ≤ k → k < t → h k = false := by
  simp only [rbusy, List.any_eq_false, List.mem_range, Bool.and_eq_true, decide_eq_true_eq, not_and, Bool.not_eq_true]
  exact ⟨fun x k h1 h2 => x k h2 h1, fun x k h2 h1 => x k h1 h2⟩
theorem rbusy_true {h : Nat → Bool} {f t k : Nat} (h1 : f ≤ k) (h2 : k < t) (h3 : h k = true) : rbusy h f t = true := by
  cases hb : rbusy h f t with
  | true => rfl
  | false => rw [rbusy_false.1 hb k h1 h2] at h3; cases h3
/-- What Fill answers and makes. -/
def rfillE (n : Nat) (h : Nat → Bool) (f t : Int) : Int := if f < 0 ∨ f > t ∨ t > n then 2 else if rbusy h f.toNat t.toNat then 6 else 0
def rfillX (n : Nat) (h : Nat → Bool) (f t : Int) : Nat → Bool := if (f < 0 ∨ f > t ∨ t > n) ∨ rbusy h f.toNat t.toNat = true then h else fun k => h k || decide (f.toNat ≤ k ∧ k < t.toNat)
set_option maxHeartbeats 2000000 in
theorem rfill_c {w : World} {R b n cap : Nat} {h : Nat → Bool} (x : Rf w R b n cap h) (f t : Int) :
    Calls Try.prog 25 #[.pointer (some ⟨R, 0, none⟩), .int .i64 f, .int .i64 t] w fun e w' => e = .returned (.int .i64 (rfillE n h f t)) ∧ Rf w' R b n cap (rfillX n h f t) ∧ Kp w w' [b] := by
  obtain ⟨c0, c1, c2⟩ := x.cells
  have hhi := x.hi
  by_cases hbad : f < 0 ∨ f > t ∨ t > n
  · have e1 : rfillE n h f t = 2 := by simp only [rfillE, if_pos hbad]
    have e2 : rfillX n h f t = h := by simp only [rfillX, if_pos (Or.inl hbad)]
    rw [e1, e2]
    have hk := Kp.refl w [b]
    have x' := Lib.hid x
    clear e1 e2 c1 c2 x
    go_enter Try.func25, Try.ntmps25
    go_wp2
    all_goals first
      | (exfalso; omega)
      | (go_ret; exact ⟨rfl, x'.out, hk⟩)
  · obtain ⟨p, rfl⟩ := Int.eq_ofNat_of_zero_le (a := f) (by omega)
    obtain ⟨q, rfl⟩ := Int.eq_ofNat_of_zero_le (a := t) (by omega)
    have e1 : rfillE n h (p : Int) (q : Int) = if rbusy h p q then 6 else 0 := by simp only [rfillE, if_neg hbad, Int.toNat_natCast]
    have e2 : rfillX n h (p : Int) (q : Int) = if rbusy h p q = true then h else fun k => h k || decide (p ≤ k ∧ k < q) := by simp only [rfillX, hbad, false_or, Int.toNat_natCast]
    rw [e1, e2]
    obtain ⟨E, X, hX1, hX0⟩ : ∃ (E : Int) (X : Nat → Bool), (rbusy h p q = true → E = 6 ∧ X = h) ∧ (rbusy h p q = false → E = 0 ∧ X = fun k => h k || decide (p ≤ k ∧ k < q)) ∧ E = (if rbusy h p q then 6 else 0) ∧ X = (if rbusy h p q = true then h else fun k => h k || decide (p ≤ k ∧ k < q)) := by
      refine ⟨_, _, fun hb => ?_, fun hb => ?_, rfl, rfl⟩
      · rw [if_pos hb, if_pos hb]; exact ⟨rfl, rfl⟩
      · rw [if_neg (by rw [hb]; simp), if_neg (by rw [hb]; simp)]; exact ⟨rfl, rfl⟩
    obtain ⟨hX0, hE, hX⟩ := hX0
    rw [← hE, ← hX]
    clear hE hX
    have hpq : p ≤ q := by omega
    have hqn : q ≤ n := by omega
    have g1 : ¬ ((q : Int) < (p : Int)) := by omega
    have g2 : ¬ ((n : Int) < (q : Int)) := by omega
    have hk := Kp.refl w [b]
    have x' := Lib.hid x
    clear e1 e2 hbad c1 x
    go_enter Try.func25, Try.ntmps25
    go_wp2
    go_loopw [7] (fun i wr => ∃ k : Nat, i = .int .i64 k ∧ p ≤ k ∧ k ≤ q ∧ wr = w ∧ ∀ j, p ≤ j → j < k → h j = false) (fun i _ => q - (Lib.intOf i).toNat)
    case atStart => exact ⟨p, rfl, Nat.le_refl _, hpq, rfl, fun j h1 h2 => by omega⟩
    case round =>
      obtain ⟨k, rfl, hk1, hk2, hw, hall⟩ := hrel
      have hw' := hw.symm
      clear hw
      subst hw'
      by_cases hkq : k < q
      · have hkz : (k : Int) < (q : Int) := by omega
        have hkn : (k : Int) < (n : Int) := by omega
        have c3 := x'.out.cells.2.1 k (by omega)
        rcases Bool.eq_false_or_eq_true (h k) with hh | hh
        · rw [hh] at c3
          obtain ⟨hE, hX⟩ := hX1 (rbusy_true hk1 hkq hh)
          have hE' := Lib.hid hE
          have hX' := Lib.hid hX
          clear hE hX hX0 hX1
          go_wp2
          go_ret
          rw [hE'.out, hX'.out]
          exact ⟨rfl, x'.out, hk⟩
        · rw [hh] at c3
          go_wp2
          go_roundw
          case rel => exact ⟨k + 1, rfl, by omega, hkq, by simp, fun j h1 h2 => by
            rcases Nat.lt_or_ge j k with e | e
            · exact hall j h1 e
            · have : j = k := by omega
              subst this
              exact hh⟩
          case measure => simp [Lib.intOf]; omega
      · have hke : k = q := by omega
        subst hke
        obtain ⟨hE, hX⟩ := hX0 (rbusy_false.2 hall)
        have hE' := Lib.hid hE
        have hX' := Lib.hid hX
        clear hall hkq hk2 c0 c2 hE hX hX0 hX1
        go_wp2
        go_loopw [8] (fun i wr => ∃ m : Nat, i = .int .i64 m ∧ p ≤ m ∧ m ≤ k ∧ Rf wr R b n cap (fun j => h j || decide (p ≤ j ∧ j < m)) ∧ Kp w wr [b]) (fun i _ => k - (Lib.intOf i).toNat)
        case atStart =>
          refine ⟨p, rfl, Nat.le_refl _, hpq, x'.out.ext fun j _ => ?_, hk⟩
          rw [decide_eq_false (by omega), Bool.or_false]
        case round =>
          obtain ⟨m, rfl, hm1, hm2, xr, hkr⟩ := hrel
          by_cases hmk : m < k
          · have hmz : (m : Int) < (k : Int) := by omega
            have hmn : (m : Int) < (n : Int) := by omega
            obtain ⟨d0, d1, d2⟩ := xr.cells
            have d3 := d1 m (by omega)
            have d4 := d2 m
            have hput := Lib.hid ((xr.put m true).ext (h' := fun j => h j || decide (p ≤ j ∧ j < m + 1)) fun j _ => by
              by_cases e : j = m
              · subst e; simp [hm1]
              · rw [if_neg e]
                congr 1
                rw [decide_eq_decide]
                omega)
            have hkp := Lib.hid (hkr.put ⟨b, m, none⟩ (.bool true) (.inl (by simp)))
            generalize (h m || decide (p ≤ m ∧ m < m)) = u0 at d3
            clear d1 xr
            go_wp2
            go_roundw
            case rel => exact ⟨m + 1, rfl, by omega, hmk, hput, hkp⟩
            case measure => simp [Lib.intOf]; omega
          · have hme : m = k := by omega
            subst hme
            go_wp2
            go_ret
            rw [hE'.out, hX'.out]
            exact ⟨rfl, xr, hkr⟩
end Go.Proofs.Ytfccdalhmmddlaa
