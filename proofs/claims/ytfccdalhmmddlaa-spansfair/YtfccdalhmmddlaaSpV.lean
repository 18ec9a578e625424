/- Same and is of equal lists; what both answer is the same; one act on both. Conditions: none. -/
import Derived.Test.YtfccdalhmmddlaaSpU
import Derived.Test.YtfccdalhmmddlaaSpK
import Derived.Test.YtfccdalhmmddlaaSpQ
namespace Go.Proofs.Ytfccdalhmmddlaa
open Go.ChangeShapes Go.WideShapes Go.RowKit Go.Spans
set_option maxRecDepth 100000
theorem Same_c {w : World} {v u : Value} {b1 b2 : Nat} {L : List Nat} (h1 : w.ownsRow b1 3 1 v L.length (ints L)) (h2 : w.ownsRow b2 3 1 u L.length (ints L)) (hlen : L.length ≤ 4096) :
    Calls Try.prog 27 #[v, u] w fun e w' => e = .returned (.bool true) ∧ Below w.heap.size w w' := by
  have hB := Below.refl w.heap.size w
  rcases h1.2 with ⟨rfl, h0⟩ | ⟨g, cap, cur, rfl, _, hg, k4, k5, k6, k7⟩
  · obtain ⟨p2, c2, rfl⟩ := own_slice h2
    rw [h0]
    clear h1 h2
    go_enter Try.func27, Try.ntmps27
    go_wp2
    go_loopw [5] (fun i wr => i = .int .i64 0 ∧ wr = w) (fun _ _ => 0)
    case atStart => exact ⟨rfl, rfl⟩
    case round =>
      obtain ⟨rfl, rfl⟩ := hrel
      go_wp2
      go_ret
      exact ⟨rfl, hB⟩
  · rcases h2.2 with ⟨rfl, h0⟩ | ⟨g2, cap2, cur2, rfl, _, hg2, l4, l5, l6, l7⟩
    · rw [h0]
      clear h1 h2
      go_enter Try.func27, Try.ntmps27
      go_wp2
      go_loopw [5] (fun i wr => i = .int .i64 0 ∧ wr = w) (fun _ _ => 0)
      case atStart => exact ⟨rfl, rfl⟩
      case round =>
        obtain ⟨rfl, rfl⟩ := hrel
        go_wp2
        go_ret
        exact ⟨rfl, hB⟩
    · have hc : ∀ W, Below w.heap.size w W → ∀ i, i < L.length → W.cell? ⟨g, i, none⟩ = some (.int .i64 (L.getD i 0 : Nat)) ∧ W.cell? ⟨g2, i, none⟩ = some (.int .i64 (L.getD i 0 : Nat)) := fun W hW i hi => by
        have e1 : (ints L)[i]? = some (.int .i64 (L.getD i 0 : Nat)) := by
          rw [ints, List.getElem?_map, List.getElem?_eq_getElem hi, List.getD_eq_getElem?_getD, List.getElem?_eq_getElem hi]
          rfl
        have q1 := (Kp.of_below hW []).is (show Is w g 3 cur from hg) (by simp)
        have q2 := (Kp.of_below hW []).is (show Is w g2 3 cur2 from hg2) (by simp)
        rw [q1.cell, q2.cell]
        exact ⟨cur_get k7 e1, cur_get l7 e1⟩
      clear h1 h2 hg hg2 k6 k7 l6 l7
      generalize L.length = n at *
      go_enter Try.func27, Try.ntmps27
      go_wp2
      go_loopw [5] (fun i wr => ∃ k : Nat, i = .int .i64 k ∧ k ≤ n ∧ Below w.heap.size w wr) (fun i _ => n - (Lib.intOf i).toNat)
      case atStart => exact ⟨0, rfl, Nat.zero_le _, hB⟩
      case round =>
        obtain ⟨k, rfl, hk, hbr⟩ := hrel
        by_cases hlt : k < n
        · have hz : (k : Int) < (n : Int) := by omega
          obtain ⟨a1, a2⟩ := hc wr hbr k hlt
          generalize L.getD k 0 = a at *
          clear hc
          go_wp2
          go_quiet (fail)
          go_wp2
          go_roundw
          case rel => exact ⟨k + 1, rfl, hlt, hbr.trans ⟨rfl, rfl, rfl, Nat.le_refl _, fun _ _ => rfl⟩⟩
          case measure => simp [Lib.intOf]; omega
        · have hke : k = n := by omega
          subst hke
          clear hc
          go_wp2
          go_ret
          exact ⟨rfl, hbr⟩
theorem is_c {w : World} {v u : Value} {b1 b2 : Nat} {L : List Nat} (h1 : w.ownsRow b1 3 1 v L.length (ints L)) (h2 : w.ownsRow b2 3 1 u L.length (ints L)) (hlen : L.length ≤ 4096) :
    Calls Try.prog 23 #[v, u] w fun e w' => e = .returned (.bool true) ∧ Below w.heap.size w w' := by
  have hB := Below.refl w.heap.size w
  rcases h1.2 with ⟨rfl, h0⟩ | ⟨g, cap, cur, rfl, _, hg, k4, k5, k6, k7⟩
  · obtain ⟨p2, c2, rfl⟩ := own_slice h2
    rw [h0]
    clear h1 h2
    go_enter Try.func23, Try.ntmps23
    go_wp2
    go_loopw [5] (fun i wr => i = .int .i64 0 ∧ wr = w) (fun _ _ => 0)
    case atStart => exact ⟨rfl, rfl⟩
    case round =>
      obtain ⟨rfl, rfl⟩ := hrel
      go_wp2
      go_ret
      exact ⟨rfl, hB⟩
  · rcases h2.2 with ⟨rfl, h0⟩ | ⟨g2, cap2, cur2, rfl, _, hg2, l4, l5, l6, l7⟩
    · rw [h0]
      clear h1 h2
      go_enter Try.func23, Try.ntmps23
      go_wp2
      go_loopw [5] (fun i wr => i = .int .i64 0 ∧ wr = w) (fun _ _ => 0)
      case atStart => exact ⟨rfl, rfl⟩
      case round =>
        obtain ⟨rfl, rfl⟩ := hrel
        go_wp2
        go_ret
        exact ⟨rfl, hB⟩
    · have hc : ∀ W, Below w.heap.size w W → ∀ i, i < L.length → W.cell? ⟨g, i, none⟩ = some (.int .i64 (L.getD i 0 : Nat)) ∧ W.cell? ⟨g2, i, none⟩ = some (.int .i64 (L.getD i 0 : Nat)) := fun W hW i hi => by
        have e1 : (ints L)[i]? = some (.int .i64 (L.getD i 0 : Nat)) := by
          rw [ints, List.getElem?_map, List.getElem?_eq_getElem hi, List.getD_eq_getElem?_getD, List.getElem?_eq_getElem hi]
          rfl
        have q1 := (Kp.of_below hW []).is (show Is w g 3 cur from hg) (by simp)
        have q2 := (Kp.of_below hW []).is (show Is w g2 3 cur2 from hg2) (by simp)
        rw [q1.cell, q2.cell]
        exact ⟨cur_get k7 e1, cur_get l7 e1⟩
      clear h1 h2 hg hg2 k6 k7 l6 l7
      generalize L.length = n at *
      go_enter Try.func23, Try.ntmps23
      go_wp2
      go_loopw [5] (fun i wr => ∃ k : Nat, i = .int .i64 k ∧ k ≤ n ∧ Below w.heap.size w wr) (fun i _ => n - (Lib.intOf i).toNat)
      case atStart => exact ⟨0, rfl, Nat.zero_le _, hB⟩
      case round =>
        obtain ⟨k, rfl, hk, hbr⟩ := hrel
        by_cases hlt : k < n
        · have hz : (k : Int) < (n : Int) := by omega
          obtain ⟨a1, a2⟩ := hc wr hbr k hlt
          generalize L.getD k 0 = a at *
          clear hc
          go_wp2
          go_quiet (fail)
          go_wp2
          go_roundw
          case rel => exact ⟨k + 1, rfl, hlt, hbr.trans ⟨rfl, rfl, rfl, Nat.le_refl _, fun _ _ => rfl⟩⟩
          case measure => simp [Lib.intOf]; omega
        · have hke : k = n := by omega
          subst hke
          clear hc
          go_wp2
          go_ret
          exact ⟨rfl, hbr⟩
/-- What the one answers, the other answers. -/
theorem fill_eq {n : Nat} {xs : List Sp} (ok : Ok n xs) (f t : Int) : fillE n xs f t = rfillE n (hasB xs) f t ∧ Ok n (fillX n xs f t) ∧ ∀ k, hasB (fillX n xs f t) k = rfillX n (hasB xs) f t k := by
  by_cases hbad : f < 0 ∨ f > t ∨ t > n
  · simp only [fillE, rfillE, fillX, rfillX, hbad, true_or, if_true]
    exact ⟨trivial, ok, fun _ => trivial⟩
  · obtain ⟨p, rfl⟩ := Int.eq_ofNat_of_zero_le (a := f) (by omega)
    obtain ⟨q, rfl⟩ := Int.eq_ofNat_of_zero_le (a := t) (by omega)
    have hbb : busy xs p q = rbusy (hasB xs) p q := rfl
    simp only [fillE, rfillE, fillX, rfillX, hbad, false_or, if_false, Int.toNat_natCast, hbb]
    by_cases he : p = q
    · subst he
      have hz : rbusy (hasB xs) p p = false := rbusy_false.2 fun k h1 h2 => by omega
      simp only [hz, eq_self, if_true, true_or, Bool.false_eq_true, if_false]
      refine ⟨trivial, ok, fun k => ?_⟩
      rw [decide_eq_false (by omega), Bool.or_false]
    · have hez : ¬ ((p : Int) = (q : Int)) := by omega
      simp only [hez, false_or, if_false]
      cases hb : rbusy (hasB xs) p q with
      | true => simp only [if_true]; exact ⟨trivial, ok, fun _ => trivial⟩
      | false =>
        simp only [Bool.false_eq_true, if_false]
        have hlt : p < q := by omega
        obtain ⟨s1, s2⟩ := fill_spec ok hlt (by omega) ((free_iff ok hlt).1 (rbusy_false.1 hb))
        exact ⟨trivial, s1, s2⟩
theorem give_eq {n : Nat} {xs : List Sp} (ok : Ok n xs) (a : Int) : fillE n xs a (a + 1) = rgiveE n (hasB xs) a ∧ Ok n (fillX n xs a (a + 1)) ∧ ∀ k, hasB (fillX n xs a (a + 1)) k = rgiveX n (hasB xs) a k := by
  obtain ⟨f1, f2, f3⟩ := fill_eq ok a (a + 1)
  rw [f1]
  refine ⟨?_, f2, fun k => ?_⟩
  · by_cases hbad : a < 0 ∨ a ≥ n
    · rw [rfillE, if_pos (by omega), rgiveE, if_pos hbad]
    · obtain ⟨p, rfl⟩ := Int.eq_ofNat_of_zero_le (a := a) (by omega)
      rw [rfillE, if_neg (by omega), rgiveE, if_neg hbad, Int.toNat_natCast, show ((p : Int) + 1).toNat = p + 1 by omega]
      have : rbusy (hasB xs) p (p + 1) = hasB xs p := by
        cases hp : hasB xs p with
        | true => exact rbusy_true (Nat.le_refl _) (Nat.lt_succ_self _) hp
        | false => exact rbusy_false.2 fun k h1 h2 => by rw [show k = p by omega]; exact hp
      rw [this]
  · rw [f3 k]
    simp only [rfillX, rgiveX]
    by_cases hbad : a < 0 ∨ a ≥ n
    · rw [if_pos (.inl (by omega)), decide_eq_false (p := 0 ≤ a ∧ a < n) (by omega)]
      simp
    · obtain ⟨p, rfl⟩ := Int.eq_ofNat_of_zero_le (a := a) (by omega)
      rw [decide_eq_true (p := 0 ≤ (p : Int) ∧ (p : Int) < n) (by omega), Int.toNat_natCast, show ((p : Int) + 1).toNat = p + 1 by omega, Bool.true_and]
      split
      · rename_i hc
        have hp : hasB xs p = true := by
          rcases hc with hc | hc
          · omega
          · cases hp : hasB xs p with
            | true => rfl
            | false =>
              rw [rbusy_false.2 fun k h1 h2 => by rw [show k = p by omega]; exact hp] at hc
              cases hc
        by_cases e : k = p
        · subst e; rw [hp]; rfl
        · simp [e]
      · show (hasB xs k || decide (p ≤ k ∧ k < p + 1)) = _
        congr 1
        rw [decide_eq_decide]
        omega
theorem take_eq {n : Nat} {xs : List Sp} (ok : Ok n xs) (k : Int) : takeE xs k = rtakeE n (hasB xs) k ∧ takeL xs k = rtakeL n (hasB xs) k ∧ Ok n (takeX xs k) ∧ ∀ j, hasB (takeX xs k) j = rtakeX n (hasB xs) k j := by
  have e : Fl (hasB xs) n = elems xs := elems_eq ok
  simp only [takeE, rtakeE, takeL, rtakeL, takeX, rtakeX, e, elems_len]
  refine ⟨trivial, trivial, ?_, fun j => ?_⟩
  · split
    · exact ok
    · exact drop_ok ok
  · split
    · rfl
    · rename_i hb
      have h1 : 1 ≤ k.toNat := by omega
      have h2 : k.toNat ≤ cnt xs := by omega
      have := take_has ok h1 h2 j
      rw [List.getD_eq_getElem?_getD, List.getElem?_eq_getElem (by rw [elems_len]; omega), Option.getD_some]
      exact this
theorem takeL_len {n : Nat} {xs : List Sp} (ok : Ok n xs) (k : Int) : (takeL xs k).length ≤ n := by
  have := cnt_le ok
  unfold takeL
  split
  · simp
  · rw [List.length_take, elems_len]; omega
end Go.Proofs.Ytfccdalhmmddlaa
