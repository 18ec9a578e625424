/- use and others. Conditions: none. -/
import Derived.Test.YtnpjbddannkgfaaAlI
namespace Go.Proofs.Ytnpjbddannkgfaa
open Go.ChangeShapes Go.WideShapes Go.RowKit Go.Maps Go.Spans Go.Alloc
set_option maxRecDepth 100000
theorem To.trans {w w1 w2 : World} {S : Nat} {v v1 v2 : Value} {n : Nat} {xs ys : List Sp} (h : To w w1 S v v1 n xs) (k : To w1 w2 S v1 v2 n ys) : To w w2 S v v2 n ys :=
  ⟨k.st, h.kp.trans k.kp (fun y hy => by
    rcases List.mem_cons.1 hy with rfl | hy
    · simp
    · rcases h.lies y hy with e | e
      · simp [e]
      · exact .inr e), fun g hg => by
    rcases k.lies g hg with e | e
    · exact h.lies g e
    · have := h.kp.size; exact .inr (by omega)⟩
/-- What can be given. -/
theorem give_iff {n : Nat} {ys : List Sp} (x : Int) : fillE n ys x (x + 1) = 0 ↔ 0 ≤ x ∧ x < n ∧ hasB ys x.toNat = false := by
  unfold fillE
  have hb : busy ys x.toNat (x + 1).toNat = hasB ys x.toNat ∨ x < 0 := by
    by_cases h : x < 0
    · exact .inr h
    · left
      have e2 : (x + 1).toNat = x.toNat + 1 := by omega
      rw [e2]
      cases hh : hasB ys x.toNat with
      | false =>
        refine busy_false.2 fun k h1 h2 => ?_
        have : k = x.toNat := by omega
        rw [this, hh]
      | true =>
        rw [← Bool.not_eq_false]
        intro h0
        rw [busy_false.1 h0 x.toNat (Nat.le_refl _) (by omega)] at hh
        cases hh
  by_cases h1 : x < 0 ∨ x > x + 1 ∨ x + 1 > n
  · rw [if_pos h1]
    constructor
    · intro h; cases h
    · intro h; omega
  · rw [if_neg h1, if_neg (by omega)]
    have hb' : busy ys x.toNat (x + 1).toNat = hasB ys x.toNat := by rcases hb with h | h; exact h; omega
    rw [hb']
    cases hasB ys x.toNat <;> simp <;> omega
/-- May all of these be used, one behind the other? -/
def usable (n : Nat) (xs : List Sp) (l : List Int) : Prop := l.Nodup ∧ ∀ a ∈ l, 0 ≤ a ∧ a < n ∧ hasB xs a.toNat = false
theorem usable_step {n : Nat} {xs ys : List Sp} {l : List Int} {k : Nat} {x : Int} (hx : l[k]? = some x) (hu : usable n xs (l.take k)) (hys : ∀ j, hasB ys j = (hasB xs j || decide (((j : Nat) : Int) ∈ l.take k))) :
    (0 ≤ x ∧ x < n ∧ hasB ys x.toNat = false) ↔ usable n xs (l.take (k + 1)) := by
  rw [List.take_add_one, hx, Option.toList_some]
  unfold usable
  constructor
  · rintro ⟨h1, h2, h3⟩
    rw [hys x.toNat, Bool.or_eq_false_iff, decide_eq_false_iff_not, show ((x.toNat : Nat) : Int) = x by omega] at h3
    refine ⟨List.nodup_append.2 ⟨hu.1, by simp, fun a ha b hb => ?_⟩, fun a ha => ?_⟩
    · simp at hb
      subst hb
      rintro rfl
      exact h3.2 ha
    · rcases List.mem_append.1 ha with ha | ha
      · exact hu.2 a ha
      · simp at ha
        subst ha
        exact ⟨h1, h2, h3.1⟩
  · rintro ⟨h1, h2⟩
    obtain ⟨h3, h4, h5⟩ := h2 x (by simp)
    refine ⟨h3, h4, ?_⟩
    rw [hys x.toNat, h5, show ((x.toNat : Nat) : Int) = x by omega]
    have := (List.nodup_append.1 h1).2.2
    simp
    exact fun hm => this x hm x (by simp) rfl
theorem usable_take {n : Nat} {xs : List Sp} {l : List Int} {k : Nat} (h : usable n xs l) : usable n xs (l.take k) :=
  ⟨List.Nodup.sublist (List.take_sublist _ _) h.1, fun a ha => h.2 a (List.mem_of_mem_take ha)⟩
set_option maxHeartbeats 1000000 in
theorem use_c {w : World} {S : Nat} {v : Value} {n : Nat} {xs : List Sp} (h : St w S v n xs) {P : Option Addr} {N C : Nat} {l : List Int} (hl : w.ownsRow 0 3 1 (.slice P N C) l.length (zs l)) (hlen : l.length ≤ 16384) (hr : ∀ x ∈ l, -9223372036854775808 ≤ x ∧ x ≤ 9223372036854775807) :
    Calls Try.prog 38 #[.pointer (some ⟨S, 0, none⟩), .slice P N C] w fun e w' => ∃ b v' ys, e = .returned (.bool b) ∧ To w w' S v v' n ys ∧ (b = true ↔ usable n xs l) ∧ (b = true → ∀ j, hasB ys j = (hasB xs j || decide (((j : Nat) : Int) ∈ l))) := by
  obtain ⟨m, hm⟩ : ∃ m, l.length = m := ⟨_, rfl⟩
  have hN : N = m := by
    rcases hl.2 with ⟨h, h0⟩ | ⟨g, cap, cur, h, _⟩ <;> injection h with _ h _ <;> omega
  subst hN
  have hSt : NoI w (S :: ob v) := fun g hg cs hi => by
    rcases List.mem_cons.1 hg with rfl | hg
    · exact hi.ne h.one (by decide) rfl
    · obtain ⟨cs', hv⟩ := h.vs g hg
      exact hi.ne hv (by decide) rfl
  have hN8 : N ≤ 16384 := by omega
  have HM := Lib.hid hm
  have HR := Lib.hid hl
  have HA := Lib.hid h
  have HNI := Lib.hid hSt
  have HQ := Lib.hid hr
  clear h hl hm hr hSt hlen
  go_enter Try.func38, Try.ntmps38
  go_wp2
  go_loopw [6, 9] (fun _ i wr => ∃ (k : Nat) (v' : Value) (ys : List Sp), i = .int .i64 (k : Int) ∧ k ≤ N ∧ To w wr S v v' n ys ∧ usable n xs (l.take k) ∧ ∀ j, hasB ys j = (hasB xs j || decide (((j : Nat) : Int) ∈ l.take k))) (fun _ i _ => N - (RowKit.intOf i).toNat)
  case atStart => exact ⟨0, v, xs, rfl, Nat.zero_le _, To.stays HA.out (Below.refl _ _), ⟨by simp, by simp⟩, fun j => by simp⟩
  case round =>
    obtain ⟨k, v1, ys, rfl, hkn, ht, hu, hys⟩ := hrel
    by_cases hlt2 : k < N
    · have hxk : l[k]? = some (l[k]'(by rw [HM.out]; exact hlt2)) := List.getElem?_eq_getElem _
      obtain ⟨x, ex⟩ : ∃ x, l[k]'(by rw [HM.out]; exact hlt2) = x := ⟨_, rfl⟩
      rw [ex] at hxk
      have hrow := row_kp HR.out ht.kp HNI.out
      rw [← HM.out] at hrow
      obtain ⟨p', c', ep, hcell⟩ := own_sl (w := wr) (base := 0) (v := .slice P l.length C) (xs := l) hrow
      obtain ⟨ad, rfl, hc⟩ := hcell k x hxk
      injection ep with ep q1 q2
      clear q1 q2
      subst ep
      obtain ⟨hx1, hx2⟩ := HQ.out x (List.mem_of_getElem? hxk)
      have hG := Lib.hid (give_c ht.st x hx1 hx2)
      have hiff := (give_iff (n := n) (ys := ys) x).trans (usable_step hxk hu hys)
      have hT := Lib.hid ht
      have HY := Lib.hid hys
      have HX := Lib.hid hxk
      have HI := Lib.hid hiff
      obtain ⟨E, eE⟩ : ∃ E, fillE n ys x (x + 1) = E := ⟨_, rfl⟩
      rw [eE] at hG
      have HE := Lib.hid eE
      have HO := Lib.hid ht.st.ok
      clear ht hys hxk ex hcell hiff hrow eE hu hx1 hx2
      by_cases hE : E = 0
      · subst hE
        go_wp2_with (go_at_call 54; refine hG.out.mono ?_; rintro e w3 ⟨rfl, v3, hto⟩; have HTo := Lib.hid hto; clear hto)
        go_roundw
        case rel =>
          refine ⟨k + 1, v3, _, by go_num, by omega, hT.out.trans HTo.out, HI.out.1 HE.out, fun j => ?_⟩
          obtain ⟨y1, y2, y3⟩ := (give_iff x).1 HE.out
          obtain ⟨_, _, f3⟩ := give_new HO.out (a := x.toNat) (by omega) y3
          rw [show ((x.toNat : Nat) : Int) = x by omega] at f3
          rw [f3 j, HY.out j, List.take_add_one, HX.out, Bool.or_assoc]
          have hjx : (j = x.toNat) ↔ (((j : Nat) : Int) = x) := by omega
          simp [hjx]
        case measure => simp [RowKit.intOf]; omega
      · go_wp2_with (go_at_call 54; refine hG.out.mono ?_; rintro e w3 ⟨rfl, v3, hto⟩; have HTo := Lib.hid hto; clear hto)
        go_ret
        refine ⟨false, v3, _, rfl, hT.out.trans HTo.out, ⟨fun h => (by cases h), fun hu2 => absurd (HI.out.2 (usable_take hu2)) (by rw [HE.out]; exact hE)⟩, fun h => (by cases h)⟩
    · obtain rfl : k = N := by omega
      have eR : l.take k = l := by rw [← HM.out, List.take_length]
      rw [eR] at hys hu
      have HT := Lib.hid ht
      have HY := Lib.hid hys
      have HU := Lib.hid hu
      clear ht eR hys hu
      go_wp2
      go_ret
      exact ⟨true, v1, ys, rfl, HT.out, ⟨fun _ => HU.out, fun _ => rfl⟩, fun _ => HY.out⟩
end Go.Proofs.Ytnpjbddannkgfaa
