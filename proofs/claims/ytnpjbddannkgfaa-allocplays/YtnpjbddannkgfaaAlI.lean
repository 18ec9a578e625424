/- New; use and others. Conditions: none. -/
import Derived.Test.YtnpjbddannkgfaaAlF
import Derived.Test.YtnpjbddannkgfaaAlH
import Derived.Carry
namespace Go.Proofs.Ytnpjbddannkgfaa
open Go.ChangeShapes Go.WideShapes Go.RowKit Go.Maps Go.Spans Go.Alloc
set_option maxRecDepth 100000
/-- A gap is filled, or nothing is to be filled. -/
theorem fill_gap {n : Nat} {ys : List Sp} (h : Ok n ys) {f t : Nat} (hft : f ≤ t) (htn : t ≤ n) (hn : ∀ k, f ≤ k → k < t → hasB ys k = false) :
    Ok n (fillX n ys (f : Nat) (t : Nat)) ∧ ∀ j, hasB (fillX n ys (f : Nat) (t : Nat)) j = (hasB ys j || decide (f ≤ j ∧ j < t)) := by
  by_cases he : f = t
  · subst he
    have : fillX n ys (f : Nat) (f : Nat) = ys := by unfold fillX; rw [if_pos (.inr (.inl rfl))]
    rw [this]
    refine ⟨h, fun j => ?_⟩
    have : decide (f ≤ j ∧ j < f) = false := decide_eq_false (by omega)
    rw [this, Bool.or_false]
  · have e1 : ((f : Nat) : Int).toNat = f := by omega
    have e2 : ((t : Nat) : Int).toNat = t := by omega
    have hb : busy ys f t = false := busy_false.2 hn
    have hf : ∀ e, ys[bh ys f]? = some e → t ≤ e.1 := (free_iff h (by omega)).1 hn
    have eX : fillX n ys (f : Nat) (t : Nat) = fillL ys f t := by
      unfold fillX
      rw [e1, e2, hb, if_neg]
      rintro ((h | h | h) | h | h)
      · omega
      · omega
      · omega
      · omega
      · cases h
    obtain ⟨f1, f2⟩ := fill_spec h (show f < t by omega) htn hf
    exact ⟨by rw [eX]; exact f1, fun j => by rw [eX]; exact f2 j⟩
theorem new_nil (f n : Int) (h : ¬ (0 ≤ f ∧ f < n ∧ n ≤ 4096)) (w : World) : Calls Try.prog 8 #[.int .i64 f, .int .i64 n] w fun e w' => e = .returned (.pointer none) ∧ w = w' := by
  go_enter Try.func8, Try.ntmps8
  go_wp2
  all_goals first
    | (go_ret; exact ⟨rfl, rfl⟩)
    | (exfalso; omega)
/-- An allocator in blocks of the call's own; what lay below B lies as it lay. -/
structure Oa (B : Nat) (wB w : World) (A S : Nat) (v : Value) (bc bw n : Nat) (xs : List Sp) (L : List Ch) (W : List Nat) : Prop where
  am : Am w A S v bc bw n xs L W
  loA : B ≤ A
  lo : ∀ g ∈ bl S v bc bw, B ≤ g
  below : Below B wB w
section
variable {B : Nat} {wB w w' : World} {A S : Nat} {v v' : Value} {bc bw n : Nat} {xs ys : List Sp} {L M : List Ch} {W W' : List Nat}
theorem Oa.lt (h : Oa B wB w A S v bc bw n xs L W) : B ≤ w.heap.size := by have := h.am.lt; have := h.loA; omega
theorem Oa.later (h : Oa B wB w A S v bc bw n xs L W) (hb : Below w.heap.size w w') : Oa B wB w' A S v bc bw n xs L W :=
  ⟨h.am.below hb, h.loA, h.lo, h.below.trans (hb.mono h.lt)⟩
theorem Oa.to (h : Oa B wB w A S v bc bw n xs L W) (t : Ta w w' A S v v' bc bw n ys M W') : Oa B wB w' A S v' bc bw n ys M W' :=
  ⟨t.am, h.loA, fun g hg => by
    rcases bl_trans (S := S) (bc := bc) (bw := bw) t.lies g hg with e | e
    · exact h.lo g e
    · have := h.lt; omega, h.below.trans (t.kp.below h.lt h.lo)⟩
end
set_option maxHeartbeats 1000000 in
theorem new_al (f n : Nat) (h1 : f < n) (h2 : n ≤ 4096) (w : World) : Calls Try.prog 8 #[.int .i64 (f : Nat), .int .i64 (n : Nat)] w fun e w' =>
    ∃ A S v bc bw xs, e = .returned (.pointer (some ⟨A, 0, none⟩)) ∧ Oa w.heap.size w w' A S v bc bw n xs [] [] ∧ ∀ j, hasB xs j = decide (f ≤ j ∧ j < n) := by
  have hN := new_c w (n : Nat)
  obtain ⟨w1, e1⟩ : ∃ w1, w.alloc (.cells #[.int .i64 (n : Nat), .slice none 0 0] 99) = w1 := ⟨_, rfl⟩
  have b1 : Below w.heap.size w w1 := by rw [← e1]; exact below_alloc (Below.refl _ w) _
  have s1 : St w1 w.heap.size (.slice none 0 0) n [] := ⟨by rw [← e1]; exact Is.new w 99 _, Rw.nil _ _, ok_nil n, by omega, h2⟩
  have hN2 : Calls Try.prog 31 #[.int .i64 (n : Nat)] w fun e w' => e = .returned (.pointer (some ⟨w.heap.size, 0, none⟩)) ∧ w1 = w' := by
    refine hN.mono ?_
    rintro e w' (⟨_, _, rfl, rfl⟩ | ⟨hc, _⟩)
    · exact ⟨rfl, e1.symm⟩
    · omega
  have l1 := s1.one.lt
  obtain ⟨w2, e2⟩ : ∃ w2, w1.alloc (.map #[] 0) = w2 := ⟨_, rfl⟩
  obtain ⟨w3, e3⟩ : ∃ w3, w2.alloc (.map #[] 0) = w3 := ⟨_, rfl⟩
  obtain ⟨w4, e4⟩ : ∃ w4, w3.alloc (.cells #[.pointer (some ⟨w.heap.size, 0, none⟩), .map (some w1.heap.size), .map (some w2.heap.size)] 61) = w4 := ⟨_, rfl⟩
  have m2 : w2.ownsMap Try.prog 3 RC w1.heap.size 0 (.map []) := by rw [← e2]; exact World.ownsMap_made w1 Try.prog 3 RC
  have m3 : w3.ownsMap Try.prog 3 (unitElem (H := Unit)) w2.heap.size 0 (.map []) := by rw [← e3]; exact World.ownsMap_made w2 Try.prog 3 _
  have z2 : w2.heap.size = w1.heap.size + 1 := by rw [← e2]; simp
  have z3 : w3.heap.size = w1.heap.size + 1 + 1 := by rw [← e3, World.size_alloc, z2]
  have hA4 : Am w4 w3.heap.size w.heap.size (.slice none 0 0) w1.heap.size w2.heap.size n [] [] [] := by
    refine ⟨by rw [← e4]; exact Is.new w3 61 _, ?_, ⟨0, .map [], ?_, MD.nil _⟩, ⟨0, .map [], by rw [← e4]; exact m3.alloc _, fun kl => ⟨fun h => (by cases h), fun ⟨i, hi, _⟩ => (by cases hi)⟩⟩, by omega⟩
    · rw [← e4, ← e3, ← e2]; exact ((s1.alloc _).alloc _).alloc _
    · rw [← e4, ← e3]; exact (m2.alloc _).alloc _
  have b4 : Below w.heap.size w w4 := by
    rw [← e4, ← e3, ← e2]
    exact below_alloc (below_alloc (below_alloc b1 _) _) _
  have hF := fill_c hA4.set (f : Nat) (n : Nat)
  obtain ⟨f1, f2⟩ := fill_gap (ok_nil n) (f := f) (t := n) (by omega) (Nat.le_refl _) (fun k _ _ => rfl)
  have hlo : ∀ g ∈ bl w.heap.size (.slice none 0 0) w1.heap.size w2.heap.size, w.heap.size ≤ g := by
    intro g hg
    simp [bl, ob, Value.ownBlock] at hg
    omega
  have hO : Oa w.heap.size w w4 w3.heap.size w.heap.size (.slice none 0 0) w1.heap.size w2.heap.size n [] [] [] := ⟨hA4, by omega, hlo, b4⟩
  have c0 := hA4.one.cell 0
  simp at c0
  have hfin : ∀ w5 v', To w4 w5 w.heap.size (.slice none 0 0) v' n (fillX n [] (f : Nat) (n : Nat)) → Oa w.heap.size w w5 w3.heap.size w.heap.size v' w1.heap.size w2.heap.size n (fillX n [] (f : Nat) (n : Nat)) [] [] := fun w5 v' ht =>
    hO.to ⟨hA4.to ht, ht.kp.more (by intro g hg; simp only [bl, List.mem_cons] at hg ⊢; rcases hg with rfl | hg; simp; simp [hg]), ht.lies⟩
  have g1 : (f : Int) < (n : Int) := by omega
  have g2 : (n : Int) ≤ 4096 := by omega
  have g3 : (0 : Int) ≤ (f : Int) := by omega
  have HF := Lib.hid hF
  have HH := Lib.hid hfin
  have HY := Lib.hid f2
  clear hN hF hfin f1 f2 hO hlo hA4 b4 b1 m2 m3 s1 z2 z3 l1
  have hmm := @run_makeMap Try.prog
  go_enter Try.func8, Try.ntmps8
  go_wp2_with (first
    | (go_at_call 31; refine hN2.mono ?_; rintro e w' ⟨rfl, rfl⟩)
    | (go_at_call 32; refine HF.out.mono ?_; rintro e w5 ⟨rfl, v5, ht⟩; have HT := Lib.hid ht; clear ht))
  go_ret
  exact ⟨_, _, _, _, _, _, rfl, HH.out _ _ HT.out, fun j => by rw [HY.out j]; simp [hasB]⟩
end Go.Proofs.Ytnpjbddannkgfaa
