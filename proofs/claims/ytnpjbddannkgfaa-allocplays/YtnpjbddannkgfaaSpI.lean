/- join, Fill, Give. Conditions: none. -/
import Derived.Test.YtnpjbddannkgfaaSpB
import Derived.Test.YtnpjbddannkgfaaSpH
namespace Go.Proofs.Ytnpjbddannkgfaa
open Go.ChangeShapes Go.WideShapes Go.RowKit Go.Spans Go.Shelf
set_option maxRecDepth 100000
theorem end_b (a m : Nat) (w W : World) (h : a + m ≤ 4096) (hW : Below w.heap.size w W) : Calls Try.prog 70 #[.agg #[.int .i64 a, .int .i64 m]] W fun r w' => r = .returned (.int .i64 ((a + m : Nat) : Int)) ∧ Below w.heap.size w w' :=
  (end_c (a, m) h W).mono fun e w' ⟨h1, h2⟩ => ⟨h1, by rw [h2]; exact hW.alloc hW.size _⟩
set_option maxHeartbeats 4000000 in
/-- The walk of join, whatever it makes. -/
theorem join_walk {w : World} {S g i low high f t f' t' a1 m1 a2 m2 n len cap : Nat} {p : Option Addr} (hS : Is w S 99 #[.int .i64 n, .slice p len cap]) (hc : len ≤ 4096) (hf : f ≤ 4096) (ht : t ≤ 4096) (hft : f' < t') (ht' : t' ≤ 4096)
    (hlow : (i = 0 ∧ low = 0 ∧ f' = f) ∨ (∃ k, i = k + 1 ∧ p = some ⟨g, 0, none⟩ ∧ a1 + m1 ≤ 4096 ∧ (∀ W, Below w.heap.size w W → W.cell? ⟨g, k * 2, none⟩ = some (.int .i64 a1) ∧ W.cell? ⟨g, k * 2 + 1, none⟩ = some (.int .i64 m1)) ∧ ((a1 + m1 ≠ f ∧ low = k + 1 ∧ f' = f) ∨ (a1 + m1 = f ∧ low = k ∧ f' = a1))))
    (hhigh : (i = len ∧ high = i ∧ t' = t) ∨ (i < len ∧ p = some ⟨g, 0, none⟩ ∧ a2 + m2 ≤ 4096 ∧ (∀ W, Below w.heap.size w W → W.cell? ⟨g, i * 2, none⟩ = some (.int .i64 a2) ∧ W.cell? ⟨g, i * 2 + 1, none⟩ = some (.int .i64 m2)) ∧ ((a2 ≠ t ∧ high = i ∧ t' = t) ∨ (a2 = t ∧ high = i + 1 ∧ t' = a2 + m2))))
    {P : World → Prop} (hrep : ∀ (W : World) (vb : Nat) (lo hi x y : Int), lo = low → hi = high → x = f' → y = (t' : Int) - f' → Below w.heap.size w W → w.heap.size ≤ vb → Is W vb 101 #[.int .i64 x, .int .i64 y] →
      Calls Try.prog 71 #[.slice p len cap, .int .i64 lo, .int .i64 hi, .slice (some ⟨vb, 0, none⟩) 1 1] W fun e w' => ∃ p' l' c', e = .returned (.slice p' l' c') ∧ Is w' S 99 #[.int .i64 n, .slice p len cap] ∧ P (w'.setCell ⟨S, 1, none⟩ (.slice p' l' c'))) :
    Calls Try.prog 58 #[.pointer (some ⟨S, 0, none⟩), .int .i64 i, .int .i64 f, .int .i64 t] w fun e w' => (∃ r, e = .returned r) ∧ P w' := by
  have hb0 := Below.refl w.heap.size w
  have hSc : ∀ W, Below w.heap.size w W → W.cell? ⟨S, 1, none⟩ = some (.slice p len cap) := fun W hW => by
    have := ((Kp.of_below hW []).is hS (by simp)).cell 1
    simpa using this
  have c0 := hSc w hb0
  have hsub : IntKind.i64.wrap ((t' : Int) - (f' : Int)) = ((t' - f' : Nat) : Int) := by
    rw [wrap_small (by omega) (by omega)]
    omega
  clear hS
  have E2 := fun (W : World) (hm : a2 + m2 ≤ 4096) (hW : Below w.heap.size w W) => end_b a2 m2 w W hm hW
  rcases hlow with ⟨hi0, hl, hf1⟩ | ⟨k, hi0, hp, hm1, hc1, ⟨hne1, hl, hf1⟩ | ⟨he1, hl, hf1⟩⟩
  · rw [hf1] at hsub hft
    rcases hhigh with ⟨hj, hh, ht1⟩ | ⟨hil, hp2, hm2, hc2, ⟨hne2, hh, ht1⟩ | ⟨he2, hh, ht1⟩⟩
    · rw [ht1] at hsub hft
      rw [hi0]
      go_enter Try.func58, Try.ntmps58
      go_wp2_with (first
        | (go_at_call 71; refine (hrep _ _ _ _ _ _ (by omega) (by omega) (by omega) (by omega) (hb0.alloc hb0.size _) hb0.size (Is.new _ _ _)).mono ?_; clear hrep; rintro e w9 ⟨p', l', c', rfl, hI, hP⟩; have s9 := hI.cell 1; have z9 := hI.frozen 1; simp at s9))
      go_end0
      exact ⟨⟨_, rfl⟩, hP⟩
    · rw [ht1] at hsub hft
      rw [hi0]
      subst hp2
      rw [hi0] at hc2
      have hilz : ((0 : Nat) : Int) < (len : Int) := by omega
      obtain ⟨x2, y2⟩ := hc2 w hb0
      have hne2' : ¬ ((a2 : Int) = (t : Int)) := by omega
      go_enter Try.func58, Try.ntmps58
      go_wp2_with (first
        | (go_at_call 71; refine (hrep _ _ _ _ _ _ (by omega) (by omega) (by omega) (by omega) (hb0.alloc hb0.size _) hb0.size (Is.new _ _ _)).mono ?_; clear hrep; rintro e w9 ⟨p', l', c', rfl, hI, hP⟩; have s9 := hI.cell 1; have z9 := hI.frozen 1; simp at s9))
      go_end0
      exact ⟨⟨_, rfl⟩, hP⟩
    · rw [ht1] at hsub hft
      rw [hi0]
      subst hp2
      rw [hi0] at hc2
      subst he2
      have hilz : ((0 : Nat) : Int) < (len : Int) := by omega
      obtain ⟨x2, y2⟩ := hc2 w hb0
      go_enter Try.func58, Try.ntmps58
      go_wp2_with (first
        | (go_at_call 70; with_reducible refine (E2 _ hm2 hb0).mono ?_; clear E2; rintro e w2 ⟨rfl, hb2⟩; have s2 := hSc w2 hb2)
        | (go_at_call 71; refine (hrep _ _ _ _ _ _ (by omega) (by omega) (by omega) (by omega) (hb2.alloc hb2.size _) hb2.size (Is.new _ _ _)).mono ?_; clear hrep; rintro e w9 ⟨p', l', c', rfl, hI, hP⟩; have s9 := hI.cell 1; have z9 := hI.frozen 1; simp at s9))
      go_end0
      exact ⟨⟨_, rfl⟩, hP⟩
  · subst hp
    rw [hf1] at hsub hft
    rcases hhigh with ⟨hj, hh, ht1⟩ | ⟨hil, hp2, hm2, hc2, ⟨hne2, hh, ht1⟩ | ⟨he2, hh, ht1⟩⟩
    · rw [ht1] at hsub hft
      rw [hi0]
      obtain ⟨x1, y1⟩ := hc1 w hb0
      have E1 := end_b a1 m1 w w hm1 hb0
      have hki : 0 < k + 1 := Nat.succ_pos k
      have hne1' : ¬ ((a1 : Int) + (m1 : Int) = (f : Int)) := by omega
      go_enter Try.func58, Try.ntmps58
      go_wp2_with (first
        | (go_at_call 70; with_reducible refine E1.mono ?_; clear E1; rintro e w1 ⟨rfl, hb1⟩; have s1 := hSc w1 hb1)
        | (go_at_call 71; refine (hrep _ _ _ _ _ _ (by omega) (by omega) (by omega) (by omega) (hb1.alloc hb1.size _) hb1.size (Is.new _ _ _)).mono ?_; clear hrep; rintro e w9 ⟨p', l', c', rfl, hI, hP⟩; have s9 := hI.cell 1; have z9 := hI.frozen 1; simp at s9))
      go_end0
      exact ⟨⟨_, rfl⟩, hP⟩
    · rw [ht1] at hsub hft
      rw [hi0]
      rw [hi0] at hc2
      obtain ⟨x1, y1⟩ := hc1 w hb0
      have E1 := end_b a1 m1 w w hm1 hb0
      have hki : 0 < k + 1 := Nat.succ_pos k
      have hne1' : ¬ ((a1 : Int) + (m1 : Int) = (f : Int)) := by omega
      have hilz : ((k + 1 : Nat) : Int) < (len : Int) := by omega
      have hne2' : ¬ ((a2 : Int) = (t : Int)) := by omega
      go_enter Try.func58, Try.ntmps58
      go_wp2_with (first
        | (go_at_call 70; with_reducible refine E1.mono ?_; clear E1; rintro e w1 ⟨rfl, hb1⟩; have s1 := hSc w1 hb1; obtain ⟨x2, y2⟩ := hc2 w1 hb1)
        | (go_at_call 71; refine (hrep _ _ _ _ _ _ (by omega) (by omega) (by omega) (by omega) (hb1.alloc hb1.size _) hb1.size (Is.new _ _ _)).mono ?_; clear hrep; rintro e w9 ⟨p', l', c', rfl, hI, hP⟩; have s9 := hI.cell 1; have z9 := hI.frozen 1; simp at s9))
      go_end0
      exact ⟨⟨_, rfl⟩, hP⟩
    · rw [ht1] at hsub hft
      rw [hi0]
      rw [hi0] at hc2
      subst he2
      obtain ⟨x1, y1⟩ := hc1 w hb0
      have E1 := end_b a1 m1 w w hm1 hb0
      have hki : 0 < k + 1 := Nat.succ_pos k
      have hne1' : ¬ ((a1 : Int) + (m1 : Int) = (f : Int)) := by omega
      have hilz : ((k + 1 : Nat) : Int) < (len : Int) := by omega
      go_enter Try.func58, Try.ntmps58
      go_wp2_with (first
        | (go_at_call 70; with_reducible refine E1.mono ?_; clear E1; rintro e w1 ⟨rfl, hb1⟩; have s1 := hSc w1 hb1; obtain ⟨x2, y2⟩ := hc2 w1 hb1)
        | (go_at_call 70; with_reducible refine (E2 _ hm2 hb1).mono ?_; clear E2; rintro e w2 ⟨rfl, hb2⟩; have s2 := hSc w2 hb2)
        | (go_at_call 71; refine (hrep _ _ _ _ _ _ (by omega) (by omega) (by omega) (by omega) (hb2.alloc hb2.size _) hb2.size (Is.new _ _ _)).mono ?_; clear hrep; rintro e w9 ⟨p', l', c', rfl, hI, hP⟩; have s9 := hI.cell 1; have z9 := hI.frozen 1; simp at s9))
      go_end0
      exact ⟨⟨_, rfl⟩, hP⟩
  · subst hp
    rw [hf1] at hsub hft
    rcases hhigh with ⟨hj, hh, ht1⟩ | ⟨hil, hp2, hm2, hc2, ⟨hne2, hh, ht1⟩ | ⟨he2, hh, ht1⟩⟩
    · rw [ht1] at hsub hft
      rw [hi0]
      obtain ⟨x1, y1⟩ := hc1 w hb0
      have E1 := end_b a1 m1 w w hm1 hb0
      have hki : 0 < k + 1 := Nat.succ_pos k
      go_enter Try.func58, Try.ntmps58
      go_wp2_with (first
        | (go_at_call 70; with_reducible refine E1.mono ?_; clear E1; rintro e w1 ⟨rfl, hb1⟩; have s1 := hSc w1 hb1)
        | (go_at_call 71; refine (hrep _ _ _ _ _ _ (by omega) (by omega) (by omega) (by omega) (hb1.alloc hb1.size _) hb1.size (Is.new _ _ _)).mono ?_; clear hrep; rintro e w9 ⟨p', l', c', rfl, hI, hP⟩; have s9 := hI.cell 1; have z9 := hI.frozen 1; simp at s9))
      go_end0
      exact ⟨⟨_, rfl⟩, hP⟩
    · rw [ht1] at hsub hft
      rw [hi0]
      rw [hi0] at hc2
      obtain ⟨x1, y1⟩ := hc1 w hb0
      have E1 := end_b a1 m1 w w hm1 hb0
      have hki : 0 < k + 1 := Nat.succ_pos k
      have hilz : ((k + 1 : Nat) : Int) < (len : Int) := by omega
      have hne2' : ¬ ((a2 : Int) = (t : Int)) := by omega
      go_enter Try.func58, Try.ntmps58
      go_wp2_with (first
        | (go_at_call 70; with_reducible refine E1.mono ?_; clear E1; rintro e w1 ⟨rfl, hb1⟩; have s1 := hSc w1 hb1; obtain ⟨x2, y2⟩ := hc2 w1 hb1)
        | (go_at_call 71; refine (hrep _ _ _ _ _ _ (by omega) (by omega) (by omega) (by omega) (hb1.alloc hb1.size _) hb1.size (Is.new _ _ _)).mono ?_; clear hrep; rintro e w9 ⟨p', l', c', rfl, hI, hP⟩; have s9 := hI.cell 1; have z9 := hI.frozen 1; simp at s9))
      go_end0
      exact ⟨⟨_, rfl⟩, hP⟩
    · rw [ht1] at hsub hft
      rw [hi0]
      rw [hi0] at hc2
      subst he2
      obtain ⟨x1, y1⟩ := hc1 w hb0
      have E1 := end_b a1 m1 w w hm1 hb0
      have hki : 0 < k + 1 := Nat.succ_pos k
      have hilz : ((k + 1 : Nat) : Int) < (len : Int) := by omega
      go_enter Try.func58, Try.ntmps58
      go_wp2_with (first
        | (go_at_call 70; with_reducible refine E1.mono ?_; clear E1; rintro e w1 ⟨rfl, hb1⟩; have s1 := hSc w1 hb1; obtain ⟨x2, y2⟩ := hc2 w1 hb1)
        | (go_at_call 70; with_reducible refine (E2 _ hm2 hb1).mono ?_; clear E2; rintro e w2 ⟨rfl, hb2⟩; have s2 := hSc w2 hb2)
        | (go_at_call 71; refine (hrep _ _ _ _ _ _ (by omega) (by omega) (by omega) (by omega) (hb2.alloc hb2.size _) hb2.size (Is.new _ _ _)).mono ?_; clear hrep; rintro e w9 ⟨p', l', c', rfl, hI, hP⟩; have s9 := hI.cell 1; have z9 := hI.frozen 1; simp at s9))
      go_end0
      exact ⟨⟨_, rfl⟩, hP⟩
end Go.Proofs.Ytnpjbddannkgfaa
