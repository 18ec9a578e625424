/- A superblock may be: the program's and the document's. Conditions: none. -/
import Derived.Test.YtlidieffaaicaaaGreatSuP
import Derived.Test.YtlidieffaaicaaaGreatSealF
import Derived.Test.YtlidieffaaicaaaGreatSealC
import Derived.Deep.RegionHeld3
namespace Go.Proofs.YtlidieffaaicaaaGreat
open Go.ChangeShapes Go.WideShapes Go.RowKit Go.Codec Go.Super
set_option maxRecDepth 100000
theorem below_box (w : World) (o : Obj) : Below w.heap.size w (w.alloc o) := (Below.refl _ w).alloc (Nat.le_refl _) _
theorem lacks_c (g c : Nat) (r t n p : Int) (w : World) : Calls Tryz.prog 88 #[.agg #[.int .u64 g, .int .u64 c, .int .i64 r, .int .i64 t, .int .i64 n], .int .i64 p] w fun e w' => e = .returned (.bool (decide (p < 66 ∨ n ≤ p))) ∧ Below w.heap.size w w' := by
  have hb := below_box w (.cells #[.int .u64 g, .int .u64 c, .int .i64 r, .int .i64 t, .int .i64 n] 28)
  by_cases c1 : p < 66 <;> by_cases c2 : n ≤ p <;> simp only [c1, c2, true_or, or_true, or_self, decide_true, decide_false]
  all_goals
    go_enter Tryz.func88, Tryz.ntmps88
    go_wp2
    go_ret
    exact ⟨rfl, hb⟩
theorem index_c (g c : Nat) (r t n : Int) (H : Nat) (w : World) (h0 : w.cell? ⟨H, 0, none⟩ = some (.int .i64 r)) (h1 : w.cell? ⟨H, 1, none⟩ = some (.int .i64 t)) (z : Int) (z0 : (r < 66 ∨ n ≤ r) → z = 0) (z1 : ¬ (r < 66 ∨ n ≤ r) → (t < 66 ∨ n ≤ t) → z = 1) (z2 : ¬ (r < 66 ∨ n ≤ r) → ¬ (t < 66 ∨ n ≤ t) → z = -1) :
    Calls Tryz.prog 115 #[.slice (some ⟨H, 0, none⟩) 2 2, .func (.func 88) #[.agg #[.int .u64 g, .int .u64 c, .int .i64 r, .int .i64 t, .int .i64 n]] #[]] w fun e w' => e = .returned (.int .i64 z) ∧ Below w.heap.size w w' := by
  have Z0 := Lib.hid z0
  have Z1 := Lib.hid z1
  have Z2 := Lib.hid z2
  clear z0 z1 z2
  go_enter Tryz.func115, Tryz.ntmps115
  go_wp2
  go_loopw [8] (fun i wr => ∃ k : Nat, k ≤ 2 ∧ i = .int .i64 k ∧ (1 ≤ k → ¬ (r < 66 ∨ n ≤ r)) ∧ (2 ≤ k → ¬ (t < 66 ∨ n ≤ t)) ∧ Below w.heap.size w wr) (fun i _ => 2 - (intOf i).toNat)
  case atStart => exact ⟨0, by omega, rfl, by omega, by omega, Below.refl _ _⟩
  case round =>
    obtain ⟨k, hk, rfl, hn1, hn2, hb⟩ := hrel
    have d0 := (hb.cell (p := ⟨H, 0, none⟩) (World.block_lt_of_cell? w _ h0)).trans h0
    have d1 := (hb.cell (p := ⟨H, 1, none⟩) (World.block_lt_of_cell? w _ h1)).trans h1
    have HB := Lib.hid hb
    clear hb
    obtain rfl | rfl | rfl : k = 0 ∨ k = 1 ∨ k = 2 := by omega
    · have HL := Lib.hid (lacks_c g c r t n r)
      clear hn1 hn2
      by_cases hc : r < 66 ∨ n ≤ r
      · simp only [hc, decide_true] at HL
        have HC := Lib.hid hc
        clear hc
        go_wp2_with fail
        refine (HL.out _).mono ?_; rintro e w1 ⟨rfl, hb1⟩
        go_wp2
        go_ret
        exact ⟨by rw [Z0.out HC.out]; rfl, HB.out.trans (hb1.mono HB.out.size)⟩
      · simp only [hc, decide_false] at HL
        have HC := Lib.hid hc
        clear hc
        go_wp2_with fail
        refine (HL.out _).mono ?_; rintro e w1 ⟨rfl, hb1⟩
        go_wp2
        exact ⟨⟨1, by omega, rfl, fun _ => HC.out, by omega, HB.out.trans (hb1.mono HB.out.size)⟩, by simp [intOf]⟩
    · have HL := Lib.hid (lacks_c g c r t n t)
      have HR := Lib.hid (hn1 (by omega))
      clear hn1 hn2
      by_cases hc : t < 66 ∨ n ≤ t
      · simp only [hc, decide_true] at HL
        have HC := Lib.hid hc
        clear hc
        go_wp2_with fail
        refine (HL.out _).mono ?_; rintro e w1 ⟨rfl, hb1⟩
        go_wp2
        go_ret
        exact ⟨by rw [Z1.out HR.out HC.out]; rfl, HB.out.trans (hb1.mono HB.out.size)⟩
      · simp only [hc, decide_false] at HL
        have HC := Lib.hid hc
        clear hc
        go_wp2_with fail
        refine (HL.out _).mono ?_; rintro e w1 ⟨rfl, hb1⟩
        go_wp2
        exact ⟨⟨2, by omega, rfl, fun _ => HR.out, fun _ => HC.out, HB.out.trans (hb1.mono HB.out.size)⟩, by simp [intOf]⟩
    · have HR := Lib.hid (hn1 (by omega))
      have HC := Lib.hid (hn2 (by omega))
      clear hn1 hn2
      go_wp2
      go_ret
      exact ⟨by rw [Z2.out HR.out HC.out]; rfl, HB.out⟩
theorem contains_c (g c : Nat) (r t n : Int) (H : Nat) (w : World) (h0 : w.cell? ⟨H, 0, none⟩ = some (.int .i64 r)) (h1 : w.cell? ⟨H, 1, none⟩ = some (.int .i64 t)) (b : Bool) (hb : b = decide ((r < 66 ∨ n ≤ r) ∨ (t < 66 ∨ n ≤ t))) :
    Calls Tryz.prog 87 #[.slice (some ⟨H, 0, none⟩) 2 2, .func (.func 88) #[.agg #[.int .u64 g, .int .u64 c, .int .i64 r, .int .i64 t, .int .i64 n]] #[]] w fun e w' => e = .returned (.bool b) ∧ Below w.heap.size w w' := by
  obtain ⟨z, hz, hzb⟩ : ∃ z : Int, ((r < 66 ∨ n ≤ r) → z = 0) ∧ (¬ (r < 66 ∨ n ≤ r) → (t < 66 ∨ n ≤ t) → z = 1) ∧ (¬ (r < 66 ∨ n ≤ r) → ¬ (t < 66 ∨ n ≤ t) → z = -1) ∧ b = decide (z ≥ 0) := by
    by_cases c1 : r < 66 ∨ n ≤ r
    · exact ⟨0, fun _ => rfl, fun h => absurd c1 h, fun h => absurd c1 h, by rw [hb]; simp [c1]⟩
    · by_cases c2 : t < 66 ∨ n ≤ t
      · exact ⟨1, fun h => absurd h c1, fun _ _ => rfl, fun _ h => absurd c2 h, by rw [hb]; simp [c1, c2]⟩
      · exact ⟨-1, fun h => absurd h c1, fun _ h => absurd h c2, fun _ _ => rfl, by rw [hb]; simp [c1, c2]⟩
  have HI := Lib.hid (index_c g c r t n H w h0 h1 z hz hzb.1 hzb.2.1)
  have HZ := Lib.hid hzb.2.2
  clear hz hzb hb h0 h1
  go_enter Tryz.func87, Tryz.ntmps87
  go_wp2_with (go_at_call 115; refine HI.out.mono ?_; rintro e w1 ⟨rfl, hb1⟩)
  go_ret
  exact ⟨by rw [HZ.out]; rfl, hb1⟩
theorem may_c (g c : Nat) (r t n : Int) (w : World) : Calls Tryz.prog 54 #[.agg #[.int .u64 g, .int .u64 c, .int .i64 r, .int .i64 t, .int .i64 n]] w fun e w' => e = .returned (.bool (decide (S.Ok ⟨g, c, r, t, n⟩))) ∧ Below w.heap.size w w' := by
  obtain ⟨b, hb⟩ : ∃ b, b = decide (S.Ok ⟨g, c, r, t, n⟩) := ⟨_, rfl⟩
  rw [← hb]
  have hb0 := below_box w (.cells #[.int .u64 g, .int .u64 c, .int .i64 r, .int .i64 t, .int .i64 n] 28)
  by_cases c1 : 1 ≤ g ∧ 512 ≤ n ∧ n ≤ 4096
  · obtain ⟨c1, c2, c3⟩ := c1
    have hbb : b = !decide ((r < 66 ∨ n ≤ r) ∨ (t < 66 ∨ n ≤ t)) := by
      have e : S.Ok ⟨g, c, r, t, n⟩ ↔ ¬ ((r < 66 ∨ n ≤ r) ∨ (t < 66 ∨ n ≤ t)) := by
        unfold S.Ok
        simp only
        omega
      rw [hb, decide_eq_decide.2 e, decide_not]
    have hcon := fun (H : Nat) (w1 : World) (h0 : w1.cell? ⟨H, 0, none⟩ = some (.int .i64 r)) (h1 : w1.cell? ⟨H, 1, none⟩ = some (.int .i64 t)) => contains_c g c r t n H w1 h0 h1 _ rfl
    have HCC := Lib.hid hcon
    have HBB := Lib.hid hbb
    generalize decide ((r < 66 ∨ n ≤ r) ∨ (t < 66 ∨ n ≤ t)) = q at *
    clear hb hbb hcon
    have g1 : (0 : Int) < (g : Int) := by omega
    go_enter Tryz.func54, Tryz.ntmps54
    have i1 := Is.new (w.alloc (.cells #[.int .u64 g, .int .u64 c, .int .i64 r, .int .i64 t, .int .i64 n] 28)) 3 #[.int .i64 r, .int .i64 t]
    rw [World.size_alloc] at i1
    have d0 := (i1.cell 0).trans (show _ = some (Value.int .i64 r) from rfl)
    have d1 := (i1.cell 1).trans (show _ = some (Value.int .i64 t) from rfl)
    have hb2 := hb0.alloc hb0.size (.cells #[.int .i64 r, .int .i64 t] 3)
    have HCD := Lib.hid (HCC.out _ _ d0 d1)
    have HB2 := Lib.hid hb2
    clear HCC i1 d0 d1 hb0 hb2
    go_wp2_with (go_at_call 87; refine HCD.out.mono ?_; rintro e w1 ⟨rfl, hb1⟩)
    go_ret
    exact ⟨by rw [HBB.out]; rfl, HB2.out.trans (hb1.mono HB2.out.size)⟩
  · have e : b = false := by
      rw [hb]
      refine decide_eq_false fun h => c1 ⟨h.1, h.2.1, h.2.2.1⟩
    subst e
    clear hb
    by_cases g1 : 1 ≤ g
    · by_cases c2 : 512 ≤ n
      · have c3 : ¬ n ≤ 4096 := fun h => c1 ⟨g1, c2, h⟩
        have g2 : (0 : Int) < (g : Int) := by omega
        clear c1
        go_enter Tryz.func54, Tryz.ntmps54
        go_wp2
        go_ret
        exact ⟨rfl, hb0.alloc hb0.size _⟩
      · clear c1
        have g2 : (0 : Int) < (g : Int) := by omega
        go_enter Tryz.func54, Tryz.ntmps54
        go_wp2
        go_ret
        exact ⟨rfl, hb0.alloc hb0.size _⟩
    · obtain rfl : g = 0 := by omega
      clear c1
      go_enter Tryz.func54, Tryz.ntmps54
      go_wp2
      go_ret
      exact ⟨rfl, hb0.alloc hb0.size _⟩
set_option maxHeartbeats 2000000 in
/-- The document's. -/
theorem rmay_c (g c : Nat) (r t n : Int) (w : World) : Calls Tryz.prog 69 #[.agg #[.int .u64 g, .int .u64 c, .int .i64 r, .int .i64 t, .int .i64 n]] w fun e w' => e = .returned (.bool (decide (S.Ok ⟨g, c, r, t, n⟩))) ∧ Below w.heap.size w w' := by
  have hb := below_box w (.cells #[.int .u64 g, .int .u64 c, .int .i64 r, .int .i64 t, .int .i64 n] 45)
  obtain ⟨b, hbb⟩ : ∃ b, b = decide (S.Ok ⟨g, c, r, t, n⟩) := ⟨_, rfl⟩
  rw [← hbb]
  have H := Lib.hid hb
  by_cases c1 : 1 ≤ g
  · by_cases c2 : n < 512
    · have e : b = false := by rw [hbb]; exact decide_eq_false fun h => absurd h.2.1 (by simp only; omega)
      subst e
      clear hbb hb
      go_enter Tryz.func69, Tryz.ntmps69
      go_wp2
      go_ret
      exact ⟨rfl, H.out⟩
    · by_cases c3 : 4096 < n
      · have e : b = false := by rw [hbb]; exact decide_eq_false fun h => absurd h.2.2.1 (by simp only; omega)
        subst e
        clear hbb hb
        go_enter Tryz.func69, Tryz.ntmps69
        go_wp2
        go_ret
        exact ⟨rfl, H.out⟩
      · have e : b = decide (66 ≤ r ∧ r < n ∧ 66 ≤ t ∧ t < n) := by
          rw [hbb, decide_eq_decide]
          unfold S.Ok
          simp only
          omega
        clear hbb
        subst e
        clear hb
        have g1 : (1 : Int) ≤ (g : Int) := by omega
        by_cases d1 : 66 ≤ r
        · by_cases d2 : r < n
          · by_cases d3 : 66 ≤ t
            · by_cases d4 : t < n
              · rw [decide_eq_true ⟨d1, d2, d3, d4⟩]
                go_enter Tryz.func69, Tryz.ntmps69
                go_wp2
                go_ret
                exact ⟨rfl, H.out⟩
              · rw [decide_eq_false fun h => d4 h.2.2.2]
                go_enter Tryz.func69, Tryz.ntmps69
                go_wp2
                go_ret
                exact ⟨rfl, H.out⟩
            · rw [decide_eq_false fun h => d3 h.2.2.1]
              go_enter Tryz.func69, Tryz.ntmps69
              go_wp2
              go_ret
              exact ⟨rfl, H.out⟩
          · rw [decide_eq_false fun h => d2 h.2.1]
            go_enter Tryz.func69, Tryz.ntmps69
            go_wp2
            go_ret
            exact ⟨rfl, H.out⟩
        · rw [decide_eq_false fun h => d1 h.1]
          go_enter Tryz.func69, Tryz.ntmps69
          go_wp2
          go_ret
          exact ⟨rfl, H.out⟩
  · obtain rfl : g = 0 := by omega
    have e : b = false := by rw [hbb]; exact decide_eq_false fun h => absurd h.1 (by simp only; omega)
    subst e
    clear hbb hb c1
    go_enter Tryz.func69, Tryz.ntmps69
    go_wp2
    go_ret
    exact ⟨rfl, H.out⟩
theorem slot_c (g : Nat) (hg : g < 18446744073709551616) (w : World) : Calls Tryz.prog 28 #[.int .u64 g] w fun e w' => e = .returned (.int .i64 (g % 2 : Nat)) ∧ w = w' := by
  have h1 : (g : Int).tmod 2 = ((g % 2 : Nat) : Int) := by rw [Int.tmod_eq_emod_of_nonneg (by omega)]; omega
  have h2 : g % 2 < 2 := Nat.mod_lt _ (by decide)
  generalize g % 2 = m at *
  go_enter Tryz.func28, Tryz.ntmps28
  go_wp2
  go_ret
  exact ⟨by go_num, rfl⟩
theorem rslot_c (g : Nat) (hg : g < 18446744073709551616) (w : World) : Calls Tryz.prog 39 #[.int .u64 g] w fun e w' => e = .returned (.int .i64 (g % 2 : Nat)) ∧ w = w' := by
  have h1 : (g : Int).tmod 2 = ((g % 2 : Nat) : Int) := by rw [Int.tmod_eq_emod_of_nonneg (by omega)]; omega
  have h2 : g % 2 < 2 := Nat.mod_lt _ (by decide)
  obtain h3 | h3 : g % 2 = 0 ∨ g % 2 = 1 := by omega
  all_goals
    rw [h3] at h1 ⊢
    clear h2 h3
    go_enter Tryz.func39, Tryz.ntmps39
    go_wp2
    go_ret
    exact ⟨rfl, rfl⟩
end Go.Proofs.YtlidieffaaicaaaGreat
