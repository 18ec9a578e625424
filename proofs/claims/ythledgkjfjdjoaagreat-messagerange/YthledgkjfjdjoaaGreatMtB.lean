/- Whether a change may be. Conditions: none. -/
import Derived.Test.YthledgkjfjdjoaaGreatMtA
import Derived.Laws.StructEq
namespace Go.Proofs.YthledgkjfjdjoaaGreat.Mt
open Go.ChangeShapes Go.WideShapes Go.RowKit Go.Codec Go.Num Go.Mt
set_option maxRecDepth 100000
theorem eqM (a b c d a' b' c' d' : Int) (w : World) : (binOp .eql 89 (.agg #[.int .u8 a, .int .u32 b, .int .u64 c, .int .u64 d]) (.agg #[.int .u8 a', .int .u32 b', .int .u64 c', .int .u64 d'])).run Tryz.prog w = .ok (.bool (a == a' && (b == b' && (c == c' && d == d')))) w := by
  cases h1 : (a == a') <;> cases h2 : (b == b') <;> cases h3 : (c == c') <;> cases h4 : (d == d') <;> go_simp
theorem neM (a b c d a' b' c' d' : Int) (w : World) : (binOp .neq 89 (.agg #[.int .u8 a, .int .u32 b, .int .u64 c, .int .u64 d]) (.agg #[.int .u8 a', .int .u32 b', .int .u64 c', .int .u64 d'])).run Tryz.prog w = .ok (.bool (!(a == a' && (b == b' && (c == c' && d == d'))))) w := by
  cases h1 : (a == a') <;> cases h2 : (b == b') <;> cases h3 : (c == c') <;> cases h4 : (d == d') <;> go_simp
theorem eqC (a b c d a' b' c' d' : Int) (w : World) : (binOp .eql 148 (.agg #[.int .u8 a, .int .u64 b, .int .u8 c, .int .u64 d]) (.agg #[.int .u8 a', .int .u64 b', .int .u8 c', .int .u64 d'])).run Tryz.prog w = .ok (.bool (a == a' && (b == b' && (c == c' && d == d')))) w := by
  cases h1 : (a == a') <;> cases h2 : (b == b') <;> cases h3 : (c == c') <;> cases h4 : (d == d') <;> go_simp
theorem neC (a b c d a' b' c' d' : Int) (w : World) : (binOp .neq 148 (.agg #[.int .u8 a, .int .u64 b, .int .u8 c, .int .u64 d]) (.agg #[.int .u8 a', .int .u64 b', .int .u8 c', .int .u64 d'])).run Tryz.prog w = .ok (.bool (!(a == a' && (b == b' && (c == c' && d == d'))))) w := by
  cases h1 : (a == a') <;> cases h2 : (b == b') <;> cases h3 : (c == c') <;> cases h4 : (d == d') <;> go_simp
theorem eqD (a b c d a' b' c' d' : Int) (w : World) : (binOp .eql 93 (.agg #[.int .u8 a, .int .u64 b, .int .u8 c, .int .u64 d]) (.agg #[.int .u8 a', .int .u64 b', .int .u8 c', .int .u64 d'])).run Tryz.prog w = .ok (.bool (a == a' && (b == b' && (c == c' && d == d')))) w := by
  cases h1 : (a == a') <;> cases h2 : (b == b') <;> cases h3 : (c == c') <;> cases h4 : (d == d') <;> go_simp
set_option maxHeartbeats 4000000 in
theorem mayC3 (n op b : Nat) (b1 : Bool) (h1 : ((n : Int) == 0) = b1) (b2 : Bool) (h2 : decide ((1 : Int) ≤ (op : Int)) = b2) (b3 : Bool) (h3 : decide ((op : Int) ≤ 5) = b3) (w : World) :
    Calls Tryz.prog 89 #[.agg #[.int .u8 3, .int .u64 n, .int .u8 op, .int .u64 b]] w fun e w' => e = .returned (.bool (b1 && b2 && b3)) ∧ Below w.heap.size w w' := by
  cases b1 <;> cases b2 <;> cases b3
  all_goals
    go_enter Tryz.func89, Tryz.ntmps89
    go_wp2
    go_ret
    exact ⟨rfl, below_alloc (Below.refl _ _) _⟩
set_option maxHeartbeats 4000000 in
theorem mayC4 (n op b : Nat) (b1 : Bool) (h1 : ((op : Int) == 0) = b1) (b2 : Bool) (h2 : ((b : Int) == 0) = b2) (w : World) :
    Calls Tryz.prog 89 #[.agg #[.int .u8 4, .int .u64 n, .int .u8 op, .int .u64 b]] w fun e w' => e = .returned (.bool (b1 && b2)) ∧ Below w.heap.size w w' := by
  cases b1 <;> cases b2
  all_goals
    go_enter Tryz.func89, Tryz.ntmps89
    go_wp2
    go_ret
    exact ⟨rfl, below_alloc (Below.refl _ _) _⟩
set_option maxHeartbeats 4000000 in
theorem mayC1 (wh n op b : Nat) (hw : wh = 1 ∨ wh = 2) (b1 : Bool) (h1 : decide ((n : Int) ≤ 2048) = b1) (b2 : Bool) (h2 : ((op : Int) == 0) = b2) (b3 : Bool) (h3 : ((b : Int) == 0) = b3) (w : World) :
    Calls Tryz.prog 89 #[.agg #[.int .u8 wh, .int .u64 n, .int .u8 op, .int .u64 b]] w fun e w' => e = .returned (.bool (b1 && b2 && b3)) ∧ Below w.heap.size w w' := by
  rcases hw with rfl | rfl
  all_goals
    cases b1 <;> cases b2 <;> cases b3
    all_goals
      go_enter Tryz.func89, Tryz.ntmps89
      go_wp2
      go_ret
      exact ⟨rfl, below_alloc (Below.refl _ _) _⟩
set_option maxHeartbeats 4000000 in
theorem mayC0 (wh n op b : Nat) (h1 : ((wh : Int) == 1) = false) (h2 : ((wh : Int) == 2) = false) (h3 : ((wh : Int) == 3) = false) (h4 : ((wh : Int) == 4) = false) (w : World) :
    Calls Tryz.prog 89 #[.agg #[.int .u8 wh, .int .u64 n, .int .u8 op, .int .u64 b]] w fun e w' => e = .returned (.bool false) ∧ Below w.heap.size w w' := by
  go_enter Tryz.func89, Tryz.ntmps89
  go_wp2
  go_ret
  exact ⟨rfl, below_alloc (Below.refl _ _) _⟩
theorem mayChange_any (wh n op b : Nat) (w : World) :
    Calls Tryz.prog 89 #[.agg #[.int .u8 wh, .int .u64 n, .int .u8 op, .int .u64 b]] w fun e w' => e = .returned (.bool (mayC wh n op b)) ∧ Below w.heap.size w w' := by
  unfold mayC
  by_cases h12 : wh = 1 ∨ wh = 2
  · refine (mayC1 wh n op b h12 _ rfl _ rfl _ rfl w).mono fun e w' ⟨he, hb⟩ => ⟨?_, hb⟩
    rw [he, if_pos h12]
    exact Nm.ret_bool (Bool.eq_iff_iff.2 (by simp; omega))
  · rw [if_neg h12]
    by_cases h3 : wh = 3
    · subst h3
      refine (mayC3 n op b _ rfl _ rfl _ rfl w).mono fun e w' ⟨he, hb⟩ => ⟨?_, hb⟩
      rw [he, if_pos rfl]
      exact Nm.ret_bool (Bool.eq_iff_iff.2 (by simp; omega))
    · rw [if_neg h3]
      by_cases h4 : wh = 4
      · subst h4
        refine (mayC4 n op b _ rfl _ rfl w).mono fun e w' ⟨he, hb⟩ => ⟨?_, hb⟩
        rw [he, if_pos rfl]
        exact Nm.ret_bool (Bool.eq_iff_iff.2 (by simp))
      · rw [if_neg h4]
        exact mayC0 wh n op b (by simp; omega) (by simp; omega) (by simp; omega) (by simp; omega) w
theorem same4 (a b c d c' d' : Int) : (a == a && (b == b && (c == c' && d == d'))) = (c == c' && d == d') := by simp
set_option maxHeartbeats 4000000 in
theorem mayBe1 (wh n op b : Nat) (hw : wh = 1 ∨ wh = 2) (b1 : Bool) (h1 : decide ((2048 : Int) < (n : Int)) = b1) (w : World) :
    Calls Tryz.prog 121 #[.agg #[.int .u8 wh, .int .u64 n, .int .u8 op, .int .u64 b]] w fun e w' => e = .returned (.bool (!b1 && (((op : Int) == 0) && ((b : Int) == 0)))) ∧ Below w.heap.size w w' := by
  have hE := eqC
  rcases hw with rfl | rfl
  all_goals
    cases b1
    all_goals
      go_enter Tryz.func121, Tryz.ntmps121
      go_wp2
      go_ret
      first
        | exact ⟨Nm.ret_bool (by simp), below_alloc (below_alloc (Below.refl _ _) _) _⟩
        | exact ⟨rfl, below_alloc (below_alloc (Below.refl _ _) _) _⟩
set_option maxHeartbeats 4000000 in
theorem mayBe4 (n op b : Nat) (w : World) :
    Calls Tryz.prog 121 #[.agg #[.int .u8 4, .int .u64 n, .int .u8 op, .int .u64 b]] w fun e w' => e = .returned (.bool (((op : Int) == 0) && ((b : Int) == 0))) ∧ Below w.heap.size w w' := by
  have hE := eqC
  go_enter Tryz.func121, Tryz.ntmps121
  go_wp2
  go_ret
  exact ⟨Nm.ret_bool (by simp), below_alloc (below_alloc (Below.refl _ _) _) _⟩
set_option maxHeartbeats 4000000 in
theorem mayBe3 (n op b : Nat) (b1 : Bool) (h1 : decide ((op : Int) < 1) = b1) (b2 : Bool) (h2 : decide ((5 : Int) < (op : Int)) = b2) (w : World) :
    Calls Tryz.prog 121 #[.agg #[.int .u8 3, .int .u64 n, .int .u8 op, .int .u64 b]] w fun e w' => e = .returned (.bool (!b1 && !b2 && ((n : Int) == 0))) ∧ Below w.heap.size w w' := by
  have hE := eqC
  cases b1 <;> cases b2
  all_goals
    go_enter Tryz.func121, Tryz.ntmps121
    go_wp2
    go_ret
    first
      | exact ⟨Nm.ret_bool (by simp), below_alloc (below_alloc (Below.refl _ _) _) _⟩
      | exact ⟨rfl, below_alloc (below_alloc (Below.refl _ _) _) _⟩
set_option maxHeartbeats 4000000 in
theorem mayBe0 (wh n op b : Nat) (h1 : ((wh : Int) == 1) = false) (h2 : ((wh : Int) == 2) = false) (h3 : ((wh : Int) == 3) = false) (h4 : ((wh : Int) == 4) = false) (w : World) :
    Calls Tryz.prog 121 #[.agg #[.int .u8 wh, .int .u64 n, .int .u8 op, .int .u64 b]] w fun e w' => e = .returned (.bool false) ∧ Below w.heap.size w w' := by
  go_enter Tryz.func121, Tryz.ntmps121
  go_wp2
  go_ret
  exact ⟨rfl, below_alloc (below_alloc (Below.refl _ _) _) _⟩
theorem mayBe_any (wh n op b : Nat) (w : World) :
    Calls Tryz.prog 121 #[.agg #[.int .u8 wh, .int .u64 n, .int .u8 op, .int .u64 b]] w fun e w' => e = .returned (.bool (mayC wh n op b)) ∧ Below w.heap.size w w' := by
  unfold mayC
  by_cases h12 : wh = 1 ∨ wh = 2
  · refine (mayBe1 wh n op b h12 _ rfl w).mono fun e w' ⟨he, hb⟩ => ⟨?_, hb⟩
    rw [he, if_pos h12]
    exact Nm.ret_bool (Bool.eq_iff_iff.2 (by simp; omega))
  · rw [if_neg h12]
    by_cases h3 : wh = 3
    · subst h3
      refine (mayBe3 n op b _ rfl _ rfl w).mono fun e w' ⟨he, hb⟩ => ⟨?_, hb⟩
      rw [he, if_pos rfl]
      exact Nm.ret_bool (Bool.eq_iff_iff.2 (by simp; omega))
    · rw [if_neg h3]
      by_cases h4 : wh = 4
      · subst h4
        refine (mayBe4 n op b w).mono fun e w' ⟨he, hb⟩ => ⟨?_, hb⟩
        rw [he, if_pos rfl]
        exact Nm.ret_bool (Bool.eq_iff_iff.2 (by simp))
      · rw [if_neg h4]
        exact mayBe0 wh n op b (by simp; omega) (by simp; omega) (by simp; omega) (by simp; omega) w
end Go.Proofs.YthledgkjfjdjoaaGreat.Mt
