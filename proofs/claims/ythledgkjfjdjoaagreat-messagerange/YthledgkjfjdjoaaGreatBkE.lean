/- Whether a patch may be, by the program and by the document. Conditions: lengths below 2^40. -/
import Derived.Test.YthledgkjfjdjoaaGreatBkD
namespace Go.Proofs.YthledgkjfjdjoaaGreat.Bk
open Go.ChangeShapes Go.WideShapes Go.RowKit Go.Codec Go.Blk
set_option maxRecDepth 100000
theorem empty_is (s : ByteArray) : s.toList.isEmpty = decide (s.data.toList = []) := by
  rw [Lib.toList_data]
  cases s.data.toList <;> simp
set_option maxHeartbeats 4000000 in
theorem mayBe_cut (a n : Int) (s : ByteArray) (b1 b2 b3 : Bool) (h1 : decide (0 ≤ n) = b1) (h2 : decide (n < 64) = b2) (h3 : (a == 0) = b3) (w : World) :
    Calls Tryz.prog 126 #[.agg #[.bool true, .int .i64 a, .int .i64 n, .string s]] w fun e w' => e = .returned (.bool (b1 && b2 && b3 && s.toList.isEmpty)) ∧ Below w.heap.size w w' := by
  cases b1 <;> cases b2 <;> cases b3
  all_goals
    go_enter Tryz.func126, Tryz.ntmps126
    go_wp2
    go_ret
    exact ⟨rfl, below_alloc (Below.refl _ _) _⟩
set_option maxHeartbeats 4000000 in
theorem mayBe_splice (a n : Int) (s : ByteArray) (hs : s.size ≤ 1099511627776) (b0 b1 b2 b3 : Bool) (h0 : (!s.toList.isEmpty) = b0) (h1 : decide (0 ≤ a) = b1) (h2 : decide (a ≤ 64 - (s.size : Int)) = b2) (h3 : (n == 0) = b3) (w : World) :
    Calls Tryz.prog 126 #[.agg #[.bool false, .int .i64 a, .int .i64 n, .string s]] w fun e w' => e = .returned (.bool (b0 && b1 && b2 && b3)) ∧ Below w.heap.size w w' := by
  cases b0 <;> cases b1 <;> cases b2 <;> cases b3
  all_goals
    go_enter Tryz.func126, Tryz.ntmps126
    go_wp2
    go_ret
    exact ⟨rfl, below_alloc (Below.refl _ _) _⟩
set_option maxHeartbeats 4000000 in
theorem rmay_cut (a n : Int) (s : ByteArray) (b1 b2 b3 : Bool) (h1 : decide (0 ≤ n) = b1) (h2 : decide (n < 64) = b2) (h3 : (a == 0) = b3) (w : World) :
    Calls Tryz.prog 84 #[.agg #[.bool true, .int .i64 a, .int .i64 n, .string s]] w fun e w' => e = .returned (.bool (b1 && b2 && b3 && ((s.size : Int) == 0))) ∧ Below w.heap.size w w' := by
  cases b1 <;> cases b2 <;> cases b3
  all_goals
    go_enter Tryz.func84, Tryz.ntmps84
    go_wp2
    go_ret
    exact ⟨rfl, below_alloc (Below.refl _ _) _⟩
set_option maxHeartbeats 4000000 in
theorem rmay_splice (a n : Int) (s : ByteArray) (hs : s.size ≤ 1099511627776) (b0 b4 b1 b2 b3 : Bool) (h0 : decide (1 ≤ (s.size : Int)) = b0) (h4 : decide ((s.size : Int) ≤ 64) = b4) (h1 : decide (0 ≤ a) = b1) (h2 : decide (a ≤ 64 - (s.size : Int)) = b2) (h3 : (n == 0) = b3) (w : World) :
    Calls Tryz.prog 84 #[.agg #[.bool false, .int .i64 a, .int .i64 n, .string s]] w fun e w' => e = .returned (.bool (b0 && b4 && b1 && b2 && b3)) ∧ Below w.heap.size w w' := by
  cases b0 <;> cases b4 <;> cases b1 <;> cases b2 <;> cases b3
  all_goals
    go_enter Tryz.func84, Tryz.ntmps84
    go_wp2
    go_ret
    exact ⟨rfl, below_alloc (Below.refl _ _) _⟩
theorem mayBe_any (c : Bool) (a n : Int) (s : ByteArray) (hs : s.size ≤ 1099511627776) (w : World) :
    Calls Tryz.prog 126 #[.agg #[.bool c, .int .i64 a, .int .i64 n, .string s]] w fun e w' => e = .returned (.bool (may c a n s.data.toList)) ∧ Below w.heap.size w w' := by
  have hl   : s.data.toList.length = s.size := (Lib.size_eq s).symm
  cases c with
  | true =>
    refine (mayBe_cut a n s _ _ _ rfl rfl rfl w).mono fun e w' ⟨he, hb⟩ => ⟨?_, hb⟩
    rw [he, empty_is]
    refine ret_bool (Bool.eq_iff_iff.2 ?_)
    rw [may_cut]
    simp [and_assoc]
  | false =>
    refine (mayBe_splice a n s hs _ _ _ _ rfl rfl rfl rfl w).mono fun e w' ⟨he, hb⟩ => ⟨?_, hb⟩
    rw [he, empty_is]
    refine ret_bool (Bool.eq_iff_iff.2 ?_)
    rw [may_splice, hl]
    simp [and_assoc]
    intros
    omega
theorem rmay_any (c : Bool) (a n : Int) (s : ByteArray) (hs : s.size ≤ 1099511627776) (w : World) :
    Calls Tryz.prog 84 #[.agg #[.bool c, .int .i64 a, .int .i64 n, .string s]] w fun e w' => e = .returned (.bool (may c a n s.data.toList)) ∧ Below w.heap.size w w' := by
  have hl   : s.data.toList.length = s.size := (Lib.size_eq s).symm
  have hn : s.data.toList = [] ↔ s.size = 0 := by rw [← hl]; exact List.length_eq_zero_iff.symm
  cases c with
  | true =>
    refine (rmay_cut a n s _ _ _ rfl rfl rfl w).mono fun e w' ⟨he, hb⟩ => ⟨?_, hb⟩
    rw [he]
    refine ret_bool (Bool.eq_iff_iff.2 ?_)
    rw [may_cut, hn]
    simp [and_assoc]
  | false =>
    refine (rmay_splice a n s hs _ _ _ _ _ rfl rfl rfl rfl rfl w).mono fun e w' ⟨he, hb⟩ => ⟨?_, hb⟩
    rw [he]
    refine ret_bool (Bool.eq_iff_iff.2 ?_)
    rw [may_splice, hl, ne_eq, hn]
    simp only [Bool.and_eq_true, decide_eq_true_eq, beq_iff_eq, and_assoc]
    constructor
    · rintro ⟨h1, h2, h3, h4, h5⟩; exact ⟨by omega, h3, by omega, h5⟩
    · rintro ⟨h1, h2, h3, h4⟩; exact ⟨by omega, by omega, h2, by omega, h4⟩
end Go.Proofs.YthledgkjfjdjoaaGreat.Bk
