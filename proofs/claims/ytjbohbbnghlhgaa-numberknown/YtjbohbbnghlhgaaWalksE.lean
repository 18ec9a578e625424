/- The statement NumberKnown returns true: a contract over the translated program. Conditions: none. -/
import Derived.Test.YtjbohbbnghlhgaaWalksD
namespace Go.Proofs.Ytjbohbbnghlhgaa
open Go.ChangeShapes Go.WideShapes Go.RowKit Go.Num
theorem quiet_lit (x y : Int) (h : U64 x) (e : quietI x = y) (w : World) : Calls Try.prog 14 #[.int .u64 x] w fun e w' => e = .returned (.int .u64 y) ∧ w = w' := by subst e; exact quiet_any x h w
theorem order_lit (x y : Int) (h : U64 x) (e : ordI x = y) (w : World) : Calls Try.prog 10 #[.int .u64 x] w fun e w' => e = .returned (.int .u64 y) ∧ w = w' := by subst e; exact order_any x h w
theorem back_lit (x y : Int) (h : U64 x) (e : backI x = y) (w : World) : Calls Try.prog 12 #[.int .u64 x] w fun e w' => e = .returned (.int .u64 y) ∧ w = w' := by subst e; exact back_any x h w
theorem same_lit (a b : Int) (y : Bool) (e : sameI a b = y) (w : World) : Calls Try.prog 17 #[.int .u64 a, .int .u64 b] w fun e w' => e = .returned (.bool y) ∧ w = w' := by subst e; exact same_any a b w
set_option maxHeartbeats 1000000 in
theorem known (w : World) : Calls Try.prog 6 #[] w (Grows (.bool true) w) := by
  go_enter Try.func6, Try.ntmps6
  go_wp2_with fail
  refine (quiet_lit _ 9221120237041090561 (u64_lit (by kernel_rfl)) (by kernel_rfl) _).mono ?_; rintro e w' ⟨rfl, rfl⟩
  go_wp2_with fail
  refine (quiet_lit _ 9223372036854775808 (u64_lit (by kernel_rfl)) (by kernel_rfl) _).mono ?_; rintro e w' ⟨rfl, rfl⟩
  go_wp2_with fail
  refine (quiet_lit _ 9218868437227405312 (u64_lit (by kernel_rfl)) (by kernel_rfl) _).mono ?_; rintro e w' ⟨rfl, rfl⟩
  go_wp2_with fail
  refine (order_lit _ 9223372036854775807 (u64_lit (by kernel_rfl)) (by kernel_rfl) _).mono ?_; rintro e w' ⟨rfl, rfl⟩
  go_wp2_with fail
  refine (bits_lit _ 4609434218613702656 rfl _).mono ?_; rintro e w' ⟨rfl, rfl⟩
  go_wp2_with fail
  refine (order_lit _ 13832806255468478464 (u64_lit (by kernel_rfl)) (by kernel_rfl) _).mono ?_; rintro e w' ⟨rfl, rfl⟩
  go_wp2_with fail
  refine (back_lit _ 9223372036854775808 (u64_lit (by kernel_rfl)) (by kernel_rfl) _).mono ?_; rintro e w' ⟨rfl, rfl⟩
  go_wp2_with fail
  refine (bits_lit _ 4609434218613702656 rfl _).mono ?_; rintro e w' ⟨rfl, rfl⟩
  go_wp2_with fail
  refine (bits_lit _ 13835058055282163712 rfl _).mono ?_; rintro e w' ⟨rfl, rfl⟩
  go_wp2_with fail
  refine (bits_lit _ 13837309855095848960 rfl _).mono ?_; rintro e w' ⟨rfl, rfl⟩
  go_wp2_with fail
  refine (is_lit _ _ _ _ (u64_lit (by kernel_rfl)) (u64_lit (by kernel_rfl)) (by kernel_rfl) _).mono ?_; rintro e w1 ⟨rfl, g1⟩
  go_wp2_with fail
  refine (bits_lit _ 4609434218613702656 rfl _).mono ?_; rintro e w' ⟨rfl, rfl⟩
  go_wp2_with fail
  refine (bits_lit _ 13830554455654793216 rfl _).mono ?_; rintro e w' ⟨rfl, rfl⟩
  go_wp2_with fail
  refine (bits_lit _ 4609434218613702656 rfl _).mono ?_; rintro e w' ⟨rfl, rfl⟩
  go_wp2_with fail
  refine (is_lit _ _ _ _ (u64_lit (by kernel_rfl)) (u64_lit (by kernel_rfl)) (by kernel_rfl) _).mono ?_; rintro e w2 ⟨rfl, g2⟩
  go_wp2_with fail
  refine (bits_lit _ 4609434218613702656 rfl _).mono ?_; rintro e w' ⟨rfl, rfl⟩
  go_wp2_with fail
  refine (bits_lit _ 4609434218613702656 rfl _).mono ?_; rintro e w' ⟨rfl, rfl⟩
  go_wp2_with fail
  refine (is_lit _ _ _ _ (u64_lit (by kernel_rfl)) (u64_lit (by kernel_rfl)) (by kernel_rfl) _).mono ?_; rintro e w3 ⟨rfl, g3⟩
  go_wp2_with fail
  refine (bits_lit _ 4609434218613702656 rfl _).mono ?_; rintro e w' ⟨rfl, rfl⟩
  go_wp2_with fail
  refine (is_lit _ _ _ _ (u64_lit (by kernel_rfl)) (u64_lit (by kernel_rfl)) (by kernel_rfl) _).mono ?_; rintro e w4 ⟨rfl, g4⟩
  go_wp2_with fail
  refine (is_lit _ _ _ _ (u64_lit (by kernel_rfl)) (u64_lit (by kernel_rfl)) (by kernel_rfl) _).mono ?_; rintro e w5 ⟨rfl, g5⟩
  go_wp2_with fail
  refine (is_lit _ _ _ _ (u64_lit (by kernel_rfl)) (u64_lit (by kernel_rfl)) (by kernel_rfl) _).mono ?_; rintro e w6 ⟨rfl, g6⟩
  go_wp2_with fail
  refine (is_lit _ _ _ _ (u64_lit (by kernel_rfl)) (u64_lit (by kernel_rfl)) (by kernel_rfl) _).mono ?_; rintro e w7 ⟨rfl, g7⟩
  go_wp2_with fail
  refine (bits_lit _ 13830554455654793216 rfl _).mono ?_; rintro e w' ⟨rfl, rfl⟩
  go_wp2_with fail
  refine (is_lit _ _ _ _ (u64_lit (by kernel_rfl)) (u64_lit (by kernel_rfl)) (by kernel_rfl) _).mono ?_; rintro e w8 ⟨rfl, g8⟩
  go_wp2_with fail
  refine (is_lit _ _ _ _ (u64_lit (by kernel_rfl)) (u64_lit (by kernel_rfl)) (by kernel_rfl) _).mono ?_; rintro e w9 ⟨rfl, g9⟩
  go_wp2_with fail
  refine (is_lit _ _ _ _ (u64_lit (by kernel_rfl)) (u64_lit (by kernel_rfl)) (by kernel_rfl) _).mono ?_; rintro e w10 ⟨rfl, g10⟩
  go_wp2_with fail
  refine (is_lit _ _ _ _ (u64_lit (by kernel_rfl)) (u64_lit (by kernel_rfl)) (by kernel_rfl) _).mono ?_; rintro e w11 ⟨rfl, g11⟩
  go_wp2_with fail
  refine (apply_0 _ _ _ rfl rfl rfl rfl rfl _).mono ?_; rintro e w12 ⟨rfl, g12⟩
  go_wp2_with fail
  refine (apply_0 _ _ _ rfl rfl rfl rfl rfl _).mono ?_; rintro e w13 ⟨rfl, g13⟩
  go_wp2_with fail
  refine (same_lit _ _ false (by kernel_rfl) _).mono ?_; rintro e w' ⟨rfl, rfl⟩
  go_wp2_with fail
  refine (same_lit _ _ false (by kernel_rfl) _).mono ?_; rintro e w' ⟨rfl, rfl⟩
  go_wp2_with fail
  refine (awake_any _).mono ?_; rintro e w14 ⟨rfl, g14⟩
  go_wp2_with fail
  go_ret
  exact ⟨rfl, (grown_trans (grown_trans (grown_trans (grown_trans (grown_trans (grown_trans (grown_trans (grown_trans (grown_trans (grown_trans (grown_trans (grown_trans (grown_trans g1 g2) g3) g4) g5) g6) g7) g8) g9) g10) g11) g12) g13) g14)⟩
end Go.Proofs.Ytjbohbbnghlhgaa
