/- The statement NumberWhole returns true: a contract over the translated program. Conditions: none. -/
import Derived.Test.YtjbohbbnghlhgaaWalksE
import Derived.Test.YtjbohbbnghlhgaaWhole
namespace Go.Proofs.Ytjbohbbnghlhgaa
open Go.ChangeShapes Go.WideShapes Go.RowKit Go.Num
theorem rem_bd (a : Int) : -67108864 < wrap64 (a.tmod 67108864) ∧ wrap64 (a.tmod 67108864) < 67108864 := by
  have h := Int.natAbs_tmod a 67108864
  have h2 : a.natAbs % (67108864 : Int).natAbs < 67108864 := Nat.mod_lt _ (by decide)
  rw [IntWalk.wrap64_in _ (by omega)]
  omega
theorem mul_bd {x y : Int} (hx : -67108864 < x ∧ x < 67108864) (hy : -67108864 < y ∧ y < 67108864) : (x * y).natAbs < 4503599627370496 := by
  rw [Int.natAbs_mul]
  exact Nat.mul_lt_mul'' (show x.natAbs < 67108864 by omega) (show y.natAbs < 67108864 by omega)
theorem sum_same (x y : Int) (hx : -67108864 < x ∧ x < 67108864) (hy : -67108864 < y ∧ y < 67108864) : sameI (sumI (floatOfInt .f64 x : Nat) (floatOfInt .f64 y : Nat)) (floatOfInt .f64 (x + y) : Nat) = true := by
  obtain ⟨r, h1, h2⟩ := add_says rfl (float_says x (by omega)) (float_says y (by omega)) (by omega)
  unfold sameI sumI sumN
  rw [Int.toNat_natCast, Int.toNat_natCast, Int.toNat_natCast, Int.toNat_natCast, h1]
  show sameN (quietN r) _ = true
  rw [says_quiet h2]
  exact says_same h2 (float_says (x + y) (by omega))
theorem pro_same (x y : Int) (hx : -67108864 < x ∧ x < 67108864) (hy : -67108864 < y ∧ y < 67108864) : sameI (proI (floatOfInt .f64 x : Nat) (floatOfInt .f64 y : Nat)) (floatOfInt .f64 (x * y) : Nat) = true := by
  have hb := mul_bd hx hy
  obtain ⟨r, h1, h2⟩ := mul_says rfl (float_says x (by omega)) (float_says y (by omega)) (by omega)
  unfold sameI proI proN
  rw [Int.toNat_natCast, Int.toNat_natCast, Int.toNat_natCast, Int.toNat_natCast, h1]
  show sameN (quietN r) _ = true
  rw [says_quiet h2]
  exact says_same h2 (float_says (x * y) (by omega))
theorem same_true (a b : Int) (e : sameI a b = true) (w : World) : Calls Try.prog 17 #[.int .u64 a, .int .u64 b] w fun e w' => e = .returned (.bool true) ∧ w = w' := by rw [← e]; exact same_any a b w
theorem whole (a b : Int) (w : World) : Calls Try.prog 9 #[.int .i32 a, .int .i32 b] w (Grows (.bool true) w) := by
  have hX := rem_bd a
  have hY := rem_bd b
  go_enter Try.func9, Try.ntmps9
  go_wp2_with fail
  generalize wrap64 (a.tmod 67108864) = X at hX ⊢
  generalize wrap64 (b.tmod 67108864) = Y at hY ⊢
  have hm : wrap64 (X * Y) = X * Y := IntWalk.wrap64_in _ (by have := mul_bd hX hY; omega)
  have HS := Lib.hid (sum_same X Y hX hY)
  have HP := Lib.hid (pro_same X Y hX hY)
  obtain ⟨x1, x2⟩ := hX
  obtain ⟨y1, y2⟩ := hY
  refine (bits_any _ _).mono ?_; rintro e w' ⟨rfl, rfl⟩
  go_wp2_with fail
  refine (bits_any _ _).mono ?_; rintro e w' ⟨rfl, rfl⟩
  go_wp2_with fail
  refine (apply_2 _ _ _).mono ?_; rintro e w1 ⟨rfl, g1⟩
  go_wp2_with fail
  refine (bits_any _ _).mono ?_; rintro e w' ⟨rfl, rfl⟩
  go_wp2_with fail
  refine (bits_any _ _).mono ?_; rintro e w' ⟨rfl, rfl⟩
  go_wp2_with fail
  refine (apply_5 _ _ _).mono ?_; rintro e w2 ⟨rfl, g2⟩
  go_wp2_with fail
  refine (bits_any _ _).mono ?_; rintro e w' ⟨rfl, rfl⟩
  go_wp2_with fail
  refine (same_true _ _ HS.out _).mono ?_; rintro e w' ⟨rfl, rfl⟩
  go_wp2_with fail
  refine (bits_any _ _).mono ?_; rintro e w' ⟨rfl, rfl⟩
  go_wp2_with fail
  refine (same_true _ _ HP.out _).mono ?_; rintro e w' ⟨rfl, rfl⟩
  go_wp2_with fail
  refine (awake_any _).mono ?_; rintro e w' ⟨rfl, g⟩
  go_wp2_with fail
  go_ret
  exact ⟨rfl, grown_trans (grown_trans g1 g2) g⟩
end Go.Proofs.Ytjbohbbnghlhgaa
