/- The statement NumberSorts returns true: a contract over the translated program. Conditions: marks of 64 bits. -/
import Derived.Test.YtjbohbbnghlhgaaWalksC
namespace Go.Proofs.Ytjbohbbnghlhgaa
open Go.ChangeShapes Go.WideShapes Go.RowKit Go.Num
theorem backI_ord {a : Int} (h : U64 a) : backI (ordI a) = a := by
  unfold backI ordI; rw [Int.toNat_natCast, back_ord (nat_i h)]; have := h.1; omega
theorem ordI_back {a : Int} (h : U64 a) : ordI (backI a) = a := by
  unfold backI ordI; rw [Int.toNat_natCast, ord_back (nat_i h)]; have := h.1; omega
/-- How two floats of marks stand to each other, in the walk's form. -/
def Fo (a b : Int) : Option Ordering := FloatKind.f64.format.order a.toNat b.toNat
theorem sorts_nan (a b : Int) (ha : U64 a) (hb : U64 b) (hA : (FloatKind.f64.format.order a.toNat a.toNat != some Ordering.eq) = true) (hB : (FloatKind.f64.format.order b.toNat b.toNat != some Ordering.eq) = true)
    (h : ((ordI a == ordI b) = true ∧ (a == b) = true) ∨ ((ordI a == ordI b) = false ∧ (a == b) = false)) (w : World) : Calls Try.prog 7 #[.int .u64 a, .int .u64 b] w (Grows (.bool true) w) := by
  have B1 := Lib.hid (backI_ord ha); have B2 := Lib.hid (ordI_back ha)
  have hf := from_run
  rcases h with ⟨h1, h2⟩ | ⟨h1, h2⟩
  all_goals
    go_enter Try.func7, Try.ntmps7
    go_wp2_with fail
    refine (order_any _ ha _).mono ?_; rintro e w1 ⟨rfl, rfl⟩
    go_wp2_with fail
    refine (back_any _ (ordI_u64 ha) _).mono ?_; rintro e w1 ⟨rfl, rfl⟩
    rw [B1.out]
    go_wp2_with fail
    refine (back_any _ ha _).mono ?_; rintro e w1 ⟨rfl, rfl⟩
    go_wp2_with fail
    refine (order_any _ (backI_u64 ha) _).mono ?_; rintro e w1 ⟨rfl, rfl⟩
    rw [B2.out]
    go_wp2_with fail
    refine (order_any _ ha _).mono ?_; rintro e w1 ⟨rfl, rfl⟩
    go_wp2_with fail
    refine (order_any _ hb _).mono ?_; rintro e w1 ⟨rfl, rfl⟩
    go_wp2_with fail
    refine (order_any _ ha _).mono ?_; rintro e w1 ⟨rfl, rfl⟩
    go_wp2_with fail
    refine (order_any _ hb _).mono ?_; rintro e w1 ⟨rfl, rfl⟩
    go_wp2_with fail
    refine (awake_any _).mono ?_; rintro e w1 ⟨rfl, g⟩
    go_wp2_with fail
    go_ret
    exact ⟨rfl, g⟩
def Sorted (a b : Int) : Prop :=
  ((FloatKind.f64.format.order a.toNat a.toNat != some Ordering.eq) = true ∧ (FloatKind.f64.format.order b.toNat b.toNat != some Ordering.eq) = false ∧ ((decide (ordI a < ordI b) = true ∧ (a / 9223372036854775808 == 1) = true) ∨ (decide (ordI a < ordI b) = false ∧ (a / 9223372036854775808 == 1) = false)))
  ∨ ((FloatKind.f64.format.order a.toNat a.toNat != some Ordering.eq) = false ∧ (FloatKind.f64.format.order b.toNat b.toNat != some Ordering.eq) = true ∧ ((decide (ordI a < ordI b) = true ∧ (b / 9223372036854775808 == 0) = true) ∨ (decide (ordI a < ordI b) = false ∧ (b / 9223372036854775808 == 0) = false)))
  ∨ ((FloatKind.f64.format.order a.toNat a.toNat != some Ordering.eq) = false ∧ (FloatKind.f64.format.order b.toNat b.toNat != some Ordering.eq) = false ∧ (FloatKind.f64.format.order a.toNat b.toNat == some Ordering.eq) = true ∧ ((decide (ordI a < ordI b) = true ∧ (a / 9223372036854775808 == 1) = true ∧ (b / 9223372036854775808 == 0) = true) ∨ (decide (ordI a < ordI b) = false ∧ (a / 9223372036854775808 == 1) = true ∧ (b / 9223372036854775808 == 0) = false) ∨ (decide (ordI a < ordI b) = false ∧ (a / 9223372036854775808 == 1) = false ∧ True)))
  ∨ ((FloatKind.f64.format.order a.toNat a.toNat != some Ordering.eq) = false ∧ (FloatKind.f64.format.order b.toNat b.toNat != some Ordering.eq) = false ∧ (FloatKind.f64.format.order a.toNat b.toNat == some Ordering.eq) = false ∧ ((decide (ordI a < ordI b) = true ∧ (FloatKind.f64.format.order a.toNat b.toNat == some Ordering.lt) = true) ∨ (decide (ordI a < ordI b) = false ∧ (FloatKind.f64.format.order a.toNat b.toNat == some Ordering.lt) = false)))
theorem sorts_else (a b : Int) (ha : U64 a) (hb : U64 b) (h : Sorted a b) (w : World) : Calls Try.prog 7 #[.int .u64 a, .int .u64 b] w (Grows (.bool true) w) := by
  have B1 := Lib.hid (backI_ord ha); have B2 := Lib.hid (ordI_back ha)
  have hf := from_run
  rcases h with ⟨h1, h2, ⟨h3, h4⟩ | ⟨h3, h4⟩⟩ | ⟨h1, h2, ⟨h3, h4⟩ | ⟨h3, h4⟩⟩ | ⟨h1, h2, h0, ⟨h3, h4, h5⟩ | ⟨h3, h4, h5⟩ | ⟨h3, h4, h5⟩⟩ | ⟨h1, h2, h0, ⟨h3, h4⟩ | ⟨h3, h4⟩⟩
  all_goals
    go_enter Try.func7, Try.ntmps7
    go_wp2_with fail
    refine (order_any _ ha _).mono ?_; rintro e w1 ⟨rfl, rfl⟩
    go_wp2_with fail
    refine (back_any _ (ordI_u64 ha) _).mono ?_; rintro e w1 ⟨rfl, rfl⟩
    rw [B1.out]
    go_wp2_with fail
    refine (back_any _ ha _).mono ?_; rintro e w1 ⟨rfl, rfl⟩
    go_wp2_with fail
    refine (order_any _ (backI_u64 ha) _).mono ?_; rintro e w1 ⟨rfl, rfl⟩
    rw [B2.out]
    go_wp2_with fail
    refine (order_any _ ha _).mono ?_; rintro e w1 ⟨rfl, rfl⟩
    go_wp2_with fail
    refine (order_any _ hb _).mono ?_; rintro e w1 ⟨rfl, rfl⟩
    go_wp2_with fail
    refine (awake_any _).mono ?_; rintro e w1 ⟨rfl, g⟩
    go_wp2_with fail
    go_ret
    exact ⟨rfl, g⟩
theorem top_set {a : Int} (h : U64 a) : (a / 9223372036854775808 == 1) = decide (9223372036854775808 ≤ a.toNat) := by
  have := h.1; have := h.2
  rw [Bool.eq_iff_iff]; simp; omega
theorem top_not {a : Int} (h : U64 a) : (a / 9223372036854775808 == 0) = decide (a.toNat < 9223372036854775808) := by
  have := h.1; have := h.2
  rw [Bool.eq_iff_iff]; simp; omega
theorem ordI_lt (a b : Int) : ordI a < ordI b ↔ ordN a.toNat < ordN b.toNat := by unfold ordI; omega
theorem lessI (a b : Int) : decide (ordI a < ordI b) = decide (ordN a.toNat < ordN b.toNat) := by rw [decide_eq_decide]; exact ordI_lt a b
theorem sorts (a b : Int) (ha : U64 a) (hb : U64 b) (w : World) : Calls Try.prog 7 #[.int .u64 a, .int .u64 b] w (Grows (.bool true) w) := by
  have oa : (FloatKind.f64.format.order a.toNat a.toNat != some Ordering.eq) = nanN a.toNat := order_self (nat_i ha)
  have ob : (FloatKind.f64.format.order b.toNat b.toNat != some Ordering.eq) = nanN b.toNat := order_self (nat_i hb)
  have la := nat_i ha; have lb := nat_i hb
  cases na : nanN a.toNat <;> cases nb : nanN b.toNat <;> rw [na] at oa <;> rw [nb] at ob
  · have hv : FloatKind.f64.format.order a.toNat b.toNat = _ := order_val la lb (nan_not na) (nan_not nb)
    by_cases he : sval a.toNat = sval b.toNat
    · refine sorts_else a b ha hb (.inr (.inr (.inl ⟨oa, ob, by rw [hv, he]; simp, ?_⟩))) w
      have hz := (sval_eq la lb).1 he
      rw [top_set ha, top_not hb, lessI]
      unfold ordN
      by_cases h1 : 9223372036854775808 ≤ a.toNat <;> by_cases h2 : 9223372036854775808 ≤ b.toNat
      · refine .inr (.inl ⟨decide_eq_false ?_, by simpa using h1, by simp; omega⟩); rw [if_pos h1, if_pos h2]; omega
      · refine .inl ⟨decide_eq_true ?_, by simpa using h1, by simp; omega⟩; rw [if_pos h1, if_neg h2]; omega
      · refine .inr (.inr ⟨decide_eq_false ?_, by simp; omega, trivial⟩); rw [if_neg h1, if_pos h2]; omega
      · refine .inr (.inr ⟨decide_eq_false ?_, by simp; omega, trivial⟩); rw [if_neg h1, if_neg h2]; omega
    · refine sorts_else a b ha hb (.inr (.inr (.inr ⟨oa, ob, by rw [hv]; simp [he], ?_⟩))) w
      have hl := sval_lt la lb he
      rw [lessI, hv]
      by_cases h1 : sval a.toNat < sval b.toNat
      · exact .inl ⟨decide_eq_true (hl.1 h1), by simp [Int.compare_eq_lt.2 h1]⟩
      · exact .inr ⟨decide_eq_false (mt hl.2 h1), by rw [Int.compare_eq_gt.2 (by omega)]; rfl⟩
  · refine sorts_else a b ha hb (.inr (.inl ⟨oa, ob, ?_⟩)) w
    have n1 := nan_not na; have n2 := nan_is nb
    rw [top_not hb, lessI]
    by_cases h2 : b.toNat < 9223372036854775808
    · refine .inl ⟨decide_eq_true ?_, by simpa using h2⟩; unfold ordN; split <;> split <;> omega
    · refine .inr ⟨decide_eq_false ?_, by simp; omega⟩; unfold ordN; split <;> split <;> omega
  · refine sorts_else a b ha hb (.inl ⟨oa, ob, ?_⟩) w
    have n1 := nan_is na; have n2 := nan_not nb
    rw [top_set ha, lessI]
    by_cases h2 : 9223372036854775808 ≤ a.toNat
    · refine .inl ⟨decide_eq_true ?_, by simpa using h2⟩; unfold ordN; split <;> split <;> omega
    · refine .inr ⟨decide_eq_false ?_, by simp; omega⟩; unfold ordN; split <;> split <;> omega
  · refine sorts_nan a b ha hb oa ob ?_ w
    by_cases e : a = b
    · subst e; exact .inl ⟨by simp, by simp⟩
    · exact .inr ⟨by simpa using fun h => e (ord_inj ha hb h), by simpa using e⟩
end Go.Proofs.Ytjbohbbnghlhgaa
