/- The statements NumberOrders, NumberSames, NumberSteps and NumberTurns return true: contracts over the translated program. Conditions: marks of 64 bits. -/
import Derived.Test.YtjbohbbnghlhgaaWalksB
namespace Go.Proofs.Ytjbohbbnghlhgaa
open Go.ChangeShapes Go.WideShapes Go.RowKit Go.Num
theorem u64_lit {x : Int} (h : decide (0 ≤ x ∧ x < 18446744073709551616) = true) : U64 x := by unfold U64; exact of_decide_eq_true h
theorem aw1 : Is 4609434218613702656 2 4612248968380809216 4615626668101337088 = true := by kernel_rfl
theorem aw2 : Is 9218868437227405312 2 18442240474082181120 9221120237041090561 = true := by kernel_rfl
theorem aw3 : ordI 0 = 9223372036854775808 := by kernel_rfl
theorem aw4 : sameI 0 9223372036854775808 = true := by kernel_rfl
theorem aw5 : backI 9223372036854775808 = 0 := by kernel_rfl
theorem bits_lit (x : Nat) (y : Int) (h : ((x : Nat) : Int) = y) (w : World) : Calls Try.prog 21 #[.float .f64 x] w fun e w' => e = .returned (.int .u64 y) ∧ w = w' := by subst h; exact bits_any x w
theorem is_lit (x op by_ want : Int) (hx : U64 x) (hby : U64 by_) (h : Is x op by_ want = true) (w : World) :
    Calls Try.prog 22 #[.int .u64 x, .int .u8 op, .int .u64 by_, .int .u64 want] w (Grows (.bool true) w) := by
  rw [← h]; exact is_any x op by_ want hx hby w
theorem awake_any (w : World) : Calls Try.prog 16 #[] w (Grows (.bool true) w) := by
  go_enter Try.func16, Try.ntmps16
  go_wp2_with fail
  refine (bits_lit _ 4609434218613702656 rfl _).mono ?_; rintro e w' ⟨rfl, rfl⟩
  go_wp2_with fail
  refine (bits_lit _ 4612248968380809216 rfl _).mono ?_; rintro e w' ⟨rfl, rfl⟩
  go_wp2_with fail
  refine (bits_lit _ 4615626668101337088 rfl _).mono ?_; rintro e w' ⟨rfl, rfl⟩
  go_wp2_with fail
  refine (is_lit _ _ _ _ (u64_lit (by kernel_rfl)) (u64_lit (by kernel_rfl)) aw1 _).mono ?_; rintro e w' ⟨rfl, g1⟩
  go_wp2_with fail
  refine (is_lit _ _ _ _ (u64_lit (by kernel_rfl)) (u64_lit (by kernel_rfl)) aw2 _).mono ?_; rintro e w' ⟨rfl, g2⟩
  go_wp2_with fail
  refine (order_any _ (u64_lit (by kernel_rfl)) _).mono ?_; rintro e w' ⟨rfl, rfl⟩
  rw [aw3]
  go_wp2_with fail
  refine (same_any _ _ _).mono ?_; rintro e w' ⟨rfl, rfl⟩
  rw [aw4]
  go_wp2_with fail
  refine (back_any _ (u64_lit (by kernel_rfl)) _).mono ?_; rintro e w' ⟨rfl, rfl⟩
  rw [aw5]
  go_wp2_with fail
  go_ret
  exact ⟨rfl, grown_trans g1 g2⟩
theorem shl1 {a : Int} (h : U64 a) : (IntKind.u64.wrap (a * 2) == 0) = decide (a.toNat % 9223372036854775808 = 0) := by
  have := h.1
  rw [IntKind.wrap_u64, Bool.eq_iff_iff]; simp; omega
theorem nat_eq {a b : Int} (ha : U64 a) (hb : U64 b) : (a == b) = (a.toNat == b.toNat) := by
  have := ha.1; have := hb.1
  rw [Bool.eq_iff_iff]; simp; omega
theorem rsame_any (a b : Int) (ha : U64 a) (hb : U64 b) (w : World) :
    Calls Try.prog 18 #[.int .u64 a, .int .u64 b] w fun e w' => e = .returned (.bool (sameI a b)) ∧ w = w' := by
  have hs := same_eq (nat_i ha) (nat_i hb)
  rw [← nat_eq ha hb, ← shl1 ha, ← shl1 hb] at hs
  have HS := Lib.hid hs; clear hs
  cases ea : nanI a
  · cases eb : nanI b
    · cases h1 : (a == b)
      · cases h2 : (IntKind.u64.wrap (a * 2) == 0) <;> cases h3 : (IntKind.u64.wrap (b * 2) == 0)
        all_goals
          go_enter Try.func18, Try.ntmps18
          go_wp2_with fail
          refine (rnan_any _ ha _).mono ?_; rintro e w' ⟨rfl, rfl⟩
          go_wp2_with fail
          refine (rnan_any _ hb _).mono ?_; rintro e w' ⟨rfl, rfl⟩
          go_wp2_with fail
          go_ret
          exact ⟨ret_bool (by unfold nanI at ea eb; rw [sameI, HS.out, ea, eb, h1, h2, h3]; rfl), rfl⟩
      · go_enter Try.func18, Try.ntmps18
        go_wp2_with fail
        refine (rnan_any _ ha _).mono ?_; rintro e w' ⟨rfl, rfl⟩
        go_wp2_with fail
        refine (rnan_any _ hb _).mono ?_; rintro e w' ⟨rfl, rfl⟩
        go_wp2_with fail
        go_ret
        exact ⟨ret_bool (by unfold nanI at ea eb; rw [sameI, HS.out, ea, eb, h1]; rfl), rfl⟩
    · go_enter Try.func18, Try.ntmps18
      go_wp2_with fail
      refine (rnan_any _ ha _).mono ?_; rintro e w' ⟨rfl, rfl⟩
      go_wp2_with fail
      refine (rnan_any _ hb _).mono ?_; rintro e w' ⟨rfl, rfl⟩
      go_wp2_with fail
      go_ret
      exact ⟨ret_bool (by unfold nanI at ea eb; rw [sameI, HS.out, ea, eb]; rfl), rfl⟩
  · go_enter Try.func18, Try.ntmps18
    go_wp2_with fail
    refine (rnan_any _ ha _).mono ?_; rintro e w' ⟨rfl, rfl⟩
    go_wp2_with fail
    go_ret
    exact ⟨ret_bool (by unfold nanI at ea; rw [sameI, HS.out, ea]; rfl), rfl⟩
theorem wf_u64 {x : Int} (h : (Lit.int .u64 x).wf = true) : U64 x := by
  simp [Lit.wf] at h; unfold U64; exact ⟨h.1, by have := h.2; simp [IntKind.max, IntKind.bits, IntKind.signed] at this; omega⟩
theorem sames (a b : Int) (ha : U64 a) (hb : U64 b) (w : World) : Calls Try.prog 4 #[.int .u64 a, .int .u64 b] w (Grows (.bool true) w) := by
  go_enter Try.func4, Try.ntmps4
  go_wp2_with fail
  refine (same_any _ _ _).mono ?_; rintro e w' ⟨rfl, rfl⟩
  go_wp2_with fail
  refine (rsame_any _ _ ha hb _).mono ?_; rintro e w' ⟨rfl, rfl⟩
  go_wp2_with fail
  refine (awake_any _).mono ?_; rintro e w' ⟨rfl, g⟩
  go_wp2_with fail
  go_ret
  exact ⟨rfl, g⟩
theorem orders (x : Int) (h : U64 x) (w : World) : Calls Try.prog 3 #[.int .u64 x] w (Grows (.bool true) w) := by
  go_enter Try.func3, Try.ntmps3
  go_wp2_with fail
  refine (order_any _ h _).mono ?_; rintro e w' ⟨rfl, rfl⟩
  go_wp2_with fail
  refine (rorder_any _ h _).mono ?_; rintro e w' ⟨rfl, rfl⟩
  go_wp2_with fail
  refine (back_any _ h _).mono ?_; rintro e w' ⟨rfl, rfl⟩
  go_wp2_with fail
  refine (rback_any _ h _).mono ?_; rintro e w' ⟨rfl, rfl⟩
  go_wp2_with fail
  refine (quiet_any _ h _).mono ?_; rintro e w' ⟨rfl, rfl⟩
  go_wp2_with fail
  refine (rquiet_any _ h _).mono ?_; rintro e w' ⟨rfl, rfl⟩
  go_wp2_with fail
  refine (awake_any _).mono ?_; rintro e w' ⟨rfl, g⟩
  go_wp2_with fail
  go_ret
  exact ⟨rfl, g⟩
theorem steps (x op by_ : Int) (hx : U64 x) (hby : U64 by_) (w : World) : Calls Try.prog 5 #[.int .u64 x, .agg #[.int .u8 op, .int .u64 by_]] w (Grows (.bool true) w) := by
  go_enter Try.func5, Try.ntmps5
  go_wp2_with fail
  refine (apply_any _ _ _ hx hby _).mono ?_; rintro e w' ⟨rfl, g1⟩
  have c0 : w'.cell? ⟨w.heap.size, 0, none⟩ = some (.int .u8 op) := by rw [g1.1.cell (by simp) (fun h => h)]; simp
  have c1 : w'.cell? ⟨w.heap.size, 1, none⟩ = some (.int .u64 by_) := by rw [g1.1.cell (by simp) (fun h => h)]; simp
  go_wp2_with fail
  refine (rapply_any _ _ _ hx hby _).mono ?_; rintro e w2 ⟨rfl, g2⟩
  go_wp2_with fail
  refine (awake_any _).mono ?_; rintro e w3 ⟨rfl, g3⟩
  go_wp2_with fail
  go_ret
  exact ⟨rfl, grown_trans (grown_trans (grown_trans ((Grown.refl _).alloc _ _) g1) g2) g3⟩
theorem stepI_u64 {x op b : Int} (hx : U64 x) (hb : U64 b) : U64 (stepI x op b) := by
  have s1 := sumN_lt x.toNat b.toNat
  have s2 := proN_lt x.toNat b.toNat
  have q1 := quietI_u64 hx
  have q2 := quietI_u64 hb
  unfold stepI
  split
  · exact q2
  split
  · unfold sumI U64; omega
  split
  · unfold grI; split <;> assumption
  split
  · unfold leI; split <;> assumption
  split
  · unfold proI U64; omega
  · unfold U64; omega
/-- A mark that is quiet says no NaN but the quiet one. -/
def Calm (x : Int) : Prop := nanN x.toNat = true → x = 9221120237041090561
theorem calm_quiet (x : Int) (h : U64 x) : Calm (quietI x) := by
  intro hn
  unfold quietI at hn ⊢
  rw [Int.toNat_natCast] at hn
  have := h.1
  by_cases h1 : nanN x.toNat = true
  · rw [quiet_of_nan h1]; rfl
  · unfold quietN at hn; rw [if_neg h1] at hn; exact absurd hn h1
theorem calm_out (o : Option Nat) : Calm (outN o : Nat) := by
  cases o with
  | none => intro _; rfl
  | some r =>
    intro hn
    have e : outN (some r) = quietN r := rfl
    rw [Int.toNat_natCast, e] at hn
    rw [e]
    by_cases h1 : nanN r = true
    · rw [quiet_of_nan h1]; rfl
    · unfold quietN at hn; rw [if_neg h1] at hn; exact absurd hn h1
theorem calm_step (x op b : Int) (hx : U64 x) (hb : U64 b) : Calm (stepI x op b) := by
  have q1 := calm_quiet x hx
  have q2 := calm_quiet b hb
  unfold stepI
  split
  · exact q2
  split
  · exact calm_out _
  split
  · unfold grI; split <;> assumption
  split
  · unfold leI; split <;> assumption
  split
  · exact calm_out _
  · intro h; exact absurd h (by decide)
theorem turn_step (x op b : Int) (hx : U64 x) (hb : U64 b) (h2 : 2 ≤ op) : stepI x op b = stepI b op x := by
  unfold stepI
  rw [if_neg (show ¬ op = 1 by omega), if_neg (show ¬ op = 1 by omega)]
  by_cases e2 : op = 2
  · rw [if_pos e2, if_pos e2]; unfold sumI sumN; rw [add_comm64]
  rw [if_neg e2, if_neg e2]
  by_cases e3 : op = 3
  · rw [if_pos e3, if_pos e3, gr_swap (quietI_u64 hx) (quietI_u64 hb)]; rfl
  rw [if_neg e3, if_neg e3]
  by_cases e4 : op = 4
  · rw [if_pos e4, if_pos e4, le_swap (quietI_u64 hx) (quietI_u64 hb)]; rfl
  rw [if_neg e4, if_neg e4]
  by_cases e5 : op = 5
  · rw [if_pos e5, if_pos e5]; unfold proI proN; rw [mul_comm64]
  rw [if_neg e5, if_neg e5]
theorem quietI_quiet {x : Int} (_h : U64 x) : quietI (quietI x) = quietI x := by
  unfold quietI; rw [Int.toNat_natCast, quiet_quiet]
theorem is3 {x : Int} (h : U64 x) : Is (quietI x) 3 (quietI x) (quietI x) = true := by
  have e : stepI (quietI x) 3 (quietI x) = quietI x := by
    unfold stepI
    rw [if_neg (by decide), if_neg (by decide), if_pos rfl, quietI_quiet h]
    unfold grI; split <;> rfl
  unfold Is; rw [e]; simp; rfl
theorem is4 {x : Int} (h : U64 x) : Is (quietI x) 4 (quietI x) (quietI x) = true := by
  have e : stepI (quietI x) 4 (quietI x) = quietI x := by
    unfold stepI
    rw [if_neg (by decide), if_neg (by decide), if_neg (by decide), if_pos rfl, quietI_quiet h]
    unfold leI; split <;> rfl
  unfold Is; rw [e]; simp; rfl
theorem same_self {x : Int} (h : U64 x) : (!sameI x x) = nanN x.toNat := by
  unfold sameI sameN
  rw [← order_self (nat_i h)]; rfl
theorem turns (a b op : Int) (ha : U64 a) (hb : U64 b) (w : World) : Calls Try.prog 8 #[.int .u64 a, .int .u64 b, .int .u8 op] w (Grows (.bool true) w) := by
  have I3 := Lib.hid (is3 ha); have I4 := Lib.hid (is4 ha); have QQ := Lib.hid (quietI_quiet ha)
  have SU := stepI_u64 (op := op) ha hb
  have hsame := same_self SU
  have hcalm := calm_step a op b ha hb
  have hturn := turn_step a op b ha hb
  have QA := quietI_u64 ha
  generalize hs : stepI a op b = s at hsame hcalm hturn SU
  generalize ht : stepI b op a = t at hturn
  have HS := Lib.hid hs; have HT := Lib.hid ht; clear hs ht
  have key : ∀ q1 : ((!sameI s s) = false ∨ ((!sameI s s) = true ∧ (s != 9221120237041090561) = false)), ∀ q2 : (¬ 2 ≤ op ∨ (2 ≤ op ∧ (s != t) = false)), Calls Try.prog 8 #[.int .u64 a, .int .u64 b, .int .u8 op] w (Grows (.bool true) w) := by
    clear hsame hcalm hturn
    intro q1 q2
    rcases q1 with q1 | ⟨q1, q1'⟩ <;> rcases q2 with q2 | ⟨q2, q2'⟩
    all_goals by_cases h5 : op ≤ 5
    all_goals try (exfalso; omega)
    all_goals
      go_enter Try.func8, Try.ntmps8
      go_wp2_with fail
      refine (apply_any _ _ _ ha hb _).mono ?_; rintro e w1 ⟨rfl, g1⟩
      rw [HS.out]
      go_wp2_with fail
      refine (apply_any _ _ _ hb ha _).mono ?_; rintro e w2 ⟨rfl, g2⟩
      rw [HT.out]
      go_wp2_with fail
      refine (isNaN_any _ _).mono ?_; rintro e w3 ⟨rfl, rfl⟩
      go_wp2_with fail
      refine (quiet_any _ ha _).mono ?_; rintro e w3 ⟨rfl, rfl⟩
      go_wp2_with fail
      refine (is_lit _ _ _ _ QA QA I3.out _).mono ?_; rintro e w4 ⟨rfl, g4⟩
      go_wp2_with fail
      refine (is_lit _ _ _ _ QA QA I4.out _).mono ?_; rintro e w5 ⟨rfl, g5⟩
      go_wp2_with fail
      refine (quiet_any _ QA _).mono ?_; rintro e w6 ⟨rfl, rfl⟩
      rw [QQ.out]
      go_wp2_with fail
      refine (awake_any _).mono ?_; rintro e w7 ⟨rfl, g7⟩
      go_wp2_with fail
      go_ret
      exact ⟨rfl, grown_trans (grown_trans (grown_trans (grown_trans g1 g2) g4) g5) g7⟩
  refine key ?_ ?_
  · cases hn : (!sameI s s)
    · exact .inl rfl
    · exact .inr ⟨rfl, by rw [hcalm (by rw [← hsame]; exact hn)]; rfl⟩
  · by_cases h2 : 2 ≤ op
    · exact .inr ⟨h2, by rw [hturn h2]; simp⟩
    · exact .inl h2
end Go.Proofs.Ytjbohbbnghlhgaa
