/- What stands behind a patch, of any text and any patch. Conditions: none. -/
import Derived.Test.YtadfccgoooafoaaBkP
namespace Go.Proofs.Ytadfccgoooafoaa
open Go.ChangeShapes Go.WideShapes Go.RowKit Go.Codec Go.Blk
set_option maxRecDepth 100000
set_option linter.unusedSimpArgs false
set_option linter.unusedVariables false
set_option maxHeartbeats 4000000 in
theorem splices_long (v t : ByteArray) (c : Bool) (a n : Int) (h : 3000 < v.size ∨ v.size ≤ 3000 ∧ 64 < t.size) (w : World) :
    Calls Try.prog 7 #[.string v, .agg #[.bool c, .int .i64 a, .int .i64 n, .string t]] w fun e w' => e = .returned (.bool true) ∧ Below w.heap.size w w' := by
  have HX := Lib.hid (Box.new w 30 #[.bool c, .int .i64 a, .int .i64 n, .string t])
  rcases h with h | ⟨h1, h2⟩
  all_goals
    go_enter Try.func7, Try.ntmps7
    go_wp2_with fail
    refine (works_any _).mono ?_; rintro e w1 ⟨rfl, hb⟩
    replace HX := Lib.hid (HX.out.later hb); clear hb
    go_wp2_with fail
    go_ret
    exact ⟨rfl, HX.out.below⟩
theorem splices_any (v : ByteArray) (c : Bool) (a n : Int) (t : ByteArray) (w : World) :
    Calls Try.prog 7 #[.string v, .agg #[.bool c, .int .i64 a, .int .i64 n, .string t]] w fun e w' => e = .returned (.bool true) ∧ Below w.heap.size w w' := by
  by_cases hv : 3000 < v.size
  · exact splices_long v t c a n (.inl hv) w
  by_cases ht : 64 < t.size
  · exact splices_long v t c a n (.inr ⟨by omega, ht⟩) w
  have hv1 : v.size ≤ 3000 := by omega
  have ht1 : t.size ≤ 64 := by omega
  have hd := first64 v
  obtain ⟨v', hv'⟩ : ∃ v', v.extract 0 (min (v.size : Int) 64).toNat = v' := ⟨_, rfl⟩
  rw [hv'] at hd
  have hvs : v'.size ≤ 64 := by rw [Lib.size_eq, hd]; simp; omega
  have hl : t.data.toList.length = t.size := (Lib.size_eq t).symm
  obtain ⟨L, hL⟩ : ∃ L, apl v.data.toList c a n t.data.toList = L := ⟨_, rfl⟩
  have hlen : L.length ≤ 64 := by rw [← hL]; exact apl_len _ _ _ _ _
  have hA : (bs L).size ≤ 64 := by rw [bs_size]; exact hlen
  have HC : ∀ {f : Nat} {args : Array Value} {R : Ending → Prop}, (∀ wx, Calls Try.prog f args wx fun e w' => R e ∧ Below wx.heap.size wx w') → ∀ wx, Box w 30 #[.bool c, .int .i64 a, .int .i64 n, .string t] wx → Calls Try.prog f args wx fun e w' => R e ∧ Box w 30 #[.bool c, .int .i64 a, .int .i64 n, .string t] w' :=
    fun h wx hx => hx.carry (wx := wx) (h wx)
  have H1 := HC fun wx => put_any c a n t (by omega) wx
  have H2 := HC fun wx => apply_any v c a n t (by omega) (by omega) wx
  have H3 := HC fun wx => trim_any (bs L) (by omega) wx
  have H4 := HC fun wx => apply_any (bs L) c a n t (by omega) (by omega) wx
  have HW := HC works_any
  have H5 : L ≠ [] → ∀ wx, Box w 30 #[.bool c, .int .i64 a, .int .i64 n, .string t] wx → Calls Try.prog 10 #[.string (bs L)] wx fun e w' => e = .returned (.int .i64 0) ∧ Box w 30 #[.bool c, .int .i64 a, .int .i64 n, .string t] w' := by
    intro hne wx hx
    have K := check_any (bs L) (by omega) wx
    rw [bs_list, show ckV L = 0 by rw [← hL]; exact apl_check _ _ _ _ _ (by rw [hL]; exact hne)] at K
    exact K.mono fun e w' ⟨he, hw⟩ => ⟨he, hw ▸ hx⟩
  have hAt := fun (x : ByteArray) (f k : Int) (hx : x.size ≤ 64) => HC fun wx => at_any x f k (by omega) wx
  rw [hL] at H2
  rw [bs_list, show trim L = L by rw [← hL]; exact apl_trim _ _ _ _ _] at H3
  rw [bs_list, show apl L c a n t.data.toList = L by rw [← hL]; exact apl_twice _ _ _ _ _] at H4
  have he : L = [] → (bs L).toList.isEmpty = true := fun h => by rw [empty_is, bs_list, h]; rfl
  have hf : L ≠ [] → (bs L).toList.isEmpty = false := not_empty
  cases hm : may c a n t.data.toList with
  | false =>
    rw [show ckP c a n t.data.toList = 4 by simp [ckP, hm]] at H1
    have H6 := HC fun wx => trim_any v' (by omega) wx
    rw [hd, ← apl_no (l := v.data.toList) hm, hL] at H6
    by_cases h0 : L = []
    · exact splices_Ne v v' t _ _ hv1 ht1 hv' hA w c a n (he h0) H1 H2 H3 H4 H6 HW
    · exact splices_Nf v v' t _ _ hv1 ht1 hv' hA w c a n (hf h0) H1 H2 H3 H4 (H5 h0) H6 HW
  | true =>
    rw [show ckP c a n t.data.toList = 0 by simp [ckP, hm]] at H1
    cases c with
    | true =>
      obtain ⟨h1, h2, h3, h4⟩ := may_cut.1 hm
      obtain ⟨k1, k2⟩ := apl_cut (l := v.data.toList) hm
      rw [hL] at k1 k2
      subst h3
      have H7 := hAt (bs L) 0 n hA
      have H8 := hAt v' 0 n hvs
      rw [bs_list, show (0 : Int).toNat = 0 from rfl, Nat.min_eq_left (by omega), k1] at H7
      rw [hd, show (0 : Int).toNat = 0 from rfl, Nat.min_eq_left (by omega)] at H8
      have hn : ((bs L).size : Int) ≤ n := by rw [bs_size]; omega
      by_cases h0 : L = []
      · exact splices_Ce v v' t _ _ hv1 ht1 hv' hA w n hn (he h0) H1 H2 H3 H4 _ H7 H8 HW
      · exact splices_Cf v v' t _ _ hv1 ht1 hv' hA w n hn (hf h0) H1 H2 H3 H4 (H5 h0) _ H7 H8 HW
    | false =>
      obtain ⟨h1, h2, h3, h4⟩ := may_splice.1 hm
      obtain ⟨k1, k2, k3⟩ := apl_splice (l := v.data.toList) hm
      rw [hL] at k1 k2 k3
      subst h4
      obtain ⟨k, rfl⟩ := Int.eq_ofNat_of_zero_le h2
      rw [Int.toNat_natCast] at k1 k2 k3
      rw [hl] at k1 k3
      have hw : IntKind.i64.wrap (64 - ((k + t.size : Nat) : Int)) = ((64 - (k + t.size) : Nat) : Int) := by rw [IntKind.wrap_i64]; omega
      have H7 := hAt (bs L) k t.size hA
      have H8 := hAt (bs L) 0 k hA
      have H9 := hAt v' 0 k hvs
      have H10 := hAt (bs L) (k + t.size : Nat) (IntKind.i64.wrap (64 - ((k + t.size : Nat) : Int))) hA
      have H11 := hAt v' (k + t.size : Nat) (IntKind.i64.wrap (64 - ((k + t.size : Nat) : Int))) hvs
      rw [bs_list, Int.toNat_natCast, Int.toNat_natCast, Nat.min_eq_left (by omega), k1, list_bs] at H7
      rw [bs_list, show (0 : Int).toNat = 0 from rfl, Int.toNat_natCast, Nat.min_eq_left (by omega), k2] at H8
      rw [hd, show (0 : Int).toNat = 0 from rfl, Int.toNat_natCast, Nat.min_eq_left (by omega)] at H9
      have ez : min (IntKind.i64.wrap (64 - ((k + t.size : Nat) : Int))).toNat 64 = 64 - (k + t.size) := by rw [hw, Int.toNat_natCast]; omega
      rw [ez, bs_list, Int.toNat_natCast, k3] at H10
      rw [ez, hd, Int.toNat_natCast] at H11
      by_cases h0 : L = []
      · exact splices_Se v v' t _ _ hv1 ht1 hv' hA w k (k + t.size) (by omega) (by omega) (he h0) H1 H2 H3 H4 _ _ H7 H8 H9 H10 H11 HW
      · exact splices_Sf v v' t _ _ hv1 ht1 hv' hA w k (k + t.size) (by omega) (by omega) (hf h0) H1 H2 H3 H4 (H5 h0) _ _ H7 H8 H9 H10 H11 HW
end Go.Proofs.Ytadfccgoooafoaa
