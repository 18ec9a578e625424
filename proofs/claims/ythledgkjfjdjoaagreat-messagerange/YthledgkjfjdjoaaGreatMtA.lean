/- Whether a meta, or a change, may be. Conditions: marks of 64 bits. -/
import Derived.Test.YthledgkjfjdjoaaGreatMeta
import Derived.Test.YthledgkjfjdjoaaGreatCodG
import Derived.Test.YthledgkjfjdjoaaGreatNmB
import Derived.Deep.RegionHeld3
import Derived.Deep.Cut
namespace Go.Proofs.YthledgkjfjdjoaaGreat.Mt
open Go.ChangeShapes Go.WideShapes Go.RowKit Go.Codec Go.Num Go.Mt
set_option maxRecDepth 100000
theorem below_alloc {a b : World} (h : Below a.heap.size a b) (o : Obj) : Below a.heap.size a (b.alloc o) := h.alloc h.size _
theorem right_any (k sz mk st : Nat) (w : World) :
    Calls Tryz.prog 134 #[.agg #[.int .u8 k, .int .u32 sz, .int .u64 mk, .int .u64 st]] w fun e w' => e = .returned (.bool (okSz k sz)) ∧ Below w.heap.size w w' := by
  unfold okSz
  by_cases h1 : k = 1
  · subst h1
    go_enter Tryz.func134, Tryz.ntmps134
    go_wp2
    go_ret
    exact ⟨Nm.ret_bool (Bool.eq_iff_iff.2 (by simp; omega)), below_alloc (Below.refl _ _) _⟩
  · by_cases h2 : k = 2
    · subst h2
      go_enter Tryz.func134, Tryz.ntmps134
      go_wp2
      go_ret
      exact ⟨Nm.ret_bool (Bool.eq_iff_iff.2 (by simp)), below_alloc (Below.refl _ _) _⟩
    · have h1' : ((k : Int) == 1) = false := by simp; omega
      have h2' : ((k : Int) == 2) = false := by simp; omega
      rw [if_neg h1, if_neg h2]
      go_enter Tryz.func134, Tryz.ntmps134
      go_wp2
      go_ret
      exact ⟨rfl, below_alloc (Below.refl _ _) _⟩
theorem quiet_nat (x : Nat) (h : x < 18446744073709551616) (w : World) : Calls Tryz.prog 135 #[.int .u64 x] w fun e w' => e = .returned (.int .u64 (quietN x : Nat)) ∧ w = w' :=
  Nm.quiet_any (x : Int) ⟨by omega, by omega⟩ w
/-- One boxed value: what lies in it, and that nothing older has turned. -/
structure Box (w : World) (t : TypeId) (a : Array Value) (wx : World) : Prop where
  below : Below w.heap.size w wx
  one : Is wx w.heap.size t a
section
variable {w wx wy : World} {t : TypeId} {a : Array Value}
theorem Box.new (w : World) (t : TypeId) (a : Array Value) : Box w t a (w.alloc (.cells a t)) := ⟨below_alloc (Below.refl _ _) _, Is.new _ _ _⟩
theorem Box.later (h : Box w t a wx) (hb : Below wx.heap.size wx wy) : Box w t a wy :=
  ⟨h.below.trans (hb.mono h.below.size), h.one.kept (grow_below hb none) (by simp)⟩
theorem Box.drew (h : Box w t a wx) : Box w t a wx.drew := ⟨h.below.drew, h.one⟩
theorem Box.cells {a b c d : Value} (h : Box w t #[a, b, c, d] wx) : wx.cell? ⟨w.heap.size, 0, none⟩ = some a ∧ wx.cell? ⟨w.heap.size, 1, none⟩ = some b ∧ wx.cell? ⟨w.heap.size, 2, none⟩ = some c ∧ wx.cell? ⟨w.heap.size, 3, none⟩ = some d :=
  ⟨h.one.cell 0, h.one.cell 1, h.one.cell 2, h.one.cell 3⟩
end
set_option maxHeartbeats 4000000 in
theorem check_yes (k sz mk st Q : Nat) (w : World) 
    (R : Hid (∀ w, Calls Tryz.prog 134 #[.agg #[.int .u8 k, .int .u32 sz, .int .u64 mk, .int .u64 st]] w fun e w' => e = .returned (.bool true) ∧ Below w.heap.size w w'))
    (K : Hid (∀ w, Calls Tryz.prog 135 #[.int .u64 mk] w fun e w' => e = .returned (.int .u64 Q) ∧ w = w'))
    (b : Bool) (hq : ((Q : Int) != (mk : Int)) = b) :
    Calls Tryz.prog 120 #[.agg #[.int .u8 k, .int .u32 sz, .int .u64 mk, .int .u64 st]] w fun e w' => e = .returned (.int .i64 (if b then 4 else 0)) ∧ Below w.heap.size w w' := by
  have HX := Lib.hid (Box.new w 89 #[.int .u8 k, .int .u32 sz, .int .u64 mk, .int .u64 st])
  have HXd := Lib.hid HX.out.drew
  obtain ⟨a0, a1, a2, a3⟩ := HX.out.cells
  cases b
  all_goals
    go_enter Tryz.func120, Tryz.ntmps120
    go_upto_region 1 with fail
    go_region_held3 (fun wx => wx.cell? ⟨w.heap.size, 0, none⟩ = some (.int .u8 k) ∧ wx.cell? ⟨w.heap.size, 1, none⟩ = some (.int .u32 sz) ∧ wx.cell? ⟨w.heap.size, 2, none⟩ = some (.int .u64 mk) ∧ wx.cell? ⟨w.heap.size, 3, none⟩ = some (.int .u64 st)) (first | (with_reducible exact HX1.out.cells) | (with_reducible exact HXd.out.cells) | (with_reducible exact HX.out.cells))
     (first
      | (go_at_call 134; refine (R.out _).mono ?_; rintro e w1 ⟨rfl, hb⟩; have HX1 := Lib.hid (HXd.out.later hb); clear hb)
      | (go_at_call 135; refine (K.out _).mono ?_; rintro e w1 ⟨rfl, rfl⟩))
    go_wp2
    go_ret
    exact ⟨rfl, HX1.out.below⟩
set_option maxHeartbeats 4000000 in
theorem check_no (k sz mk st : Nat) (w : World) 
    (R : Hid (∀ wx, Box w 89 #[.int .u8 k, .int .u32 sz, .int .u64 mk, .int .u64 st] wx → Calls Tryz.prog 134 #[.agg #[.int .u8 k, .int .u32 sz, .int .u64 mk, .int .u64 st]] wx fun e w' => e = .returned (.bool false) ∧ Box w 89 #[.int .u8 k, .int .u32 sz, .int .u64 mk, .int .u64 st] w')) :
    Calls Tryz.prog 120 #[.agg #[.int .u8 k, .int .u32 sz, .int .u64 mk, .int .u64 st]] w fun e w' => e = .returned (.int .i64 4) ∧ Below w.heap.size w w' := by
  have HX := Lib.hid (Box.new w 89 #[.int .u8 k, .int .u32 sz, .int .u64 mk, .int .u64 st])
  have HXd := Lib.hid HX.out.drew
  obtain ⟨a0, a1, a2, a3⟩ := HX.out.cells
  go_enter Tryz.func120, Tryz.ntmps120
  go_upto_region 1 with fail
  have hpd := HXd.out
  refine wp_region_held_drew (S := (fun wx => wx.cell? ⟨w.heap.size, 0, none⟩ = some (.int .u8 k) ∧ wx.cell? ⟨w.heap.size, 1, none⟩ = some (.int .u32 sz) ∧ wx.cell? ⟨w.heap.size, 2, none⟩ = some (.int .u64 mk) ∧ wx.cell? ⟨w.heap.size, 3, none⟩ = some (.int .u64 st))) (by kernel_rfl) hpd.cells (fun hHeld => ?_)
  refine wpAnyH_take (i := 0) (oi := ⟨some 3, _, _, _, _, _⟩) (v := ?_) rfl (by kernel_rfl) (by kernel_rfl) (by kernel_rfl) (fun _ _ _ h => h) (Or.inl ⟨by rfl, ?_⟩) (by assumption) ?_
  rotate_left 1
  · intro wq hSw; (try dsimp only at hSw); (first | (go_simp; done) | (go_simp; with_reducible rfl))
  try simp only [Act.put, List.setIfInBounds_toArray, List.set_cons_zero, List.set_cons_succ]
  refine wpAnyH_ready (rs := [1]) (by kernel_rfl) (by simp) ?_
  refine AllReadyH.cons (o := ⟨some 4, _, _, _, _, _⟩) rfl (fun K hK => ?_) AllReadyH.nil
  go_simp
  with_reducible refine (R.out _ (by assumption)).mono ?_
  rintro e w1 ⟨rfl, hp⟩
  refine hK.out _ _ (Box.cells hp) (fun hHeld => ?_)
  clear hK K
  try simp only [Act.put, List.setIfInBounds_toArray, List.set_cons_zero, List.set_cons_succ]
  refine wpAnyH_take (i := 2) (oi := ⟨some 5, _, _, _, _, _⟩) (v := ?_) rfl (by kernel_rfl) (by kernel_rfl) (by kernel_rfl) (fun _ _ _ h => h) (Or.inl ⟨by rfl, ?_⟩) (by assumption) ?_
  rotate_left 1
  · intro wq hSw; (try dsimp only at hSw); (first | (go_simp; done) | (go_simp; with_reducible rfl))
  try simp only [Act.put, List.setIfInBounds_toArray, List.set_cons_zero, List.set_cons_succ]
  refine wpAnyH_take (i := 3) (oi := ⟨some 6, _, _, _, _, _⟩) (v := ?_) rfl (by kernel_rfl) (by kernel_rfl) (by kernel_rfl) (fun _ _ _ h => h) (Or.inl ⟨by rfl, ?_⟩) (by assumption) ?_
  rotate_left 1
  · intro wq hSw; (try dsimp only at hSw); (first | (go_simp; done) | (go_simp; with_reducible rfl))
  try simp only [Act.put, List.setIfInBounds_toArray, List.set_cons_zero, List.set_cons_succ]
  refine wpAnyH_take (i := 4) (oi := ⟨some 7, _, _, _, _, _⟩) (v := undef) rfl (by kernel_rfl) (by kernel_rfl) (by kernel_rfl) (fun _ _ _ h => h) (Or.inr ⟨by rfl, rfl⟩) (by assumption) ?_
  try simp only [Act.put, List.setIfInBounds_toArray, List.set_cons_zero, List.set_cons_succ]
  refine wpAnyH_take (i := 5) (oi := ⟨some 8, _, _, _, _, _⟩) (v := undef) rfl (by kernel_rfl) (by kernel_rfl) (by kernel_rfl) (fun _ _ _ h => h) (Or.inr ⟨by rfl, rfl⟩) (by assumption) ?_
  try simp only [Act.put, List.setIfInBounds_toArray, List.set_cons_zero, List.set_cons_succ]
  refine wpAnyH_take (i := 6) (oi := ⟨some 9, _, _, _, _, _⟩) (v := undef) rfl (by kernel_rfl) (by kernel_rfl) (by kernel_rfl) (fun _ _ _ h => h) (Or.inr ⟨by rfl, rfl⟩) (by assumption) ?_
  try simp only [Act.put, List.setIfInBounds_toArray, List.set_cons_zero, List.set_cons_succ]
  refine wpAnyH_take (i := 7) (oi := ⟨some 10, _, _, _, _, _⟩) (v := undef) rfl (by kernel_rfl) (by kernel_rfl) (by kernel_rfl) (fun _ _ _ h => h) (Or.inr ⟨by rfl, rfl⟩) (by assumption) ?_
  try simp only [Act.put, List.setIfInBounds_toArray, List.set_cons_zero, List.set_cons_succ]
  refine wpAnyH_take (i := 8) (oi := ⟨some 11, _, _, _, _, _⟩) (v := undef) rfl (by kernel_rfl) (by kernel_rfl) (by kernel_rfl) (fun _ _ _ h => h) (Or.inr ⟨by rfl, rfl⟩) (by assumption) ?_
  try simp only [Act.put, List.setIfInBounds_toArray, List.set_cons_zero, List.set_cons_succ]
  refine wpAnyH_take (i := 9) (oi := ⟨some 12, _, _, _, _, _⟩) (v := undef) rfl (by kernel_rfl) (by kernel_rfl) (by kernel_rfl) (fun _ _ _ h => h) (Or.inr ⟨by rfl, rfl⟩) (by assumption) ?_
  try simp only [Act.put, List.setIfInBounds_toArray, List.set_cons_zero, List.set_cons_succ]
  refine wpAnyH_take (i := 10) (oi := ⟨some 13, _, _, _, _, _⟩) (v := ?_) rfl (by kernel_rfl) (by kernel_rfl) (by kernel_rfl) (fun _ _ _ h => h) (Or.inl ⟨by rfl, ?_⟩) (by assumption) ?_
  rotate_left 1
  · intro wq hSw; (try dsimp only at hSw); (first | (go_simp; done) | (go_simp; with_reducible rfl))
  try simp only [Act.put, List.setIfInBounds_toArray, List.set_cons_zero, List.set_cons_succ]
  refine wpAnyH_done (by kernel_rfl) ?_ _
  go_wp2
  go_ret
  exact ⟨rfl, hp.below⟩
theorem check_any (k sz mk st : Nat) (hm : mk < 18446744073709551616) (w : World) :
    Calls Tryz.prog 120 #[.agg #[.int .u8 k, .int .u32 sz, .int .u64 mk, .int .u64 st]] w fun e w' => e = .returned (.int .i64 (ckM k sz mk : Nat)) ∧ Below w.heap.size w w' := by
  cases h : okSz k sz with
  | false =>
    have e : ckM k sz mk = 4 := by simp [ckM, mayM, h]
    rw [e]
    exact check_no k sz mk st w (Lib.hid fun wx hx => ((right_any k sz mk st wx).mono fun e w' ⟨he, hb⟩ => ⟨by rw [he, h], hx.later hb⟩))
  | true =>
    have H := check_yes k sz mk st (quietN mk) w (Lib.hid fun wx => ((right_any k sz mk st wx).mono fun e w' ⟨he, hb⟩ => ⟨by rw [he, h], hb⟩)) (Lib.hid fun wx => quiet_nat mk hm wx) (decide (quietN mk ≠ mk)) (by
      by_cases hq : quietN mk = mk
      · simp [hq]
      · rw [decide_eq_true hq]; simp; omega)
    refine H.mono fun e w' ⟨he, hb⟩ => ⟨?_, hb⟩
    rw [he]
    by_cases hq : quietN mk = mk
    · simp [ckM, mayM, h, hq]
    · simp [ckM, mayM, h, hq]
theorem rquiet_nat (x : Nat) (h : x < 18446744073709551616) (w : World) : Calls Tryz.prog 110 #[.int .u64 x] w fun e w' => e = .returned (.int .u64 (quietN x : Nat)) ∧ w = w' :=
  Nm.rquiet_any (x : Int) ⟨by omega, by omega⟩ w
set_option maxHeartbeats 4000000 in
theorem may_two (sz mk st Q : Nat) (w : World) (K : ∀ w, Calls Tryz.prog 110 #[.int .u64 mk] w fun e w' => e = .returned (.int .u64 Q) ∧ w' = w) :
    Calls Tryz.prog 88 #[.agg #[.int .u8 2, .int .u32 sz, .int .u64 mk, .int .u64 st]] w fun e w' => e = .returned (.bool (((sz : Int) == 0) && ((Q : Int) == (mk : Int)))) ∧ Below w.heap.size w w' := by
  have HK := Lib.hid K; clear K
  cases h0 : ((sz : Int) == 0)
  · go_enter Tryz.func88, Tryz.ntmps88
    go_wp2
    go_quiet ((exact Calls.quiet_of_same (HK.out _)))
    go_wp2
    go_ret
    exact ⟨rfl, below_drewN (below_alloc (Below.refl _ _) _) _⟩
  · go_enter Tryz.func88, Tryz.ntmps88
    go_wp2
    go_quiet ((exact Calls.quiet_of_same (HK.out _)))
    go_wp2
    go_ret
    exact ⟨rfl, below_drewN (below_alloc (Below.refl _ _) _) _⟩
set_option maxHeartbeats 4000000 in
theorem may_one (k sz mk st Q : Nat) (hk : ((k : Int) == 2) = false) (b1 : Bool) (h1 : ((k : Int) == 1) = b1) (b2 : Bool) (h2 : decide ((sz : Int) ≤ 2048) = b2) (w : World) (K : ∀ w, Calls Tryz.prog 110 #[.int .u64 mk] w fun e w' => e = .returned (.int .u64 Q) ∧ w' = w) :
    Calls Tryz.prog 88 #[.agg #[.int .u8 k, .int .u32 sz, .int .u64 mk, .int .u64 st]] w fun e w' => e = .returned (.bool (b1 && b2 && ((Q : Int) == (mk : Int)))) ∧ Below w.heap.size w w' := by
  have HK := Lib.hid K; clear K
  cases b1 <;> cases b2
  all_goals
    go_enter Tryz.func88, Tryz.ntmps88
    go_wp2
    go_quiet ((exact Calls.quiet_of_same (HK.out _)))
    go_wp2
    go_ret
    exact ⟨rfl, below_drewN (below_alloc (Below.refl _ _) _) _⟩
theorem may_any (k sz mk st : Nat) (hm : mk < 18446744073709551616) (w : World) :
    Calls Tryz.prog 88 #[.agg #[.int .u8 k, .int .u32 sz, .int .u64 mk, .int .u64 st]] w fun e w' => e = .returned (.bool (mayM k sz mk)) ∧ Below w.heap.size w w' := by
  have K : ∀ w, Calls Tryz.prog 110 #[.int .u64 mk] w fun e w' => e = .returned (.int .u64 (quietN mk : Nat)) ∧ w' = w := fun w => (rquiet_nat mk hm w).mono fun _ _ h => ⟨h.1, h.2.symm⟩
  have hq : (((quietN mk : Nat) : Int) == (mk : Int)) = decide (quietN mk = mk) := Bool.eq_iff_iff.2 (by simp; omega)
  by_cases h2 : k = 2
  · subst h2
    refine (may_two sz mk st _ w K).mono fun e w' ⟨he, hb⟩ => ⟨?_, hb⟩
    rw [he, hq]
    refine Nm.ret_bool ?_
    rw [mayM, okSz, if_neg (by decide), if_pos rfl]
    congr 1
    exact Bool.eq_iff_iff.2 (by simp)
  · have hk : ((k : Int) == 2) = false := by simp; omega
    refine (may_one k sz mk st _ hk _ rfl _ rfl w K).mono fun e w' ⟨he, hb⟩ => ⟨?_, hb⟩
    rw [he, hq]
    refine Nm.ret_bool ?_
    rw [mayM, okSz, if_neg h2]
    by_cases h1 : k = 1
    · subst h1
      simp
      congr 1
      exact Bool.eq_iff_iff.2 (by simp; omega)
    · have h1' : ((k : Int) == 1) = false := by simp; omega
      rw [h1', if_neg h1]
      rfl
end Go.Proofs.YthledgkjfjdjoaaGreat.Mt
