/- What each function of package number gives (closures and steps), and of the document's answer for it: contracts over the translated program. Conditions: marks of 64 bits. -/
import Derived.Test.YthledgkjfjdjoaaGreatNmA
namespace Go.Proofs.YthledgkjfjdjoaaGreat.Nm
open Go.ChangeShapes Go.WideShapes Go.RowKit Go.Num
set_option maxRecDepth 100000
set_option maxHeartbeats 1000000
theorem quietly {f : FuncId} {args : Array Value} {w : World} {v : Value} (h : Calls Tryz.prog f args w fun e w' => e = .returned v ∧ w = w') : Calls Tryz.prog f args w fun e w' => e = .returned v ∧ w' = w := h.mono fun _ _ ⟨a, b⟩ => ⟨a, b.symm⟩
theorem d1_any (x by_ : Int) (b : Nat) (hby : U64 by_) (w : World) (hc : w.cell? ⟨b, 1, none⟩ = some (.int .u64 by_)) :
    Calls Tryz.prog 144 #[.int .u64 x, .pointer (some ⟨b, 0, none⟩)] w (Draws (.int .u64 (quietI by_)) w) := by
  go_enter Tryz.func144, Tryz.ntmps144
  go_wp2_with fail
  refine (quiet_any _ hby _).mono ?_; rintro e w' ⟨rfl, rfl⟩
  go_wp2_with fail
  go_ret
  exact ⟨rfl, 0, rfl⟩
theorem d3_any (x by_ : Int) (b : Nat) (hx : U64 x) (hby : U64 by_) (w : World) (hc : w.cell? ⟨b, 1, none⟩ = some (.int .u64 by_)) :
    Calls Tryz.prog 147 #[.int .u64 x, .pointer (some ⟨b, 0, none⟩)] w (Draws (.int .u64 (grI (quietI x) (quietI by_))) w) := by
  go_enter Tryz.func147, Tryz.ntmps147
  go_wp2_with fail
  go_quiet (first | (go_at_call 135; exact Calls.quiet_of_same (quietly (quiet_any _ (by assumption) _))) | (go_at_call 148; exact Calls.quiet_of_same (quietly (greater_any _ _ (quietI_u64 hx) (quietI_u64 hby) _))))
  go_wp2_with fail
  go_ret
  exact ⟨rfl, _, rfl⟩
theorem d4_any (x by_ : Int) (b : Nat) (hx : U64 x) (hby : U64 by_) (w : World) (hc : w.cell? ⟨b, 1, none⟩ = some (.int .u64 by_)) :
    Calls Tryz.prog 149 #[.int .u64 x, .pointer (some ⟨b, 0, none⟩)] w (Draws (.int .u64 (leI (quietI x) (quietI by_))) w) := by
  go_enter Tryz.func149, Tryz.ntmps149
  go_wp2_with fail
  go_quiet (first | (go_at_call 135; exact Calls.quiet_of_same (quietly (quiet_any _ (by assumption) _))) | (go_at_call 150; exact Calls.quiet_of_same (quietly (lesser_any _ _ (quietI_u64 hx) (quietI_u64 hby) _))))
  go_wp2_with fail
  go_ret
  exact ⟨rfl, _, rfl⟩
theorem func_nil (fn : Fn) (fi ca : Array Value) (w : World) : (binOp .eql 158 (.func fn fi ca) .nilFunc).run Tryz.prog w = .ok (.bool false) w := by kernel_rfl
theorem nil_nil (w : World) : (binOp .eql 158 .nilFunc .nilFunc).run Tryz.prog w = .ok (.bool true) w := by kernel_rfl
theorem make_func (fn : Fn) (first cap : Array Value) (w : World) : (Instr.makeFunc fn first cap).run Tryz.prog w = .ok (.func fn first cap) w := rfl
theorem onFloats_any (by_ : Int) (f : Nat) (w : World) :
    Calls Tryz.prog 145 #[.int .u64 by_, .func (.func f) #[] #[]] w fun e w' => e = .returned (.func (.func 152) #[] #[.pointer (some ⟨w.heap.size + 1, 0, none⟩), .pointer (some ⟨w.heap.size, 0, none⟩)]) ∧ (w.alloc (.cells #[.int .u64 by_] 87)).alloc (.cells #[.func (.func f) #[] #[]] 187) = w' := by
  have hmf := make_func
  go_enter Tryz.func145, Tryz.ntmps145
  go_wp2_with fail
  go_ret
  exact ⟨rfl, rfl⟩
theorem doing_1 (by_ : Int) (w : World) :
    Calls Tryz.prog 138 #[.agg #[.int .u8 1, .int .u64 by_]] w fun e w' => e = .returned (.func (.func 144) #[] #[.pointer (some ⟨w.heap.size, 0, none⟩)]) ∧ w.alloc (.cells #[.int .u8 1, .int .u64 by_] 146) = w' := by
  have hmf := make_func
  go_enter Tryz.func138, Tryz.ntmps138
  go_wp2_with fail
  go_ret
  exact ⟨rfl, rfl⟩
theorem doing_3 (by_ : Int) (w : World) :
    Calls Tryz.prog 138 #[.agg #[.int .u8 3, .int .u64 by_]] w fun e w' => e = .returned (.func (.func 147) #[] #[.pointer (some ⟨w.heap.size, 0, none⟩)]) ∧ w.alloc (.cells #[.int .u8 3, .int .u64 by_] 146) = w' := by
  have hmf := make_func
  go_enter Tryz.func138, Tryz.ntmps138
  go_wp2_with fail
  go_ret
  exact ⟨rfl, rfl⟩
theorem doing_4 (by_ : Int) (w : World) :
    Calls Tryz.prog 138 #[.agg #[.int .u8 4, .int .u64 by_]] w fun e w' => e = .returned (.func (.func 149) #[] #[.pointer (some ⟨w.heap.size, 0, none⟩)]) ∧ w.alloc (.cells #[.int .u8 4, .int .u64 by_] 146) = w' := by
  have hmf := make_func
  go_enter Tryz.func138, Tryz.ntmps138
  go_wp2_with fail
  go_ret
  exact ⟨rfl, rfl⟩
theorem doing_2 (by_ : Int) (w : World) :
    Calls Tryz.prog 138 #[.agg #[.int .u8 2, .int .u64 by_]] w fun e w' => e = .returned (.func (.func 152) #[] #[.pointer (some ⟨w.heap.size + 1 + 1, 0, none⟩), .pointer (some ⟨w.heap.size + 1, 0, none⟩)]) ∧ ((w.alloc (.cells #[.int .u8 2, .int .u64 by_] 146)).alloc (.cells #[.int .u64 by_] 87)).alloc (.cells #[.func (.func 146) #[] #[]] 187) = w' := by
  go_enter Tryz.func138, Tryz.ntmps138
  go_wp2_with fail
  refine (onFloats_any _ _ _).mono ?_; rintro e w' ⟨rfl, rfl⟩
  go_wp2_with fail
  go_ret
  exact ⟨by simp, rfl⟩
theorem doing_5 (by_ : Int) (w : World) :
    Calls Tryz.prog 138 #[.agg #[.int .u8 5, .int .u64 by_]] w fun e w' => e = .returned (.func (.func 152) #[] #[.pointer (some ⟨w.heap.size + 1 + 1, 0, none⟩), .pointer (some ⟨w.heap.size + 1, 0, none⟩)]) ∧ ((w.alloc (.cells #[.int .u8 5, .int .u64 by_] 146)).alloc (.cells #[.int .u64 by_] 87)).alloc (.cells #[.func (.func 151) #[] #[]] 187) = w' := by
  go_enter Tryz.func138, Tryz.ntmps138
  go_wp2_with fail
  refine (onFloats_any _ _ _).mono ?_; rintro e w' ⟨rfl, rfl⟩
  go_wp2_with fail
  go_ret
  exact ⟨by simp, rfl⟩
theorem doing_0 (op by_ : Int) (h1 : (op == 1) = false) (h2 : (op == 2) = false) (h3 : (op == 3) = false) (h4 : (op == 4) = false) (h5 : (op == 5) = false) (w : World) :
    Calls Tryz.prog 138 #[.agg #[.int .u8 op, .int .u64 by_]] w fun e w' => e = .returned .nilFunc ∧ w.alloc (.cells #[.int .u8 op, .int .u64 by_] 146) = w' := by
  go_enter Tryz.func138, Tryz.ntmps138
  go_wp2_with fail
  go_ret
  exact ⟨rfl, rfl⟩
theorem below_alloc {a b : World} (h : Below a.heap.size a b) (o : Obj) : Below a.heap.size a (b.alloc o) := h.alloc h.size _
def Grows (v : Value) (w : World) (e : Ending) (w' : World) : Prop := e = .returned v ∧ Below w.heap.size w w'
theorem apply_1 (x by_ : Int) (hby : U64 by_) (w : World) :
    Calls Tryz.prog 125 #[.int .u64 x, .agg #[.int .u8 1, .int .u64 by_]] w (Grows (.tuple #[.int .u64 (quietI by_), .int .i64 0]) w) := by
  have hfn := func_nil
  go_enter Tryz.func125, Tryz.ntmps125
  go_wp2_with fail
  refine (doing_1 _ _).mono ?_; rintro e w' ⟨rfl, rfl⟩
  go_wp2_with fail
  refine (d1_any _ by_ _ hby _ ?_).mono ?_
  · simp
  rintro e w' ⟨rfl, n, rfl⟩
  go_wp2_with fail
  go_ret2
  refine ⟨rfl, below_drewN ?_ n⟩
  repeat (first | exact Below.refl _ _ | apply below_alloc)
def sumI (a b : Int) : Int := (sumN a.toNat b.toNat : Nat)
def proI (a b : Int) : Int := (proN a.toNat b.toNat : Nat)
theorem apply_3 (x by_ : Int) (hx : U64 x) (hby : U64 by_) (w : World) :
    Calls Tryz.prog 125 #[.int .u64 x, .agg #[.int .u8 3, .int .u64 by_]] w (Grows (.tuple #[.int .u64 (grI (quietI x) (quietI by_)), .int .i64 0]) w) := by
  have hfn := func_nil
  go_enter Tryz.func125, Tryz.ntmps125
  go_wp2_with fail
  refine (doing_3 _ _).mono ?_; rintro e w' ⟨rfl, rfl⟩
  go_wp2_with fail
  refine (d3_any _ by_ _ hx hby _ ?_).mono ?_
  · simp
  rintro e w' ⟨rfl, n, rfl⟩
  go_wp2_with fail
  go_ret2
  refine ⟨rfl, below_drewN ?_ n⟩
  repeat (first | exact Below.refl _ _ | apply below_alloc)
theorem apply_4 (x by_ : Int) (hx : U64 x) (hby : U64 by_) (w : World) :
    Calls Tryz.prog 125 #[.int .u64 x, .agg #[.int .u8 4, .int .u64 by_]] w (Grows (.tuple #[.int .u64 (leI (quietI x) (quietI by_)), .int .i64 0]) w) := by
  have hfn := func_nil
  go_enter Tryz.func125, Tryz.ntmps125
  go_wp2_with fail
  refine (doing_4 _ _).mono ?_; rintro e w' ⟨rfl, rfl⟩
  go_wp2_with fail
  refine (d4_any _ by_ _ hx hby _ ?_).mono ?_
  · simp
  rintro e w' ⟨rfl, n, rfl⟩
  go_wp2_with fail
  go_ret2
  refine ⟨rfl, below_drewN ?_ n⟩
  repeat (first | exact Below.refl _ _ | apply below_alloc)
theorem apply_2 (x by_ : Int) (w : World) :
    Calls Tryz.prog 125 #[.int .u64 x, .agg #[.int .u8 2, .int .u64 by_]] w (Grows (.tuple #[.int .u64 (sumI x by_), .int .i64 0]) w) := by
  have hfn := func_nil
  go_enter Tryz.func125, Tryz.ntmps125
  go_wp2_with fail
  refine (doing_2 _ _).mono ?_; rintro e w' ⟨rfl, rfl⟩
  go_wp2_with fail
  refine (onfAdd_any _ by_ _ _ _ ?_ ?_).mono ?_
  · go_simp
  · go_simp
  rintro e w' ⟨rfl, n, rfl⟩
  go_wp2_with fail
  go_ret2
  refine ⟨rfl, below_drewN ?_ n⟩
  repeat (first | exact Below.refl _ _ | apply below_alloc)
theorem apply_5 (x by_ : Int) (w : World) :
    Calls Tryz.prog 125 #[.int .u64 x, .agg #[.int .u8 5, .int .u64 by_]] w (Grows (.tuple #[.int .u64 (proI x by_), .int .i64 0]) w) := by
  have hfn := func_nil
  go_enter Tryz.func125, Tryz.ntmps125
  go_wp2_with fail
  refine (doing_5 _ _).mono ?_; rintro e w' ⟨rfl, rfl⟩
  go_wp2_with fail
  refine (onfMul_any _ by_ _ _ _ ?_ ?_).mono ?_
  · go_simp
  · go_simp
  rintro e w' ⟨rfl, n, rfl⟩
  go_wp2_with fail
  go_ret2
  refine ⟨rfl, below_drewN ?_ n⟩
  repeat (first | exact Below.refl _ _ | apply below_alloc)
theorem apply_0 (x op by_ : Int) (h1 : (op == 1) = false) (h2 : (op == 2) = false) (h3 : (op == 3) = false) (h4 : (op == 4) = false) (h5 : (op == 5) = false) (w : World) :
    Calls Tryz.prog 125 #[.int .u64 x, .agg #[.int .u8 op, .int .u64 by_]] w (Grows (.tuple #[.int .u64 0, .int .i64 2]) w) := by
  have hfn := nil_nil
  go_enter Tryz.func125, Tryz.ntmps125
  go_wp2_with fail
  refine (doing_0 _ _ h1 h2 h3 h4 h5 _).mono ?_; rintro e w' ⟨rfl, rfl⟩
  go_wp2_with fail
  go_ret2
  refine ⟨rfl, ?_⟩
  repeat (first | exact Below.refl _ _ | apply below_alloc)
def stepI (x op b : Int) : Int := if op = 1 then quietI b else if op = 2 then sumI x b else if op = 3 then grI (quietI x) (quietI b) else if op = 4 then leI (quietI x) (quietI b) else if op = 5 then proI x b else 0
def errI (op : Int) : Int := if 1 ≤ op ∧ op ≤ 5 then 0 else 2
theorem apply_any (x op by_ : Int) (hx : U64 x) (hby : U64 by_) (w : World) :
    Calls Tryz.prog 125 #[.int .u64 x, .agg #[.int .u8 op, .int .u64 by_]] w (Grows (.tuple #[.int .u64 (stepI x op by_), .int .i64 (errI op)]) w) := by
  by_cases h1 : op = 1
  · subst h1; exact apply_1 x by_ hby w
  by_cases h2 : op = 2
  · subst h2; exact apply_2 x by_ w
  by_cases h3 : op = 3
  · subst h3; exact apply_3 x by_ hx hby w
  by_cases h4 : op = 4
  · subst h4; exact apply_4 x by_ hx hby w
  by_cases h5 : op = 5
  · subst h5; exact apply_5 x by_ w
  have e1 : stepI x op by_ = 0 := by simp [stepI, h1, h2, h3, h4, h5]
  have e2 : errI op = 2 := by unfold errI; rw [if_neg (by omega)]
  rw [e1, e2]
  exact apply_0 x op by_ (by simpa using h1) (by simpa using h2) (by simpa using h3) (by simpa using h4) (by simpa using h5) w
theorem rsum_any (a b : Int) (w : World) : Calls Tryz.prog 111 #[.int .u64 a, .int .u64 b] w (Draws (.int .u64 (sumI a b)) w) := by
  have hf := from_run
  have hb := bits_run
  cases h : Ieee.double.add a.toNat b.toNat with
  | some r =>
    have hr := add_run h
    have H := Lib.hid h; clear h
    go_enter Tryz.func111, Tryz.ntmps111
    go_wp2_with fail
    refine (rquiet_any _ (by exact ⟨by omega, by have := add_lt64 H.out; omega⟩) _).mono ?_; rintro e w' ⟨rfl, rfl⟩
    go_wp2_with fail
    go_ret
    exact ⟨ret_i (by unfold sumI sumN; rw [H.out]; rfl), 0, rfl⟩
  | none =>
    have hr := add_none h 176 w
    have H := Lib.hid h; clear h
    have hd := nan_drawn a.toNat b.toNat (w.tape w.drawn (.nanBits .f64 a.toNat b.toNat))
    have HD := Lib.hid hd; clear hd
    generalize (Question.nanBits .f64 a.toNat b.toNat).cut (w.tape w.drawn (.nanBits .f64 a.toNat b.toNat)) = r at hr HD
    go_enter Tryz.func111, Tryz.ntmps111
    go_wp2_with fail
    refine (rquiet_any _ (by exact ⟨by omega, by have := HD.out.2; omega⟩) _).mono ?_; rintro e w' ⟨rfl, rfl⟩
    go_wp2_with fail
    go_ret
    exact ⟨ret_i (by unfold sumI sumN; rw [H.out, quietI, Int.toNat_natCast, quiet_of_nan HD.out.1]; rfl), 1, rfl⟩
theorem rpro_any (a b : Int) (w : World) : Calls Tryz.prog 112 #[.int .u64 a, .int .u64 b] w (Draws (.int .u64 (proI a b)) w) := by
  have hf := from_run
  have hb := bits_run
  cases h : Ieee.double.mul a.toNat b.toNat with
  | some r =>
    have hr := mul_run h
    have H := Lib.hid h; clear h
    go_enter Tryz.func112, Tryz.ntmps112
    go_wp2_with fail
    refine (rquiet_any _ (by exact ⟨by omega, by have := mul_lt64 H.out; omega⟩) _).mono ?_; rintro e w' ⟨rfl, rfl⟩
    go_wp2_with fail
    go_ret
    exact ⟨ret_i (by unfold proI proN; rw [H.out]; rfl), 0, rfl⟩
  | none =>
    have hr := mul_none h 176 w
    have H := Lib.hid h; clear h
    have hd := nan_drawn a.toNat b.toNat (w.tape w.drawn (.nanBits .f64 a.toNat b.toNat))
    have HD := Lib.hid hd; clear hd
    generalize (Question.nanBits .f64 a.toNat b.toNat).cut (w.tape w.drawn (.nanBits .f64 a.toNat b.toNat)) = r at hr HD
    go_enter Tryz.func112, Tryz.ntmps112
    go_wp2_with fail
    refine (rquiet_any _ (by exact ⟨by omega, by have := HD.out.2; omega⟩) _).mono ?_; rintro e w' ⟨rfl, rfl⟩
    go_wp2_with fail
    go_ret
    exact ⟨ret_i (by unfold proI proN; rw [H.out, quietI, Int.toNat_natCast, quiet_of_nan HD.out.1]; rfl), 1, rfl⟩
theorem nat_i {x : Int} (h : U64 x) : x.toNat < 18446744073709551616 := by have := h.1; have := h.2; omega
theorem ord_inj {a b : Int} (ha : U64 a) (hb : U64 b) (h : ordI a = ordI b) : a = b := by
  have h1 := back_ord (nat_i ha); have h2 := back_ord (nat_i hb)
  unfold ordI at h
  have : ordN a.toNat = ordN b.toNat := by omega
  rw [this] at h1
  have := ha.1; have := hb.1
  omega
theorem gr_swap {a b : Int} (ha : U64 a) (hb : U64 b) : grI a b = if ordI a < ordI b then b else a := by
  unfold grI
  by_cases h1 : ordI b < ordI a
  · rw [if_pos h1, if_neg (by omega)]
  · rw [if_neg h1]
    by_cases h2 : ordI a < ordI b
    · rw [if_pos h2]
    · rw [if_neg h2]; exact (ord_inj ha hb (by omega)).symm
theorem le_swap {a b : Int} (ha : U64 a) (hb : U64 b) : leI a b = if ordI b < ordI a then b else a := by
  unfold leI
  by_cases h1 : ordI a < ordI b
  · rw [if_pos h1, if_neg (by omega)]
  · rw [if_neg h1]
    by_cases h2 : ordI b < ordI a
    · rw [if_pos h2]
    · rw [if_neg h2]; exact (ord_inj ha hb (by omega)).symm
theorem rapply_1 (x by_ : Int) (hby : U64 by_) (w : World) : Calls Tryz.prog 90 #[.int .u64 x, .int .u8 1, .int .u64 by_] w (Grows (.tuple #[.int .u64 (quietI by_), .int .i64 0]) w) := by
  go_enter Tryz.func90, Tryz.ntmps90
  go_wp2_with fail
  refine (rquiet_any _ hby _).mono ?_; rintro e w' ⟨rfl, rfl⟩
  go_wp2_with fail
  go_ret2
  exact ⟨rfl, Below.refl _ _⟩
theorem rapply_2 (x by_ : Int) (w : World) : Calls Tryz.prog 90 #[.int .u64 x, .int .u8 2, .int .u64 by_] w (Grows (.tuple #[.int .u64 (sumI x by_), .int .i64 0]) w) := by
  go_enter Tryz.func90, Tryz.ntmps90
  go_wp2_with fail
  refine (rsum_any _ _ _).mono ?_; rintro e w' ⟨rfl, n, rfl⟩
  go_wp2_with fail
  go_ret2
  exact ⟨rfl, below_drewN (Below.refl _ _) n⟩
theorem rapply_5 (x by_ : Int) (w : World) : Calls Tryz.prog 90 #[.int .u64 x, .int .u8 5, .int .u64 by_] w (Grows (.tuple #[.int .u64 (proI x by_), .int .i64 0]) w) := by
  go_enter Tryz.func90, Tryz.ntmps90
  go_wp2_with fail
  refine (rpro_any _ _ _).mono ?_; rintro e w' ⟨rfl, n, rfl⟩
  go_wp2_with fail
  go_ret2
  exact ⟨rfl, below_drewN (Below.refl _ _) n⟩
theorem rapply_3 (x by_ : Int) (hx : U64 x) (hby : U64 by_) (w : World) : Calls Tryz.prog 90 #[.int .u64 x, .int .u8 3, .int .u64 by_] w (Grows (.tuple #[.int .u64 (grI (quietI x) (quietI by_)), .int .i64 0]) w) := by
  have HG := Lib.hid (gr_swap (quietI_u64 hx) (quietI_u64 hby))
  by_cases hlt : ordI (quietI x) < ordI (quietI by_)
  all_goals
    go_enter Tryz.func90, Tryz.ntmps90
    go_wp2_with fail
    refine (rquiet_any _ hby _).mono ?_; rintro e w' ⟨rfl, rfl⟩
    go_wp2_with fail
    refine (rorder_any _ (quietI_u64 hby) _).mono ?_; rintro e w' ⟨rfl, rfl⟩
    go_wp2_with fail
    refine (rquiet_any _ hx _).mono ?_; rintro e w' ⟨rfl, rfl⟩
    go_wp2_with fail
    refine (rorder_any _ (quietI_u64 hx) _).mono ?_; rintro e w' ⟨rfl, rfl⟩
    go_wp2_with fail
    refine (rquiet_any _ (by assumption) _).mono ?_; rintro e w' ⟨rfl, rfl⟩
    go_wp2_with fail
    go_ret2
    refine ⟨?_, Below.refl _ _⟩
    rw [HG.out]
    first | (rw [if_pos hlt]; rfl) | (rw [if_neg (by omega)]; rfl)
theorem rapply_4 (x by_ : Int) (hx : U64 x) (hby : U64 by_) (w : World) : Calls Tryz.prog 90 #[.int .u64 x, .int .u8 4, .int .u64 by_] w (Grows (.tuple #[.int .u64 (leI (quietI x) (quietI by_)), .int .i64 0]) w) := by
  have HG := Lib.hid (le_swap (quietI_u64 hx) (quietI_u64 hby))
  by_cases hlt : ordI (quietI by_) < ordI (quietI x)
  all_goals
    go_enter Tryz.func90, Tryz.ntmps90
    go_wp2_with fail
    refine (rquiet_any _ hby _).mono ?_; rintro e w' ⟨rfl, rfl⟩
    go_wp2_with fail
    refine (rorder_any _ (quietI_u64 hby) _).mono ?_; rintro e w' ⟨rfl, rfl⟩
    go_wp2_with fail
    refine (rquiet_any _ hx _).mono ?_; rintro e w' ⟨rfl, rfl⟩
    go_wp2_with fail
    refine (rorder_any _ (quietI_u64 hx) _).mono ?_; rintro e w' ⟨rfl, rfl⟩
    go_wp2_with fail
    refine (rquiet_any _ (by assumption) _).mono ?_; rintro e w' ⟨rfl, rfl⟩
    go_wp2_with fail
    go_ret2
    refine ⟨?_, Below.refl _ _⟩
    rw [HG.out]
    first | (rw [if_pos hlt]; rfl) | (rw [if_neg (by omega)]; rfl)
theorem rapply_0 (x op by_ : Int) (h1 : (op == 1) = false) (h2 : (op == 2) = false) (h3 : (op == 3) = false) (h4 : (op == 4) = false) (h5 : (op == 5) = false) (w : World) :
    Calls Tryz.prog 90 #[.int .u64 x, .int .u8 op, .int .u64 by_] w (Grows (.tuple #[.int .u64 0, .int .i64 2]) w) := by
  go_enter Tryz.func90, Tryz.ntmps90
  go_wp2_with fail
  go_ret2
  exact ⟨rfl, Below.refl _ _⟩
theorem rapply_any (x op by_ : Int) (hx : U64 x) (hby : U64 by_) (w : World) :
    Calls Tryz.prog 90 #[.int .u64 x, .int .u8 op, .int .u64 by_] w (Grows (.tuple #[.int .u64 (stepI x op by_), .int .i64 (errI op)]) w) := by
  by_cases h1 : op = 1
  · subst h1; exact rapply_1 x by_ hby w
  by_cases h2 : op = 2
  · subst h2; exact rapply_2 x by_ w
  by_cases h3 : op = 3
  · subst h3; exact rapply_3 x by_ hx hby w
  by_cases h4 : op = 4
  · subst h4; exact rapply_4 x by_ hx hby w
  by_cases h5 : op = 5
  · subst h5; exact rapply_5 x by_ w
  have e1 : stepI x op by_ = 0 := by simp [stepI, h1, h2, h3, h4, h5]
  have e2 : errI op = 2 := by unfold errI; rw [if_neg (by omega)]
  rw [e1, e2]
  exact rapply_0 x op by_ (by simpa using h1) (by simpa using h2) (by simpa using h3) (by simpa using h4) (by simpa using h5) w
end Go.Proofs.YthledgkjfjdjoaaGreat.Nm
