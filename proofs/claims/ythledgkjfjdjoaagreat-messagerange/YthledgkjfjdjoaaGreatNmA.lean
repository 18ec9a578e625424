/- What each function of package number, and of the document answer for it, gives: contracts over the translated program. Conditions: marks of 64 bits. -/
import Derived.Test.YthledgkjfjdjoaaGreatProg
import Derived.KernelRfl
import Derived.Test.YthledgkjfjdjoaaGreatNum
import Derived.WalkKit
import Derived.WalkLawsBesides
import Derived.Deep.QuietTactic
import Derived.BigQuiet
import Derived.StillTailTactics
import Derived.Deep.RegionWith
import Derived.Lib.Hide
namespace Go.Proofs.YthledgkjfjdjoaaGreat.Nm
open Go.ChangeShapes Go.WideShapes Go.RowKit Go.Num
set_option maxRecDepth 100000
set_option maxHeartbeats 1000000
def U64 (x : Int) : Prop := 0 ≤ x ∧ x < 18446744073709551616
def ordI (x : Int) : Int := (ordN x.toNat : Nat)
def backI (x : Int) : Int := (backN x.toNat : Nat)
def quietI (x : Int) : Int := (quietN x.toNat : Nat)
theorem ret_i {k : IntKind} {a b : Int} (h : a = b) : Ending.returned (.int k a) = .returned (.int k b) := by rw [h]
theorem ret_bool {a b : Bool} (h : a = b) : Ending.returned (.bool a) = .returned (.bool b) := by rw [h]
theorem nat_of {x : Int} (h : U64 x) : ∃ n : Nat, x = (n : Int) ∧ n < 18446744073709551616 := ⟨x.toNat, by have := h.1; omega, by have := h.1; have := h.2; omega⟩

theorem rorder_any (x : Int) (h : U64 x) (w : World) :
    Calls Tryz.prog 113 #[.int .u64 x] w fun e w' => e = .returned (.int .u64 (ordI x)) ∧ w = w' := by
  go_enter Tryz.func113, Tryz.ntmps113
  go_wp2
  · go_ret
    exact ⟨ret_i (by rw [IntKind.wrap_u64]; unfold ordI ordN; have := h.1; have := h.2; split <;> omega), rfl⟩
  · go_ret
    exact ⟨ret_i (by rw [IntKind.wrap_u64]; unfold ordI ordN; have := h.1; have := h.2; split <;> omega), rfl⟩
theorem order_any (x : Int) (h : U64 x) (w : World) :
    Calls Tryz.prog 153 #[.int .u64 x] w fun e w' => e = .returned (.int .u64 (ordI x)) ∧ w = w' := by
  obtain ⟨n, rfl, hn⟩ := nat_of h
  by_cases ht : 9223372036854775808 ≤ n
  · have hb := and_top_set hn ht
    have hx := turned n hn
    go_enter Tryz.func153, Tryz.ntmps153
    go_wp2
    go_ret
    exact ⟨ret_i (by rw [ordI, Int.toNat_natCast, ordN, if_pos ht]), rfl⟩
  · have hb := and_top_not hn ht
    have hx := or_top (x := n) (by omega)
    go_enter Tryz.func153, Tryz.ntmps153
    go_wp2
    go_ret
    exact ⟨ret_i (by rw [ordI, Int.toNat_natCast, ordN, if_neg ht]; omega), rfl⟩
def nanI (x : Int) : Bool := nanN x.toNat
theorem rnan_any (x : Int) (h : U64 x) (w : World) :
    Calls Tryz.prog 129 #[.int .u64 x] w fun e w' => e = .returned (.bool (nanI x)) ∧ w = w' := by
  obtain ⟨n, rfl, hn⟩ := nat_of h
  have e1 := nan_exp n hn
  have e2 := nan_frac n
  have e3 := nan_parts n
  have E1 := Lib.hid e1; have E2 := Lib.hid e2; have E3 := Lib.hid e3; have HN := Lib.hid hn
  clear e1 e2 e3 h hn
  go_enter Tryz.func129, Tryz.ntmps129
  go_wp2
  · go_ret
    exact ⟨ret_bool (by rename_i hh; rw [E1.out] at hh; rw [E2.out, nanI, Int.toNat_natCast, E3.out]; simp; omega), rfl⟩
  · go_ret
    exact ⟨ret_bool (by rename_i hh; rw [E1.out] at hh; rw [nanI, Int.toNat_natCast, E3.out]; simp; omega), rfl⟩
theorem rquiet_any (x : Int) (h : U64 x) (w : World) :
    Calls Tryz.prog 110 #[.int .u64 x] w fun e w' => e = .returned (.int .u64 (quietI x)) ∧ w = w' := by
  cases hn : nanI x
  · go_enter Tryz.func110, Tryz.ntmps110
    go_wp2_with (go_at_call 129; refine (rnan_any _ h _).mono ?_; rintro e w' ⟨rfl, rfl⟩)
    go_ret
    exact ⟨ret_i (by have := h.1; unfold nanI at hn; rw [quietI, quietN, hn]; simp; omega), rfl⟩
  · go_enter Tryz.func110, Tryz.ntmps110
    go_wp2_with (go_at_call 129; refine (rnan_any _ h _).mono ?_; rintro e w' ⟨rfl, rfl⟩)
    go_ret
    exact ⟨ret_i (by unfold nanI at hn; rw [quietI, quietN, hn]; rfl), rfl⟩
theorem from_run (x : Int) (w : World) : (callFunc 131 #[.int .u64 x]).run Tryz.prog w = .ok (.value (.float .f64 x.toNat)) w := by
  rw [run_callFunc_extern (e := Extern.MathFloatBits.float64frombits) Tryz.func131 (by kernel_rfl) (by kernel_rfl) (by kernel_rfl) (by kernel_rfl)]
  rfl
theorem bits_run (b : Nat) (w : World) : (callFunc 130 #[.float .f64 b]).run Tryz.prog w = .ok (.value (.int .u64 b)) w := by
  rw [run_callFunc_extern (e := Extern.MathFloatBits.float64bits) Tryz.func130 (by kernel_rfl) (by kernel_rfl) (by kernel_rfl) (by kernel_rfl)]
  rfl
theorem isnan_any (x : Nat) (h : x < 18446744073709551616) (w : World) :
    Calls Tryz.prog 143 #[.float .f64 x] w fun e w' => e = .returned (.bool (nanN x)) ∧ w = w' := by
  have H := Lib.hid h; clear h
  go_enter Tryz.func143, Tryz.ntmps143
  go_wp2
  go_ret
  exact ⟨ret_bool (order_self H.out), rfl⟩
theorem quiet_any (x : Int) (h : U64 x) (w : World) :
    Calls Tryz.prog 135 #[.int .u64 x] w fun e w' => e = .returned (.int .u64 (quietI x)) ∧ w = w' := by
  have hf := from_run
  have hx : x.toNat < 18446744073709551616 := by have := h.1; have := h.2; omega
  have HX := Lib.hid hx; clear hx
  cases hn : nanN x.toNat
  · go_enter Tryz.func135, Tryz.ntmps135
    go_wp2_with (go_at_call 143; refine (isnan_any _ HX.out _).mono ?_; rintro e w' ⟨rfl, rfl⟩)
    go_ret
    exact ⟨ret_i (by have := h.1; rw [quietI, quietN, hn]; simp; omega), rfl⟩
  · go_enter Tryz.func135, Tryz.ntmps135
    go_wp2_with (go_at_call 143; refine (isnan_any _ HX.out _).mono ?_; rintro e w' ⟨rfl, rfl⟩)
    go_ret
    exact ⟨ret_i (by rw [quietI, quietN, hn]; rfl), rfl⟩
theorem quietI_u64 {x : Int} (h : U64 x) : U64 (quietI x) := by
  have := quietN_lt (x := x.toNat) (by have := h.1; have := h.2; omega)
  unfold quietI U64; omega
theorem ordI_u64 {x : Int} (h : U64 x) : U64 (ordI x) := by
  have := ordN_lt (x := x.toNat) (by have := h.1; have := h.2; omega)
  unfold ordI U64; omega
theorem backI_u64 {x : Int} (h : U64 x) : U64 (backI x) := by
  have := backN_lt (x := x.toNat) (by have := h.1; have := h.2; omega)
  unfold backI U64; omega
def grI (a b : Int) : Int := if ordI b < ordI a then a else b
def leI (a b : Int) : Int := if ordI a < ordI b then a else b
theorem greater_any (a b : Int) (ha : U64 a) (hb : U64 b) (w : World) :
    Calls Tryz.prog 148 #[.int .u64 a, .int .u64 b] w fun e w' => e = .returned (.int .u64 (grI a b)) ∧ w = w' := by
  go_enter Tryz.func148, Tryz.ntmps148
  go_wp2_with fail
  refine (order_any _ ha _).mono ?_; rintro e w' ⟨rfl, rfl⟩
  go_wp2_with fail
  refine (order_any _ hb _).mono ?_; rintro e w' ⟨rfl, rfl⟩
  go_wp2_with fail
  · go_ret
    exact ⟨ret_i (by rw [grI, if_pos (by assumption)]), rfl⟩
  · go_ret
    exact ⟨ret_i (by rw [grI, if_neg (by omega)]), rfl⟩
theorem lesser_any (a b : Int) (ha : U64 a) (hb : U64 b) (w : World) :
    Calls Tryz.prog 150 #[.int .u64 a, .int .u64 b] w fun e w' => e = .returned (.int .u64 (leI a b)) ∧ w = w' := by
  go_enter Tryz.func150, Tryz.ntmps150
  go_wp2_with fail
  refine (order_any _ ha _).mono ?_; rintro e w' ⟨rfl, rfl⟩
  go_wp2_with fail
  refine (order_any _ hb _).mono ?_; rintro e w' ⟨rfl, rfl⟩
  go_wp2_with fail
  · go_ret
    exact ⟨ret_i (by rw [leI, if_pos (by assumption)]), rfl⟩
  · go_ret
    exact ⟨ret_i (by rw [leI, if_neg (by omega)]), rfl⟩
def FloatOut (o : Option Nat) (w : World) (e : Ending) (w' : World) : Prop := ∃ r : Nat, r < 18446744073709551616 ∧ quietN r = outN o ∧ e = .returned (.float .f64 r) ∧ ∃ n, w' = w.drewN n
theorem add_run {a b r : Nat} (h : Ieee.double.add a b = some r) (t : TypeId) (w : World) : (binOp .add t (.float .f64 a) (.float .f64 b)).run Tryz.prog w = .ok (.float .f64 r) w := run_float_arith w .add t .f64 a b r h
theorem mul_run {a b r : Nat} (h : Ieee.double.mul a b = some r) (t : TypeId) (w : World) : (binOp .mul t (.float .f64 a) (.float .f64 b)).run Tryz.prog w = .ok (.float .f64 r) w := run_float_arith w .mul t .f64 a b r h
theorem add_none {a b : Nat} (h : Ieee.double.add a b = none) (t : TypeId) (w : World) : (binOp .add t (.float .f64 a) (.float .f64 b)).run Tryz.prog w = .ok (.float .f64 ((Question.nanBits .f64 a b).cut (w.tape w.drawn (.nanBits .f64 a b)))) w.drew := by
  have h' : FloatKind.f64.format.add a b = none := h
  simp [binOp, Op.floatArith, h']
  exact fun hh => by cases hh
theorem mul_none {a b : Nat} (h : Ieee.double.mul a b = none) (t : TypeId) (w : World) : (binOp .mul t (.float .f64 a) (.float .f64 b)).run Tryz.prog w = .ok (.float .f64 ((Question.nanBits .f64 a b).cut (w.tape w.drawn (.nanBits .f64 a b)))) w.drew := by
  have h' : FloatKind.f64.format.mul a b = none := h
  simp [binOp, Op.floatArith, h']
  exact fun hh => by cases hh
theorem d2_any (a b : Nat) (w : World) : Calls Tryz.prog 146 #[.float .f64 a, .float .f64 b] w (FloatOut (Ieee.double.add a b) w) := by
  cases h : Ieee.double.add a b with
  | some r =>
    have hr := add_run h
    have H := Lib.hid h; clear h
    go_enter Tryz.func146, Tryz.ntmps146
    go_wp2
    go_ret
    exact ⟨r, add_lt64 H.out, rfl, rfl, 0, rfl⟩
  | none =>
    have hr := add_none h 176 w
    have H := Lib.hid h; clear h
    have hd := nan_drawn a b (w.tape w.drawn (.nanBits .f64 a b))
    have HD := Lib.hid hd; clear hd
    generalize (Question.nanBits .f64 a b).cut (w.tape w.drawn (.nanBits .f64 a b)) = r at hr HD
    go_enter Tryz.func146, Tryz.ntmps146
    go_wp2
    go_ret
    exact ⟨r, HD.out.2, quiet_of_nan HD.out.1, rfl, 1, rfl⟩
theorem d5_any (a b : Nat) (w : World) : Calls Tryz.prog 151 #[.float .f64 a, .float .f64 b] w (FloatOut (Ieee.double.mul a b) w) := by
  cases h : Ieee.double.mul a b with
  | some r =>
    have hr := mul_run h
    have H := Lib.hid h; clear h
    go_enter Tryz.func151, Tryz.ntmps151
    go_wp2
    go_ret
    exact ⟨r, mul_lt64 H.out, rfl, rfl, 0, rfl⟩
  | none =>
    have hr := mul_none h 176 w
    have H := Lib.hid h; clear h
    have hd := nan_drawn a b (w.tape w.drawn (.nanBits .f64 a b))
    have HD := Lib.hid hd; clear hd
    generalize (Question.nanBits .f64 a b).cut (w.tape w.drawn (.nanBits .f64 a b)) = r at hr HD
    go_enter Tryz.func151, Tryz.ntmps151
    go_wp2
    go_ret
    exact ⟨r, HD.out.2, quiet_of_nan HD.out.1, rfl, 1, rfl⟩
def Draws (v : Value) (w : World) (e : Ending) (w' : World) : Prop := e = .returned v ∧ ∃ n, w' = w.drewN n
theorem onfAdd_any (x by_ : Int) (b1 b2 : Nat) (w : World) (hc : w.cell? ⟨b1, 0, none⟩ = some (.func (.func 146) #[] #[])) (hc2 : w.cell? ⟨b2, 0, none⟩ = some (.int .u64 by_)) :
    Calls Tryz.prog 152 #[.int .u64 x, .pointer (some ⟨b1, 0, none⟩), .pointer (some ⟨b2, 0, none⟩)] w (Draws (.int .u64 (outN (Ieee.double.add x.toNat by_.toNat) : Nat)) w) := by
  have hf := from_run
  have hf2 := bits_run
  go_enter Tryz.func152, Tryz.ntmps152
  go_wp2_with fail
  go_still_tail 5, (by kernel_rfl)
  change wpList _ _ _ _ _ w.drew
  go_wp2_with fail
  refine (d2_any _ _ _).mono ?_
  rintro e w' ⟨r, hr, hq, rfl, n, rfl⟩
  have HQ := Lib.hid hq; clear hq; have HR := Lib.hid hr; clear hr
  go_wp2_with fail
  refine (quiet_any _ (by exact ⟨by omega, by have := HR.out; omega⟩) _).mono ?_
  rintro e w' ⟨rfl, rfl⟩
  go_wp2_with fail
  go_ret
  exact ⟨ret_i (by rw [quietI, Int.toNat_natCast, HQ.out]), 1 + n, rfl⟩
theorem onfMul_any (x by_ : Int) (b1 b2 : Nat) (w : World) (hc : w.cell? ⟨b1, 0, none⟩ = some (.func (.func 151) #[] #[])) (hc2 : w.cell? ⟨b2, 0, none⟩ = some (.int .u64 by_)) :
    Calls Tryz.prog 152 #[.int .u64 x, .pointer (some ⟨b1, 0, none⟩), .pointer (some ⟨b2, 0, none⟩)] w (Draws (.int .u64 (outN (Ieee.double.mul x.toNat by_.toNat) : Nat)) w) := by
  have hf := from_run
  have hf2 := bits_run
  go_enter Tryz.func152, Tryz.ntmps152
  go_wp2_with fail
  go_still_tail 5, (by kernel_rfl)
  change wpList _ _ _ _ _ w.drew
  go_wp2_with fail
  refine (d5_any _ _ _).mono ?_
  rintro e w' ⟨r, hr, hq, rfl, n, rfl⟩
  have HQ := Lib.hid hq; clear hq; have HR := Lib.hid hr; clear hr
  go_wp2_with fail
  refine (quiet_any _ (by exact ⟨by omega, by have := HR.out; omega⟩) _).mono ?_
  rintro e w' ⟨rfl, rfl⟩
  go_wp2_with fail
  go_ret
  exact ⟨ret_i (by rw [quietI, Int.toNat_natCast, HQ.out]), 1 + n, rfl⟩
end Go.Proofs.YthledgkjfjdjoaaGreat.Nm
