/- What a message makes of a key and a value, by the program. Conditions: lengths below 2^40. -/
import Derived.Test.YthledgkjfjdjoaaGreatMsD
import Derived.Test.YthledgkjfjdjoaaGreatMtQ
namespace Go.Proofs.YthledgkjfjdjoaaGreat.Ms
open Go.ChangeShapes Go.WideShapes Go.RowKit Go.Codec Go.Mt Go.Blk
set_option maxRecDepth 100000
set_option linter.unusedSimpArgs false
set_option linter.unusedVariables false
/-- What a change's text makes of a meta's. -/
def chgK (l c : List UInt8) : Nat := Mt.aSz (num l 0 1) (num l 1 5) (num l 5 13) (num c 0 1) (cN c (num c 0 1)) (cOp c (num c 0 1)) (cBy c (num c 0 1))
def chgM (l c : List UInt8) : Nat := Mt.aMk (num l 0 1) (num l 1 5) (num l 5 13) (num c 0 1) (cN c (num c 0 1)) (cOp c (num c 0 1)) (cBy c (num c 0 1))
def chgS (l c : List UInt8) : Nat := Mt.aSt (num l 0 1) (num l 1 5) (num l 5 13) (num l 13 21) (num c 0 1) (cN c (num c 0 1)) (cOp c (num c 0 1)) (cBy c (num c 0 1))
def chg (l c : List UInt8) : List UInt8 := putM (num l 0 1) (chgK l c) (chgM l c) (chgS l c)
/-- What a patch's text makes of a block's. -/
def plc (l p : List UInt8) : List UInt8 := apl l (tk p).c (tk p).a (tk p).n (bs (tk p).s).data.toList
def val0 (x : ByteArray) (th : Bool) : ByteArray := if th = true then x else ⟨#[]⟩
/-- What a message makes of a key that is there, or not. -/
def doV (m : Msg) (q x : ByteArray) (th : Bool) : ByteArray × Bool :=
  if tch m q = false then (val0 x th, th)
  else if m.o = 1 then (m.v, true)
  else if m.o = 4 then
    if hd q = 109 then (if takeE (val0 x th).data.toList = 0 then (bs (chg (val0 x th).data.toList m.v.data.toList), true) else (val0 x th, th))
    else (bs (plc (val0 x th).data.toList m.v.data.toList), !decide ((bs (plc (val0 x th).data.toList m.v.data.toList)).size = 0))
  else (⟨#[]⟩, false)
theorem val0_or (x : ByteArray) (th : Bool) : th = true ∧ x = val0 x th ∨ th = false ∧ ⟨#[]⟩ = val0 x th := by
  cases th
  · exact .inr ⟨rfl, rfl⟩
  · exact .inl ⟨rfl, rfl⟩
theorem val0_size {x : ByteArray} (th : Bool) (h : x.size ≤ 1099511627776) : (val0 x th).size ≤ 1099511627776 := by
  unfold val0; split
  · exact h
  · decide
theorem cBy_lt (c : List UInt8) (wh : Nat) : cBy c wh < 18446744073709551616 := by
  unfold cBy; split
  · exact Mt.num8 c 2
  · decide
/-- What of its key says which rules a patch that may be is of. -/
theorem may_4k {k t v : ByteArray} (h : may ⟨4, k, t, v⟩ = true) : 1 ≤ k.size ∧ (hd k = 109 ∧ takeCE v.data.toList = 0 ∨ hd k ≠ 109 ∧ hd k = 100 ∧ (tk v.data.toList).e = 0) := by
  unfold may okP key at h
  simp only [Bool.and_eq_true, decide_eq_true_eq] at h
  obtain ⟨⟨h1, -⟩, h⟩ := h
  refine ⟨h1, ?_⟩
  rw [if_neg (by decide), if_pos (by trivial)] at h
  simp only [Bool.and_eq_true, decide_eq_true_eq] at h
  obtain ⟨-, h⟩ := h
  by_cases hm : hd k = 109
  · rw [if_pos hm] at h; exact .inl ⟨hm, by simpa using h⟩
  · rw [if_neg hm] at h
    by_cases hb : hd k = 100
    · rw [if_pos hb] at h; exact .inr ⟨hm, hb, by simpa using h⟩
    · rw [if_neg hb] at h; cases h
theorem ach_no (v p : ByteArray) (th : Bool) (a b c d : Int) (E : Int) (hE : ¬ E = 0) (hE2 : (E == 0) = false) (hE3 : (E != 0) = true)
    (H : ∀ w, Calls Tryz.prog 103 #[.string v] w fun e w' => e = .returned (.tuple #[.agg #[.int .u8 a, .int .u32 b, .int .u64 c, .int .u64 d], .int .i64 E]) ∧ Below w.heap.size w w')
    (C : ∀ w, Calls Tryz.prog 48 #[.string v] w fun e w' => e = .returned (.string v) ∧ Below w.heap.size w w') (w : World) :
    Calls Tryz.prog 78 #[.string v, .bool th, .string p] w fun e w' => e = .returned (.tuple #[.string v, .bool th]) ∧ Below w.heap.size w w' := by
  go_enter Tryz.func78, Tryz.ntmps78
  go_wp2_with fail
  refine (H _).mono ?_; rintro e w1 ⟨rfl, hb⟩
  have HB := Lib.hid (below_alloc2 hb); clear hb
  go_wp2_with fail
  refine (C _).mono ?_; rintro e w2 ⟨rfl, hb⟩
  replace HB := Lib.hid ((HB.out _).trans (hb.mono (HB.out _).size)); clear hb
  go_wp2_with fail
  go_ret2
  exact ⟨rfl, HB.out⟩
theorem ach_yes (v p T : ByteArray) (th : Bool) (a b c d a2 b2 c2 d2 a3 b3 c3 d3 : Int) (F G : Int)
    (H : ∀ w, Calls Tryz.prog 103 #[.string v] w fun e w' => e = .returned (.tuple #[.agg #[.int .u8 a, .int .u32 b, .int .u64 c, .int .u64 d], .int .i64 0]) ∧ Below w.heap.size w w')
    (H2 : ∀ w, Calls Tryz.prog 104 #[.string p] w fun e w' => e = .returned (.tuple #[.agg #[.int .u8 a2, .int .u64 b2, .int .u8 c2, .int .u64 d2], .int .i64 F]) ∧ Below w.heap.size w w')
    (H3 : ∀ w, Calls Tryz.prog 106 #[.agg #[.int .u8 a, .int .u32 b, .int .u64 c, .int .u64 d], .agg #[.int .u8 a2, .int .u64 b2, .int .u8 c2, .int .u64 d2]] w fun e w' => e = .returned (.agg #[.int .u8 a3, .int .u32 b3, .int .u64 c3, .int .u64 d3]) ∧ Below w.heap.size w w')
    (H4 : ∀ w, Calls Tryz.prog 105 #[.agg #[.int .u8 a3, .int .u32 b3, .int .u64 c3, .int .u64 d3]] w fun e w' => e = .returned (.tuple #[.string T, .int .i64 G]) ∧ Below w.heap.size w w') (w : World) :
    Calls Tryz.prog 78 #[.string v, .bool th, .string p] w fun e w' => e = .returned (.tuple #[.string T, .bool true]) ∧ Below w.heap.size w w' := by
  have HX := Lib.hid (Mt.Fr.nil w)
  go_enter Tryz.func78, Tryz.ntmps78
  go_wp2_with fail
  refine (H _).mono ?_; rintro e w1 ⟨rfl, hb⟩
  replace HX := Lib.hid ((HX.out.later hb).new 89 #[.int .u8 a, .int .u32 b, .int .u64 c, .int .u64 d]); clear hb
  go_wp2_with fail
  refine (H2 _).mono ?_; rintro e w2 ⟨rfl, hb⟩
  replace HX := Lib.hid ((HX.out.later hb).new 148 #[.int .u8 a2, .int .u64 b2, .int .u8 c2, .int .u64 d2]); clear hb
  obtain ⟨c0, c1, c2, c3⟩ := HX.out.c4 0 rfl
  obtain ⟨d0, d1, d2, d3⟩ := HX.out.c4 1 rfl
  go_wp2_with fail
  refine (H3 _).mono ?_; rintro e w3 ⟨rfl, hb⟩
  replace HX := Lib.hid (HX.out.later hb); clear hb
  go_wp2_with fail
  refine (H4 _).mono ?_; rintro e w4 ⟨rfl, hb⟩
  replace HX := Lib.hid (HX.out.later hb); clear hb
  go_wp2_with fail
  go_ret2
  exact ⟨rfl, HX.out.below⟩
theorem ap_any (v p A : ByteArray) (th : Bool) (c : Bool) (a n : Int) (s : ByteArray) (E : Int) (e : Bool) (he : A.toList.isEmpty = e) (he2 : A.toList = [] ↔ e = true)
    (H : ∀ w, Calls Tryz.prog 108 #[.string p] w fun e w' => e = .returned (.tuple #[.agg #[.bool c, .int .i64 a, .int .i64 n, .string s], .int .i64 E]) ∧ Below w.heap.size w w')
    (H2 : ∀ w, Calls Tryz.prog 109 #[.string v, .agg #[.bool c, .int .i64 a, .int .i64 n, .string s]] w fun e w' => e = .returned (.string A) ∧ Below w.heap.size w w') (w : World) :
    Calls Tryz.prog 81 #[.string v, .bool th, .string p] w fun e w' => e = .returned (.tuple #[.string A, .bool (!decide (A.size = 0))]) ∧ Below w.heap.size w w' := by
  have HX := Lib.hid (Mt.Fr.nil w)
  go_enter Tryz.func81, Tryz.ntmps81
  go_wp2_with fail
  refine (H _).mono ?_; rintro e w1 ⟨rfl, hb⟩
  replace HX := Lib.hid ((HX.out.later hb).new 154 #[.bool c, .int .i64 a, .int .i64 n, .string s]); clear hb
  obtain ⟨c0, c1, c2, c3⟩ := HX.out.c4 0 rfl
  go_wp2_with fail
  refine (H2 _).mono ?_; rintro e w2 ⟨rfl, hb⟩
  replace HX := Lib.hid (HX.out.later hb); clear hb
  go_wp2_with fail
  go_ret2
  refine ⟨?_, HX.out.below⟩
  rw [← isEmpty_size, he]
  cases e <;> rfl
theorem apply_not (o : Int) (k t v q x x' : ByteArray) (th : Bool) (hx : th = true ∧ x = x' ∨ th = false ∧ ⟨#[]⟩ = x')
    (H : ∀ w, Calls Tryz.prog 20 #[.agg #[.int .i64 o, .string k, .string t, .string v], .string q] w fun e w' => e = .returned (.bool false) ∧ Below w.heap.size w w')
    (C : ∀ w, Calls Tryz.prog 48 #[.string x'] w fun e w' => e = .returned (.string x') ∧ Below w.heap.size w w') (w : World) :
    Calls Tryz.prog 22 #[.agg #[.int .i64 o, .string k, .string t, .string v], .string q, .string x, .bool th] w fun e w' => e = .returned (.tuple #[.string x', .bool th]) ∧ Below w.heap.size w w' := by
  have HX := Lib.hid (Bk.Box.new w 23 #[.int .i64 o, .string k, .string t, .string v])
  rcases hx with ⟨rfl, rfl⟩ | ⟨rfl, rfl⟩
  all_goals
    go_enter Tryz.func22, Tryz.ntmps22
    go_wp2_with fail
    refine (H _).mono ?_; rintro e w1 ⟨rfl, hb⟩
    replace HX := Lib.hid (HX.out.later hb); clear hb
    go_wp2_with fail
    refine (C _).mono ?_; rintro e w2 ⟨rfl, hb⟩
    replace HX := Lib.hid (HX.out.later hb); clear hb
    go_wp2_with fail
    go_ret2
    exact ⟨rfl, HX.out.below⟩
theorem apply_1 (k t v q x : ByteArray) (th : Bool)
    (H : ∀ w, Calls Tryz.prog 20 #[.agg #[.int .i64 1, .string k, .string t, .string v], .string q] w fun e w' => e = .returned (.bool true) ∧ Below w.heap.size w w')
    (C : ∀ w, Calls Tryz.prog 48 #[.string v] w fun e w' => e = .returned (.string v) ∧ Below w.heap.size w w') (w : World) :
    Calls Tryz.prog 22 #[.agg #[.int .i64 1, .string k, .string t, .string v], .string q, .string x, .bool th] w fun e w' => e = .returned (.tuple #[.string v, .bool true]) ∧ Below w.heap.size w w' := by
  have HX := Lib.hid (Bk.Box.new w 23 #[.int .i64 1, .string k, .string t, .string v])
  cases th
  all_goals
    go_enter Tryz.func22, Tryz.ntmps22
    go_wp2_with fail
    refine (H _).mono ?_; rintro e w1 ⟨rfl, hb⟩
    replace HX := Lib.hid (HX.out.later hb); clear hb
    obtain ⟨c0, c1, c2, c3⟩ := HX.out.cells
    go_wp2_with fail
    refine (C _).mono ?_; rintro e w2 ⟨rfl, hb⟩
    replace HX := Lib.hid (HX.out.later hb); clear hb
    go_wp2_with fail
    go_ret2
    exact ⟨rfl, HX.out.below⟩
theorem apply_23 (o : Int) (h1 : (o == 1) = false) (h4 : (o == 4) = false) (k t v q x : ByteArray) (th : Bool)
    (H : ∀ w, Calls Tryz.prog 20 #[.agg #[.int .i64 o, .string k, .string t, .string v], .string q] w fun e w' => e = .returned (.bool true) ∧ Below w.heap.size w w') (w : World) :
    Calls Tryz.prog 22 #[.agg #[.int .i64 o, .string k, .string t, .string v], .string q, .string x, .bool th] w fun e w' => e = .returned (.tuple #[.string ⟨#[]⟩, .bool false]) ∧ Below w.heap.size w w' := by
  have HX := Lib.hid (Bk.Box.new w 23 #[.int .i64 o, .string k, .string t, .string v])
  cases th
  all_goals
    go_enter Tryz.func22, Tryz.ntmps22
    go_wp2_with fail
    refine (H _).mono ?_; rintro e w1 ⟨rfl, hb⟩
    replace HX := Lib.hid (HX.out.later hb); clear hb
    obtain ⟨c0, c1, c2, c3⟩ := HX.out.cells
    go_wp2_with fail
    go_ret2
    exact ⟨rfl, HX.out.below⟩
theorem apply_4 (k t v q x x' A : ByteArray) (th b : Bool) (hx : th = true ∧ x = x' ∨ th = false ∧ ⟨#[]⟩ = x') (f g j : Nat)
    (H : ∀ w, Calls Tryz.prog 20 #[.agg #[.int .i64 4, .string k, .string t, .string v], .string q] w fun e w' => e = .returned (.bool true) ∧ Below w.heap.size w w')
    (R : ∀ w, Calls Tryz.prog 49 #[.string q] w fun e w' => e = .returned (.agg #[.func (.func f) #[] #[], .func (.func g) #[] #[], .func (.func j) #[] #[]]) ∧ Below w.heap.size w w')
    (hc : ∀ args w, (callFunc j args).run Tryz.prog w = .ok (.enter j args) w)
    (F : ∀ w, Calls Tryz.prog j #[.string x', .bool th, .string v] w fun e w' => e = .returned (.tuple #[.string A, .bool b]) ∧ Below w.heap.size w w') (w : World) :
    Calls Tryz.prog 22 #[.agg #[.int .i64 4, .string k, .string t, .string v], .string q, .string x, .bool th] w fun e w' => e = .returned (.tuple #[.string A, .bool b]) ∧ Below w.heap.size w w' := by
  have HX := Lib.hid (Bk.Box.new w 23 #[.int .i64 4, .string k, .string t, .string v])
  have e2 := fld2
  have R' := fun (wx : World) (h : Bk.Box w 23 #[.int .i64 4, .string k, .string t, .string v] wx) => Bk.Box.carry (wx := w) h (R wx)
  have F' := fun (wx : World) (h : Bk.Box w 23 #[.int .i64 4, .string k, .string t, .string v] wx) => Bk.Box.carry (wx := w) h (F wx)
  rcases hx with ⟨rfl, rfl⟩ | ⟨rfl, rfl⟩
  all_goals
    go_enter Tryz.func22, Tryz.ntmps22
    go_wp2_with fail
    refine (H _).mono ?_; rintro e w1 ⟨rfl, hb⟩
    replace HX := Lib.hid (HX.out.later hb); clear hb
    obtain ⟨c0, c1, c2, c3⟩ := HX.out.cells
    have hp := HX.out
    have hpd := Bk.Box.drew hp
    go_wp2_with fail
    go_region_held3 (fun wx => wx.cell? ⟨w.heap.size, 0, none⟩ = some (.int .i64 4) ∧ wx.cell? ⟨w.heap.size, 1, none⟩ = some (.string k) ∧ wx.cell? ⟨w.heap.size, 2, none⟩ = some (.string t) ∧ wx.cell? ⟨w.heap.size, 3, none⟩ = some (.string v))
      (first | (with_reducible exact Bk.Box.cells (by assumption)))
      (first
        | (with_reducible refine (R' _ (by assumption)).mono ?_; rintro e w1 ⟨rfl, hp⟩)
        | (with_reducible refine (F' _ (by assumption)).mono ?_; rintro e w1 ⟨rfl, hp⟩))
  all_goals
    go_wp2
    go_ret2
    exact ⟨rfl, hp.below⟩
theorem applyChange_any (x p : ByteArray) (th : Bool) (hx : x.size ≤ 1099511627776) (hp : p.size ≤ 1099511627776) (hc : takeCE p.data.toList = 0) (w : World) :
    Calls Tryz.prog 78 #[.string x, .bool th, .string p] w fun e w' => e = .returned (.tuple #[.string (if takeE x.data.toList = 0 then bs (chg x.data.toList p.data.toList) else x), .bool (if takeE x.data.toList = 0 then true else th)]) ∧ Below w.heap.size w w' := by
  have H := fun w => Mt.take_any x hx w
  by_cases h0 : takeE x.data.toList = 0
  · rw [if_pos h0, if_pos h0]
    have H2 := fun w => Mt.takeChange_any p _ rfl hp w
    rw [h0] at H
    rw [hc] at H2
    simp only [Mt.okI, if_true] at H H2
    refine ach_yes x p _ th _ _ _ _ _ _ _ _ _ _ _ _ _ ((ckM (num x.data.toList 0 1) (chgK x.data.toList p.data.toList) (chgM x.data.toList p.data.toList) : Nat) : Int) H H2 (fun w => Mt.apply_any _ _ _ _ _ _ _ _ (Mt.num8 _ _) (cBy_lt _ _) w) (fun w => ?_) w
    exact Mt.put_any _ _ _ _ (Mt.num1 _ _) (Mt.aMk_lt (Mt.num8 _ _) (cBy_lt _ _)) w
  · rw [if_neg h0, if_neg h0]
    generalize takeE x.data.toList = E at *
    exact ach_no x p th _ _ _ _ _ (by omega) (by simpa using h0) (by simpa using h0) H (fun w => clone x hx w) w
theorem tk_s (l : List UInt8) : (tk l).s.length ≤ l.length := by
  unfold tk
  split
  · simp [Pt.no]
  split
  · split
    · simp [Pt.no]
    · split
      · simp [Pt.no]
      · simp
  split
  · split
    · simp [Pt.no]
    · split
      · simp [Pt.no]
      · simp
  · simp [Pt.no]
theorem bool_bs (L : List UInt8) : (bs L).toList = [] ↔ (bs L).toList.isEmpty = true := by simp
theorem applyPatch_any (x p : ByteArray) (th : Bool) (hx : x.size ≤ 1099511627776) (hp : p.size ≤ 1099511627776) (w : World) :
    Calls Tryz.prog 81 #[.string x, .bool th, .string p] w fun e w' => e = .returned (.tuple #[.string (bs (plc x.data.toList p.data.toList)), .bool (!decide ((bs (plc x.data.toList p.data.toList)).size = 0))]) ∧ Below w.heap.size w w' := by
  refine ap_any x p _ th _ _ _ _ _ _ rfl (bool_bs _) (fun w => Bk.take_any p hp w) (fun w => ?_) w
  exact Bk.apply_any x _ _ _ _ hx (by rw [bs_size]; have := tk_s p.data.toList; have := Lib.size_eq p; omega) w
theorem apply_any (m : Msg) (q x : ByteArray) (th : Bool) (hv : m.v.size ≤ 1099511627776) (hx : x.size ≤ 1099511627776) (w : World) :
    Calls Tryz.prog 22 #[m.val, .string q, .string x, .bool th] w fun e w' => e = .returned (.tuple #[.string (doV m q x th).1, .bool (doV m q x th).2]) ∧ Below w.heap.size w w' := by
  have H := touches_any m q hv
  have hx0 := val0_size th hx
  have hor := val0_or x th
  unfold doV
  generalize val0 x th = x' at *
  cases ht : tch m q with
  | false =>
    rw [ht] at H
    rw [if_pos rfl]
    obtain ⟨o, k, t, v⟩ := m
    exact apply_not o k t v q x x' th hor H (fun w => clone x' hx0 w) w
  | true =>
    rw [ht] at H
    rw [if_neg (by simp)]
    have hm : may m = true := by unfold tch at ht; simp only [Bool.and_eq_true] at ht; exact ht.1
    obtain ⟨o, k, t, v⟩ := m
    dsimp only at hv ⊢
    have ho := may_ops hm
    dsimp only at ho
    rcases ho with rfl | rfl | rfl | rfl
    · rw [if_pos rfl]
      exact apply_1 k t v q x th H (fun w => clone v hv w) w
    · rw [if_neg (by decide), if_pos rfl]
      have hk := may_4k hm
      have hkq : k = q := by
        unfold tch at ht
        simp only [Bool.and_eq_true] at ht
        rw [if_neg (by decide)] at ht
        simpa using ht.2
      subst hkq
      obtain ⟨h1, ⟨h2, h3⟩ | ⟨h2, h3, h4⟩⟩ := hk
      · rw [if_pos h2]
        have F := fun w => applyChange_any x' v th hx0 hv h3 w
        have R := rules_m k h1 h2
        have e : (if takeE x'.data.toList = 0 then (bs (chg x'.data.toList v.data.toList), true) else (x', th)) = (if takeE x'.data.toList = 0 then bs (chg x'.data.toList v.data.toList) else x', if takeE x'.data.toList = 0 then true else th) := by split <;> rfl
        rw [e]
        exact apply_4 k t v k x x' _ th _ hor 76 77 78 H R call78 F w
      · rw [if_neg h2]
        have F := fun w => applyPatch_any x' v th hx0 hv w
        exact apply_4 k t v k x x' _ th _ hor 79 80 81 H (rules_d k h1 h2 h3) call81 F w
    · rw [if_neg (by decide), if_neg (by decide)]
      exact apply_23 2 rfl rfl k t v q x th H w
    · rw [if_neg (by decide), if_neg (by decide)]
      exact apply_23 3 rfl rfl k t v q x th H w
end Go.Proofs.YthledgkjfjdjoaaGreat.Ms
