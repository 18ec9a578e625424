/- Keys, the rules of values, and which messages may be. Conditions: lengths below 2^40. -/
import Derived.Test.YthledgkjfjdjoaaGreatMs
import Derived.Test.YthledgkjfjdjoaaGreatBkK
import Derived.Test.YthledgkjfjdjoaaGreatMtF
import Derived.Test.YthledgkjfjdjoaaGreatFr
namespace Go.Proofs.YthledgkjfjdjoaaGreat.Ms
open Go.ChangeShapes Go.WideShapes Go.RowKit Go.Codec Go.Mt Go.Blk
set_option maxRecDepth 100000
set_option linter.unusedSimpArgs false
set_option linter.unusedVariables false
theorem size_nil {s : ByteArray} : s.size = 0 ↔ s = ⟨#[]⟩ := ⟨empty_of_size, fun h => by subst h; rfl⟩
theorem list_nil {s : ByteArray} : s.toList = [] ↔ s.size = 0 := by
  rw [Lib.toList_data, Lib.size_eq]; exact List.length_eq_zero_iff.symm
theorem isEmpty_size {s : ByteArray} : s.toList.isEmpty = decide (s.size = 0) := by
  rw [Bool.eq_iff_iff]; simp [list_nil]
theorem isKey_any (k : ByteArray) (w : World) : Calls Tryz.prog 62 #[.string k] w fun e w' => e = .returned (.bool (key k)) ∧ Below w.heap.size w w' := by
  by_cases h0 : k.size = 0
  · have e := size_nil.1 h0
    subst e
    go_enter Tryz.func62, Tryz.ntmps62
    go_wp2
    go_ret
    exact ⟨rfl, Below.refl _ _⟩
  · go_enter Tryz.func62, Tryz.ntmps62
    go_wp2
    · exact absurd (list_nil.1 (by assumption)) h0
    · go_ret
      refine ⟨Bk.ret_bool ?_, Below.refl _ _⟩
      rw [isEmpty_size, decide_eq_false h0, key]
      rw [Bool.eq_iff_iff]
      simp
      omega
theorem has93_any (k : ByteArray) (c : UInt8) (w : World) : Calls Tryz.prog 93 #[.string k, .string ⟨#[c]⟩] w fun e w' => e = .returned (.bool (decide (1 ≤ k.size) && decide (hd k = c))) ∧ Below w.heap.size w w' := by
  by_cases h0 : k.size = 0
  · have e := size_nil.1 h0
    subst e
    go_enter Tryz.func93, Tryz.ntmps93
    go_wp2
    go_ret
    exact ⟨rfl, Below.refl _ _⟩
  · go_enter Tryz.func93, Tryz.ntmps93
    go_wp2
    go_ret
    refine ⟨Bk.ret_bool ?_, Below.refl _ _⟩
    rw [decide_eq_true (by omega : 1 ≤ k.size), Bool.true_and, Lib.toList_data]
    obtain ⟨⟨l⟩⟩ := k
    cases l with
    | nil => exact absurd rfl h0
    | cons b l => 
      rw [Bool.eq_iff_iff]
      simp [hd, byte]
theorem has_any (k : ByteArray) (c : UInt8) (w : World) : Calls Tryz.prog 57 #[.string k, .string ⟨#[c]⟩] w fun e w' => e = .returned (.bool (decide (1 ≤ k.size) && decide (hd k = c))) ∧ Below w.heap.size w w' := by
  have H := has93_any k c
  go_enter Tryz.func57, Tryz.ntmps57
  go_wp2_with fail
  refine (H _).mono ?_; rintro e w1 ⟨rfl, hb⟩
  go_wp2
  go_ret
  exact ⟨rfl, hb⟩
theorem box3 {w wx : World} {t : TypeId} {a b c : Value} (h : Bk.Box w t #[a, b, c] wx) : (wx.cell? ⟨w.heap.size, 0, none⟩ = some a ∧ wx.cell? ⟨w.heap.size, 1, none⟩ = some b ∧ wx.cell? ⟨w.heap.size, 2, none⟩ = some c) ∧ (wx.frozen? ⟨w.heap.size, 0, none⟩ = false ∧ wx.frozen? ⟨w.heap.size, 1, none⟩ = false ∧ wx.frozen? ⟨w.heap.size, 2, none⟩ = false) ∧ w.heap.size < wx.heap.size :=
  ⟨⟨h.one.cell 0, h.one.cell 1, h.one.cell 2⟩, ⟨h.one.frozen 0, h.one.frozen 1, h.one.frozen 2⟩, h.one.lt⟩
theorem box3_put {w wx : World} {t : TypeId} {a b c : Value} (h : Bk.Box w t #[a, b, c] wx) (a' b' c' : Value) : Bk.Box w t #[a', b', c'] (((wx.setCell ⟨w.heap.size, 0, none⟩ a').setCell ⟨w.heap.size, 1, none⟩ b').setCell ⟨w.heap.size, 2, none⟩ c') := by
  refine ⟨((h.below.setCell (Nat.le_refl _) _).setCell (Nat.le_refl _) _).setCell (Nat.le_refl _) _, ?_⟩
  have h1 := ((h.one.put 0 a').put 1 b').put 2 c'
  simp at h1
  exact h1
theorem rules_m (k : ByteArray) (h1 : 1 ≤ k.size) (h : hd k = 109) (w : World) : Calls Tryz.prog 49 #[.string k] w fun e w' => e = .returned (.agg #[.func (.func 76) #[] #[], .func (.func 77) #[] #[], .func (.func 78) #[] #[]]) ∧ Below w.heap.size w w' := by
  have H := has_any k 109
  rw [decide_eq_true h1, decide_eq_true h] at H
  clear h
  have HX := Lib.hid (Bk.Box.new w 79 #[.nilFunc, .nilFunc, .nilFunc])
  go_enter Tryz.func49, Tryz.ntmps49
  go_wp2_with fail
  refine (H _).mono ?_; rintro e w1 ⟨rfl, hb⟩
  replace HX := Lib.hid (HX.out.later hb); clear hb
  obtain ⟨⟨c0, c1, c2⟩, ⟨f0, f1, f2⟩, hl⟩ := box3 HX.out
  have HZ := Lib.hid (box3_put HX.out (.func (.func 76) #[] #[]) (.func (.func 77) #[] #[]) (.func (.func 78) #[] #[]))
  clear HX
  go_wp2_with fail
  obtain ⟨⟨d0, d1, d2⟩, -, hlz⟩ := box3 HZ.out
  exact bodyPost_ret (v := .agg #[.func (.func 76) #[] #[], .func (.func 77) #[] #[], .func (.func 78) #[] #[]]) (by simp [results, Tryz.results49, go_sem, d0, d1, d2, hlz]) rfl ⟨rfl, HZ.out.below⟩
theorem rules_d (k : ByteArray) (h1 : 1 ≤ k.size) (h : hd k ≠ 109) (h2 : hd k = 100) (w : World) : Calls Tryz.prog 49 #[.string k] w fun e w' => e = .returned (.agg #[.func (.func 79) #[] #[], .func (.func 80) #[] #[], .func (.func 81) #[] #[]]) ∧ Below w.heap.size w w' := by
  have H := has_any k 109
  have H2 := has_any k 100
  rw [decide_eq_false h, Bool.and_false] at H
  rw [decide_eq_true h1, decide_eq_true h2] at H2
  clear h h2
  have HX := Lib.hid (Bk.Box.new w 79 #[.nilFunc, .nilFunc, .nilFunc])
  go_enter Tryz.func49, Tryz.ntmps49
  go_wp2_with fail
  refine (H _).mono ?_; rintro e w1 ⟨rfl, hb⟩
  replace HX := Lib.hid (HX.out.later hb); clear hb
  go_wp2_with fail
  refine (H2 _).mono ?_; rintro e w2 ⟨rfl, hb⟩
  replace HX := Lib.hid (HX.out.later hb); clear hb
  obtain ⟨⟨c0, c1, c2⟩, ⟨f0, f1, f2⟩, hl⟩ := box3 HX.out
  have HZ := Lib.hid (box3_put HX.out (.func (.func 79) #[] #[]) (.func (.func 80) #[] #[]) (.func (.func 81) #[] #[]))
  clear HX
  go_wp2_with fail
  obtain ⟨⟨d0, d1, d2⟩, -, hlz⟩ := box3 HZ.out
  exact bodyPost_ret (v := .agg #[.func (.func 79) #[] #[], .func (.func 80) #[] #[], .func (.func 81) #[] #[]]) (by simp [results, Tryz.results49, go_sem, d0, d1, d2, hlz]) rfl ⟨rfl, HZ.out.below⟩
theorem rules_o (k : ByteArray) (h : hd k ≠ 109) (h2 : hd k ≠ 100) (w : World) : Calls Tryz.prog 49 #[.string k] w fun e w' => e = .returned (.agg #[.func (.func 82) #[] #[], .func (.func 83) #[] #[], .nilFunc]) ∧ Below w.heap.size w w' := by
  have H := has_any k 109
  have H2 := has_any k 100
  rw [decide_eq_false h, Bool.and_false] at H
  rw [decide_eq_false h2, Bool.and_false] at H2
  clear h h2
  have HX := Lib.hid (Bk.Box.new w 79 #[.nilFunc, .nilFunc, .nilFunc])
  go_enter Tryz.func49, Tryz.ntmps49
  go_wp2_with fail
  refine (H _).mono ?_; rintro e w1 ⟨rfl, hb⟩
  replace HX := Lib.hid (HX.out.later hb); clear hb
  go_wp2_with fail
  refine (H2 _).mono ?_; rintro e w2 ⟨rfl, hb⟩
  replace HX := Lib.hid (HX.out.later hb); clear hb
  obtain ⟨⟨c0, c1, c2⟩, ⟨f0, f1, f2⟩, hl⟩ := box3 HX.out
  have HZ := Lib.hid (box3_put HX.out (.func (.func 82) #[] #[]) (.func (.func 83) #[] #[]) (.nilFunc))
  clear HX
  go_wp2_with fail
  obtain ⟨⟨d0, d1, d2⟩, -, hlz⟩ := box3 HZ.out
  exact bodyPost_ret (v := .agg #[.func (.func 82) #[] #[], .func (.func 83) #[] #[], .nilFunc]) (by simp [results, Tryz.results49, go_sem, d0, d1, d2, hlz]) rfl ⟨rfl, HZ.out.below⟩
theorem below_alloc2 {a b : World} (h : Below a.heap.size a b) (o : Obj) : Below a.heap.size a (b.alloc o) := h.alloc h.size _
theorem isMeta_of (v : ByteArray) (a b c d : Int) (E : Nat) (h : ∀ w, Calls Tryz.prog 103 #[.string v] w fun e w' => e = .returned (.tuple #[.agg #[.int .u8 a, .int .u32 b, .int .u64 c, .int .u64 d], .int .i64 E]) ∧ Below w.heap.size w w') (w : World) : Calls Tryz.prog 76 #[.string v] w fun e w' => e = .returned (.bool (decide (E = 0))) ∧ Below w.heap.size w w' := by
  go_enter Tryz.func76, Tryz.ntmps76
  go_wp2_with fail
  refine (h _).mono ?_; rintro e w1 ⟨rfl, hb⟩
  have HB := Lib.hid (below_alloc2 hb); clear hb
  go_wp2_with fail
  go_ret
  exact ⟨Bk.ret_bool (Bool.eq_iff_iff.2 (by simp)), HB.out _⟩
theorem isChange_of (v : ByteArray) (a b c d : Int) (E : Nat) (h : ∀ w, Calls Tryz.prog 104 #[.string v] w fun e w' => e = .returned (.tuple #[.agg #[.int .u8 a, .int .u64 b, .int .u8 c, .int .u64 d], .int .i64 E]) ∧ Below w.heap.size w w') (w : World) : Calls Tryz.prog 77 #[.string v] w fun e w' => e = .returned (.bool (decide (E = 0))) ∧ Below w.heap.size w w' := by
  go_enter Tryz.func77, Tryz.ntmps77
  go_wp2_with fail
  refine (h _).mono ?_; rintro e w1 ⟨rfl, hb⟩
  have HB := Lib.hid (below_alloc2 hb); clear hb
  go_wp2_with fail
  go_ret
  exact ⟨Bk.ret_bool (Bool.eq_iff_iff.2 (by simp)), HB.out _⟩
theorem isPatch_of (v : ByteArray) (a : Bool) (b c : Int) (d : ByteArray) (E : Nat) (h : ∀ w, Calls Tryz.prog 108 #[.string v] w fun e w' => e = .returned (.tuple #[.agg #[.bool a, .int .i64 b, .int .i64 c, .string d], .int .i64 E]) ∧ Below w.heap.size w w') (w : World) : Calls Tryz.prog 80 #[.string v] w fun e w' => e = .returned (.bool (decide (E = 0))) ∧ Below w.heap.size w w' := by
  go_enter Tryz.func80, Tryz.ntmps80
  go_wp2_with fail
  refine (h _).mono ?_; rintro e w1 ⟨rfl, hb⟩
  have HB := Lib.hid (below_alloc2 hb); clear hb
  go_wp2_with fail
  go_ret
  exact ⟨Bk.ret_bool (Bool.eq_iff_iff.2 (by simp)), HB.out _⟩
theorem isMeta_any (v : ByteArray) (hs : v.size ≤ 1099511627776) (w : World) : Calls Tryz.prog 76 #[.string v] w fun e w' => e = .returned (.bool (decide (takeE v.data.toList = 0))) ∧ Below w.heap.size w w' := isMeta_of v _ _ _ _ _ (fun w => Mt.take_any v hs w) w
theorem isChange_any (v : ByteArray) (hs : v.size ≤ 1099511627776) (w : World) : Calls Tryz.prog 77 #[.string v] w fun e w' => e = .returned (.bool (decide (takeCE v.data.toList = 0))) ∧ Below w.heap.size w w' := isChange_of v _ _ _ _ _ (fun w => Mt.takeChange_any v _ rfl hs w) w
theorem isPatch_any (v : ByteArray) (hs : v.size ≤ 1099511627776) (w : World) : Calls Tryz.prog 80 #[.string v] w fun e w' => e = .returned (.bool (decide ((tk v.data.toList).e = 0))) ∧ Below w.heap.size w w' := isPatch_of v _ _ _ _ _ (fun w => Bk.take_any v hs w) w
theorem isBlock_any (v : ByteArray) (hs : v.size ≤ 1099511627776) (w : World) : Calls Tryz.prog 79 #[.string v] w fun e w' => e = .returned (.bool (decide (ckV v.data.toList = 0))) ∧ Below w.heap.size w w' := by
  have H := fun w => Bk.check_any v hs w
  go_enter Tryz.func79, Tryz.ntmps79
  go_wp2_with fail
  refine (H _).mono ?_; rintro e w1 ⟨rfl, rfl⟩
  go_wp2_with fail
  go_ret
  exact ⟨Bk.ret_bool (Bool.eq_iff_iff.2 (by simp)), Below.refl _ _⟩
theorem isShort_any (v : ByteArray) (w : World) : Calls Tryz.prog 82 #[.string v] w fun e w' => e = .returned (.bool (decide (v.size ≤ 64))) ∧ Below w.heap.size w w' := by
  go_enter Tryz.func82, Tryz.ntmps82
  go_wp2
  go_ret
  exact ⟨Bk.ret_bool (Bool.eq_iff_iff.2 (by simp; omega)), Below.refl _ _⟩
theorem isNone_any (v : ByteArray) (w : World) : Calls Tryz.prog 83 #[.string v] w fun e w' => e = .returned (.bool false) ∧ Below w.heap.size w w' := by
  go_enter Tryz.func83, Tryz.ntmps83
  go_wp2
  go_ret
  exact ⟨rfl, Below.refl _ _⟩
theorem fld0 (a b : Nat) (F : Value) (w : World) : (Instr.field 79 (.agg #[.func (.func a) #[] #[], .func (.func b) #[] #[], F]) 0).run Tryz.prog w = .ok (.func (.func a) #[] #[]) w := by kernel_rfl
theorem fld1 (a b : Nat) (F : Value) (w : World) : (Instr.field 79 (.agg #[.func (.func a) #[] #[], .func (.func b) #[] #[], F]) 1).run Tryz.prog w = .ok (.func (.func b) #[] #[]) w := by kernel_rfl
theorem fld2 (a b c : Nat) (w : World) : (Instr.field 79 (.agg #[.func (.func a) #[] #[], .func (.func b) #[] #[], .func (.func c) #[] #[]]) 2).run Tryz.prog w = .ok (.func (.func c) #[] #[]) w := by kernel_rfl
theorem call76 (args : Array Value) (w : World) : (callFunc 76 args).run Tryz.prog w = .ok (.enter 76 args) w := by kernel_rfl
theorem call77 (args : Array Value) (w : World) : (callFunc 77 args).run Tryz.prog w = .ok (.enter 77 args) w := by kernel_rfl
theorem call78 (args : Array Value) (w : World) : (callFunc 78 args).run Tryz.prog w = .ok (.enter 78 args) w := by kernel_rfl
theorem call79 (args : Array Value) (w : World) : (callFunc 79 args).run Tryz.prog w = .ok (.enter 79 args) w := by kernel_rfl
theorem call80 (args : Array Value) (w : World) : (callFunc 80 args).run Tryz.prog w = .ok (.enter 80 args) w := by kernel_rfl
theorem call81 (args : Array Value) (w : World) : (callFunc 81 args).run Tryz.prog w = .ok (.enter 81 args) w := by kernel_rfl
theorem call82 (args : Array Value) (w : World) : (callFunc 82 args).run Tryz.prog w = .ok (.enter 82 args) w := by kernel_rfl
theorem call83 (args : Array Value) (w : World) : (callFunc 83 args).run Tryz.prog w = .ok (.enter 83 args) w := by kernel_rfl
theorem may_no (k t v : ByteArray) (o : Int) (h0 : ∀ w, Calls Tryz.prog 62 #[.string k] w fun e w' => e = .returned (.bool false) ∧ Below w.heap.size w w')  (w : World) : Calls Tryz.prog 33 #[.agg #[.int .i64 o, .string k, .string t, .string v]] w fun e w' => e = .returned (.bool false) ∧ Below w.heap.size w w' := by
  have e0 := fld0; have e1 := fld1
  have HX := Lib.hid (Bk.Box.new w 23 #[.int .i64 o, .string k, .string t, .string v])
  go_enter Tryz.func33, Tryz.ntmps33
  go_wp2_with fail
  refine (h0 _).mono ?_; rintro e w1 ⟨rfl, hb⟩
  replace HX := Lib.hid (HX.out.later hb); clear hb
  obtain ⟨c0, c1, c2, c3⟩ := HX.out.cells
  go_wp2_with fail
  go_ret
  exact ⟨rfl, HX.out.below⟩
theorem may_1n (k t v : ByteArray) (f g : Nat) (F : Value) (hR : ∀ w, Calls Tryz.prog 49 #[.string k] w fun e w' => e = .returned (.agg #[.func (.func f) #[] #[], .func (.func g) #[] #[], F]) ∧ Below w.heap.size w w') (h0 : ∀ w, Calls Tryz.prog 62 #[.string k] w fun e w' => e = .returned (.bool true) ∧ Below w.heap.size w w') (ht : ¬ t.toList = []) (ht2 : t.toList.isEmpty = false) (w : World) : Calls Tryz.prog 33 #[.agg #[.int .i64 1, .string k, .string t, .string v]] w fun e w' => e = .returned (.bool false) ∧ Below w.heap.size w w' := by
  have e0 := fld0; have e1 := fld1
  have HX := Lib.hid (Bk.Box.new w 23 #[.int .i64 1, .string k, .string t, .string v])
  go_enter Tryz.func33, Tryz.ntmps33
  go_wp2_with fail
  refine (h0 _).mono ?_; rintro e w1 ⟨rfl, hb⟩
  replace HX := Lib.hid (HX.out.later hb); clear hb
  obtain ⟨c0, c1, c2, c3⟩ := HX.out.cells
  go_wp2_with fail
  refine (hR _).mono ?_; rintro e w2 ⟨rfl, hb⟩
  replace HX := Lib.hid (HX.out.later hb); clear hb c0 c1 c2 c3
  obtain ⟨c0, c1, c2, c3⟩ := HX.out.cells
  go_wp2_with fail
  refine (hR _).mono ?_; rintro e w3 ⟨rfl, hb⟩
  replace HX := Lib.hid (HX.out.later hb); clear hb c0 c1 c2 c3
  obtain ⟨c0, c1, c2, c3⟩ := HX.out.cells
  go_wp2_with fail
  go_ret
  exact ⟨rfl, HX.out.below⟩
theorem may_1 (k t v : ByteArray) (f g : Nat) (F : Value) (hR : ∀ w, Calls Tryz.prog 49 #[.string k] w fun e w' => e = .returned (.agg #[.func (.func f) #[] #[], .func (.func g) #[] #[], F]) ∧ Below w.heap.size w w') (hc : ∀ args w, (callFunc f args).run Tryz.prog w = .ok (.enter f args) w) (b : Bool) (hf : ∀ w, Calls Tryz.prog f #[.string v] w fun e w' => e = .returned (.bool b) ∧ Below w.heap.size w w') (h0 : ∀ w, Calls Tryz.prog 62 #[.string k] w fun e w' => e = .returned (.bool true) ∧ Below w.heap.size w w') (ht : t.toList = []) (ht2 : t.toList.isEmpty = true) (w : World) : Calls Tryz.prog 33 #[.agg #[.int .i64 1, .string k, .string t, .string v]] w fun e w' => e = .returned (.bool b) ∧ Below w.heap.size w w' := by
  have e0 := fld0; have e1 := fld1
  have HX := Lib.hid (Bk.Box.new w 23 #[.int .i64 1, .string k, .string t, .string v])
  go_enter Tryz.func33, Tryz.ntmps33
  go_wp2_with fail
  refine (h0 _).mono ?_; rintro e w1 ⟨rfl, hb⟩
  replace HX := Lib.hid (HX.out.later hb); clear hb
  obtain ⟨c0, c1, c2, c3⟩ := HX.out.cells
  go_wp2_with fail
  refine (hR _).mono ?_; rintro e w2 ⟨rfl, hb⟩
  replace HX := Lib.hid (HX.out.later hb); clear hb c0 c1 c2 c3
  obtain ⟨c0, c1, c2, c3⟩ := HX.out.cells
  go_wp2_with fail
  refine (hR _).mono ?_; rintro e w3 ⟨rfl, hb⟩
  replace HX := Lib.hid (HX.out.later hb); clear hb c0 c1 c2 c3
  obtain ⟨c0, c1, c2, c3⟩ := HX.out.cells
  go_wp2_with fail
  refine (hf _).mono ?_; rintro e w4 ⟨rfl, hb⟩
  replace HX := Lib.hid (HX.out.later hb); clear hb c0 c1 c2 c3
  obtain ⟨c0, c1, c2, c3⟩ := HX.out.cells
  go_wp2_with fail
  go_ret
  exact ⟨rfl, HX.out.below⟩
theorem may_4n (k t v : ByteArray) (f g : Nat) (F : Value) (hR : ∀ w, Calls Tryz.prog 49 #[.string k] w fun e w' => e = .returned (.agg #[.func (.func f) #[] #[], .func (.func g) #[] #[], F]) ∧ Below w.heap.size w w') (h0 : ∀ w, Calls Tryz.prog 62 #[.string k] w fun e w' => e = .returned (.bool true) ∧ Below w.heap.size w w') (ht : ¬ t.toList = []) (ht2 : t.toList.isEmpty = false) (w : World) : Calls Tryz.prog 33 #[.agg #[.int .i64 4, .string k, .string t, .string v]] w fun e w' => e = .returned (.bool false) ∧ Below w.heap.size w w' := by
  have e0 := fld0; have e1 := fld1
  have HX := Lib.hid (Bk.Box.new w 23 #[.int .i64 4, .string k, .string t, .string v])
  go_enter Tryz.func33, Tryz.ntmps33
  go_wp2_with fail
  refine (h0 _).mono ?_; rintro e w1 ⟨rfl, hb⟩
  replace HX := Lib.hid (HX.out.later hb); clear hb
  obtain ⟨c0, c1, c2, c3⟩ := HX.out.cells
  go_wp2_with fail
  refine (hR _).mono ?_; rintro e w2 ⟨rfl, hb⟩
  replace HX := Lib.hid (HX.out.later hb); clear hb c0 c1 c2 c3
  obtain ⟨c0, c1, c2, c3⟩ := HX.out.cells
  go_wp2_with fail
  go_ret
  exact ⟨rfl, HX.out.below⟩
theorem may_4 (k t v : ByteArray) (f g : Nat) (F : Value) (hR : ∀ w, Calls Tryz.prog 49 #[.string k] w fun e w' => e = .returned (.agg #[.func (.func f) #[] #[], .func (.func g) #[] #[], F]) ∧ Below w.heap.size w w') (hc : ∀ args w, (callFunc g args).run Tryz.prog w = .ok (.enter g args) w) (b : Bool) (hf : ∀ w, Calls Tryz.prog g #[.string v] w fun e w' => e = .returned (.bool b) ∧ Below w.heap.size w w') (h0 : ∀ w, Calls Tryz.prog 62 #[.string k] w fun e w' => e = .returned (.bool true) ∧ Below w.heap.size w w') (ht : t.toList = []) (ht2 : t.toList.isEmpty = true) (w : World) : Calls Tryz.prog 33 #[.agg #[.int .i64 4, .string k, .string t, .string v]] w fun e w' => e = .returned (.bool b) ∧ Below w.heap.size w w' := by
  have e0 := fld0; have e1 := fld1
  have HX := Lib.hid (Bk.Box.new w 23 #[.int .i64 4, .string k, .string t, .string v])
  go_enter Tryz.func33, Tryz.ntmps33
  go_wp2_with fail
  refine (h0 _).mono ?_; rintro e w1 ⟨rfl, hb⟩
  replace HX := Lib.hid (HX.out.later hb); clear hb
  obtain ⟨c0, c1, c2, c3⟩ := HX.out.cells
  go_wp2_with fail
  refine (hR _).mono ?_; rintro e w2 ⟨rfl, hb⟩
  replace HX := Lib.hid (HX.out.later hb); clear hb c0 c1 c2 c3
  obtain ⟨c0, c1, c2, c3⟩ := HX.out.cells
  go_wp2_with fail
  refine (hf _).mono ?_; rintro e w3 ⟨rfl, hb⟩
  replace HX := Lib.hid (HX.out.later hb); clear hb c0 c1 c2 c3
  obtain ⟨c0, c1, c2, c3⟩ := HX.out.cells
  go_wp2_with fail
  go_ret
  exact ⟨rfl, HX.out.below⟩
theorem may_2n (k t v : ByteArray) (f g : Nat) (F : Value) (hR : ∀ w, Calls Tryz.prog 49 #[.string k] w fun e w' => e = .returned (.agg #[.func (.func f) #[] #[], .func (.func g) #[] #[], F]) ∧ Below w.heap.size w w') (h0 : ∀ w, Calls Tryz.prog 62 #[.string k] w fun e w' => e = .returned (.bool true) ∧ Below w.heap.size w w') (ht : ¬ t.toList = []) (ht2 : t.toList.isEmpty = false) (w : World) : Calls Tryz.prog 33 #[.agg #[.int .i64 2, .string k, .string t, .string v]] w fun e w' => e = .returned (.bool false) ∧ Below w.heap.size w w' := by
  have e0 := fld0; have e1 := fld1
  have HX := Lib.hid (Bk.Box.new w 23 #[.int .i64 2, .string k, .string t, .string v])
  go_enter Tryz.func33, Tryz.ntmps33
  go_wp2_with fail
  refine (h0 _).mono ?_; rintro e w1 ⟨rfl, hb⟩
  replace HX := Lib.hid (HX.out.later hb); clear hb
  obtain ⟨c0, c1, c2, c3⟩ := HX.out.cells
  go_wp2_with fail
  refine (hR _).mono ?_; rintro e w2 ⟨rfl, hb⟩
  replace HX := Lib.hid (HX.out.later hb); clear hb c0 c1 c2 c3
  obtain ⟨c0, c1, c2, c3⟩ := HX.out.cells
  go_wp2_with fail
  go_ret
  exact ⟨rfl, HX.out.below⟩
theorem may_2 (k t v : ByteArray) (f g : Nat) (F : Value) (hR : ∀ w, Calls Tryz.prog 49 #[.string k] w fun e w' => e = .returned (.agg #[.func (.func f) #[] #[], .func (.func g) #[] #[], F]) ∧ Below w.heap.size w w') (h0 : ∀ w, Calls Tryz.prog 62 #[.string k] w fun e w' => e = .returned (.bool true) ∧ Below w.heap.size w w') (ht : t.toList = []) (ht2 : t.toList.isEmpty = true) (b : Bool) (hv : v.toList.isEmpty = b) (w : World) : Calls Tryz.prog 33 #[.agg #[.int .i64 2, .string k, .string t, .string v]] w fun e w' => e = .returned (.bool b) ∧ Below w.heap.size w w' := by
  have e0 := fld0; have e1 := fld1
  have HX := Lib.hid (Bk.Box.new w 23 #[.int .i64 2, .string k, .string t, .string v])
  go_enter Tryz.func33, Tryz.ntmps33
  go_wp2_with fail
  refine (h0 _).mono ?_; rintro e w1 ⟨rfl, hb⟩
  replace HX := Lib.hid (HX.out.later hb); clear hb
  obtain ⟨c0, c1, c2, c3⟩ := HX.out.cells
  go_wp2_with fail
  refine (hR _).mono ?_; rintro e w2 ⟨rfl, hb⟩
  replace HX := Lib.hid (HX.out.later hb); clear hb c0 c1 c2 c3
  obtain ⟨c0, c1, c2, c3⟩ := HX.out.cells
  go_wp2_with fail
  go_ret
  exact ⟨rfl, HX.out.below⟩
theorem may_3a (k t v : ByteArray) (f g : Nat) (F : Value) (hR : ∀ w, Calls Tryz.prog 49 #[.string k] w fun e w' => e = .returned (.agg #[.func (.func f) #[] #[], .func (.func g) #[] #[], F]) ∧ Below w.heap.size w w') (h0 : ∀ w, Calls Tryz.prog 62 #[.string k] w fun e w' => e = .returned (.bool true) ∧ Below w.heap.size w w') (hl : Op.bytesLess k.toList t.toList = false) (w : World) : Calls Tryz.prog 33 #[.agg #[.int .i64 3, .string k, .string t, .string v]] w fun e w' => e = .returned (.bool false) ∧ Below w.heap.size w w' := by
  have e0 := fld0; have e1 := fld1
  have HX := Lib.hid (Bk.Box.new w 23 #[.int .i64 3, .string k, .string t, .string v])
  go_enter Tryz.func33, Tryz.ntmps33
  go_wp2_with fail
  refine (h0 _).mono ?_; rintro e w1 ⟨rfl, hb⟩
  replace HX := Lib.hid (HX.out.later hb); clear hb
  obtain ⟨c0, c1, c2, c3⟩ := HX.out.cells
  go_wp2_with fail
  refine (hR _).mono ?_; rintro e w2 ⟨rfl, hb⟩
  replace HX := Lib.hid (HX.out.later hb); clear hb c0 c1 c2 c3
  obtain ⟨c0, c1, c2, c3⟩ := HX.out.cells
  go_wp2_with fail
  go_ret
  exact ⟨rfl, HX.out.below⟩
theorem may_3b (k t v : ByteArray) (f g : Nat) (F : Value) (hR : ∀ w, Calls Tryz.prog 49 #[.string k] w fun e w' => e = .returned (.agg #[.func (.func f) #[] #[], .func (.func g) #[] #[], F]) ∧ Below w.heap.size w w') (h0 : ∀ w, Calls Tryz.prog 62 #[.string k] w fun e w' => e = .returned (.bool true) ∧ Below w.heap.size w w') (hl : Op.bytesLess k.toList t.toList = true) (h6 : ∀ w, Calls Tryz.prog 62 #[.string t] w fun e w' => e = .returned (.bool false) ∧ Below w.heap.size w w') (w : World) : Calls Tryz.prog 33 #[.agg #[.int .i64 3, .string k, .string t, .string v]] w fun e w' => e = .returned (.bool false) ∧ Below w.heap.size w w' := by
  have e0 := fld0; have e1 := fld1
  have HX := Lib.hid (Bk.Box.new w 23 #[.int .i64 3, .string k, .string t, .string v])
  go_enter Tryz.func33, Tryz.ntmps33
  go_wp2_with fail
  refine (h0 _).mono ?_; rintro e w1 ⟨rfl, hb⟩
  replace HX := Lib.hid (HX.out.later hb); clear hb
  obtain ⟨c0, c1, c2, c3⟩ := HX.out.cells
  go_wp2_with fail
  refine (hR _).mono ?_; rintro e w2 ⟨rfl, hb⟩
  replace HX := Lib.hid (HX.out.later hb); clear hb c0 c1 c2 c3
  obtain ⟨c0, c1, c2, c3⟩ := HX.out.cells
  go_wp2_with fail
  refine (h6 _).mono ?_; rintro e w3 ⟨rfl, hb⟩
  replace HX := Lib.hid (HX.out.later hb); clear hb c0 c1 c2 c3
  obtain ⟨c0, c1, c2, c3⟩ := HX.out.cells
  go_wp2_with fail
  go_ret
  exact ⟨rfl, HX.out.below⟩
theorem may_3 (k t v : ByteArray) (f g : Nat) (F : Value) (hR : ∀ w, Calls Tryz.prog 49 #[.string k] w fun e w' => e = .returned (.agg #[.func (.func f) #[] #[], .func (.func g) #[] #[], F]) ∧ Below w.heap.size w w') (h0 : ∀ w, Calls Tryz.prog 62 #[.string k] w fun e w' => e = .returned (.bool true) ∧ Below w.heap.size w w') (hl : Op.bytesLess k.toList t.toList = true) (b : Bool) (hv : v.toList.isEmpty = b) (h6 : ∀ w, Calls Tryz.prog 62 #[.string t] w fun e w' => e = .returned (.bool true) ∧ Below w.heap.size w w') (w : World) : Calls Tryz.prog 33 #[.agg #[.int .i64 3, .string k, .string t, .string v]] w fun e w' => e = .returned (.bool b) ∧ Below w.heap.size w w' := by
  have e0 := fld0; have e1 := fld1
  have HX := Lib.hid (Bk.Box.new w 23 #[.int .i64 3, .string k, .string t, .string v])
  go_enter Tryz.func33, Tryz.ntmps33
  go_wp2_with fail
  refine (h0 _).mono ?_; rintro e w1 ⟨rfl, hb⟩
  replace HX := Lib.hid (HX.out.later hb); clear hb
  obtain ⟨c0, c1, c2, c3⟩ := HX.out.cells
  go_wp2_with fail
  refine (hR _).mono ?_; rintro e w2 ⟨rfl, hb⟩
  replace HX := Lib.hid (HX.out.later hb); clear hb c0 c1 c2 c3
  obtain ⟨c0, c1, c2, c3⟩ := HX.out.cells
  go_wp2_with fail
  refine (h6 _).mono ?_; rintro e w3 ⟨rfl, hb⟩
  replace HX := Lib.hid (HX.out.later hb); clear hb c0 c1 c2 c3
  obtain ⟨c0, c1, c2, c3⟩ := HX.out.cells
  go_wp2_with fail
  go_ret
  exact ⟨rfl, HX.out.below⟩
theorem may_x (k t v : ByteArray) (f g : Nat) (F : Value) (hR : ∀ w, Calls Tryz.prog 49 #[.string k] w fun e w' => e = .returned (.agg #[.func (.func f) #[] #[], .func (.func g) #[] #[], F]) ∧ Below w.heap.size w w') (o : Int) (n1 : (o == 1) = false) (n4 : (o == 4) = false) (n2 : (o == 2) = false) (n3 : (o == 3) = false) (h0 : ∀ w, Calls Tryz.prog 62 #[.string k] w fun e w' => e = .returned (.bool true) ∧ Below w.heap.size w w')  (w : World) : Calls Tryz.prog 33 #[.agg #[.int .i64 o, .string k, .string t, .string v]] w fun e w' => e = .returned (.bool false) ∧ Below w.heap.size w w' := by
  have e0 := fld0; have e1 := fld1
  have HX := Lib.hid (Bk.Box.new w 23 #[.int .i64 o, .string k, .string t, .string v])
  go_enter Tryz.func33, Tryz.ntmps33
  go_wp2_with fail
  refine (h0 _).mono ?_; rintro e w1 ⟨rfl, hb⟩
  replace HX := Lib.hid (HX.out.later hb); clear hb
  obtain ⟨c0, c1, c2, c3⟩ := HX.out.cells
  go_wp2_with fail
  refine (hR _).mono ?_; rintro e w2 ⟨rfl, hb⟩
  replace HX := Lib.hid (HX.out.later hb); clear hb c0 c1 c2 c3
  obtain ⟨c0, c1, c2, c3⟩ := HX.out.cells
  go_wp2_with fail
  go_ret
  exact ⟨rfl, HX.out.below⟩
theorem mayBe_any (m : Msg) (hv : m.v.size ≤ 1099511627776) (w : World) : Calls Tryz.prog 33 #[m.val] w fun e w' => e = .returned (.bool (may m)) ∧ Below w.heap.size w w' := by
  obtain ⟨o, k, t, v⟩ := m
  dsimp only at hv
  have H0 := isKey_any k
  unfold Msg.val
  dsimp only
  cases hk : key k with
  | false =>
    rw [hk] at H0
    rw [show may ⟨o, k, t, v⟩ = false by simp [may, hk]]
    exact may_no k t v o H0 w
  | true =>
    rw [hk] at H0
    have h1 : 1 ≤ k.size := by simp [key] at hk; exact hk.1
    have HT := isKey_any t
    have ht : t.toList = [] ↔ t.size = 0 := list_nil
    have hti : t.toList.isEmpty = decide (t.size = 0) := isEmpty_size
    have hvi : v.toList.isEmpty = decide (v.size = 0) := isEmpty_size
    have hV : ∃ (f g : Nat) (F : Value), (∀ w, Calls Tryz.prog 49 #[.string k] w fun e w' => e = .returned (.agg #[.func (.func f) #[] #[], .func (.func g) #[] #[], F]) ∧ Below w.heap.size w w') ∧ (∀ args w, (callFunc f args).run Tryz.prog w = .ok (.enter f args) w) ∧ (∀ args w, (callFunc g args).run Tryz.prog w = .ok (.enter g args) w) ∧ (∀ w, Calls Tryz.prog f #[.string v] w fun e w' => e = .returned (.bool (okV k v)) ∧ Below w.heap.size w w') ∧ (∀ w, Calls Tryz.prog g #[.string v] w fun e w' => e = .returned (.bool (okP k v)) ∧ Below w.heap.size w w') := by
      unfold okV okP
      by_cases hm : hd k = 109
      · simp only [if_pos hm]
        exact ⟨76, 77, _, rules_m k h1 hm, call76, call77, isMeta_any v hv, isChange_any v hv⟩
      · by_cases hdd : hd k = 100
        · simp only [if_neg hm, if_pos hdd]
          exact ⟨79, 80, _, rules_d k h1 hm hdd, call79, call80, isBlock_any v hv, isPatch_any v hv⟩
        · simp only [if_neg hm, if_neg hdd]
          exact ⟨82, 83, _, rules_o k hm hdd, call82, call83, isShort_any v, isNone_any v⟩
    obtain ⟨f, g, F, hR, hcf, hcg, hf, hg⟩ := hV
    unfold may
    dsimp only
    rw [hk, Bool.true_and]
    by_cases o1 : o = 1
    · subst o1
      rw [if_pos rfl]
      by_cases hz : t.size = 0
      · rw [decide_eq_true hz, Bool.true_and]
        exact may_1 k t v f g F hR hcf _ hf H0 (ht.2 hz) (by rw [hti, decide_eq_true hz]) w
      · rw [decide_eq_false hz, Bool.false_and]
        exact may_1n k t v f g F hR H0 (fun h => hz (ht.1 h)) (by rw [hti, decide_eq_false hz]) w
    rw [if_neg o1]
    by_cases o4 : o = 4
    · subst o4
      rw [if_pos rfl]
      by_cases hz : t.size = 0
      · rw [decide_eq_true hz, Bool.true_and]
        exact may_4 k t v f g F hR hcg _ hg H0 (ht.2 hz) (by rw [hti, decide_eq_true hz]) w
      · rw [decide_eq_false hz, Bool.false_and]
        exact may_4n k t v f g F hR H0 (fun h => hz (ht.1 h)) (by rw [hti, decide_eq_false hz]) w
    rw [if_neg o4]
    by_cases o2 : o = 2
    · subst o2
      rw [if_pos rfl]
      by_cases hz : t.size = 0
      · rw [decide_eq_true hz, Bool.true_and]
        exact may_2 k t v f g F hR H0 (ht.2 hz) (by rw [hti, decide_eq_true hz]) _ hvi w
      · rw [decide_eq_false hz, Bool.false_and]
        exact may_2n k t v f g F hR H0 (fun h => hz (ht.1 h)) (by rw [hti, decide_eq_false hz]) w
    rw [if_neg o2]
    by_cases o3 : o = 3
    · subst o3
      rw [if_pos rfl]
      cases hl : lt k t with
      | false => exact may_3a k t v f g F hR H0 hl w
      | true =>
        cases hkt : key t with
        | false =>
          rw [hkt] at HT
          exact may_3b k t v f g F hR H0 hl HT w
        | true =>
          rw [hkt] at HT
          rw [Bool.true_and, Bool.true_and]
          exact may_3 k t v f g F hR H0 hl _ hvi HT w
    rw [if_neg o3]
    exact may_x k t v f g F hR o (by simpa using o1) (by simpa using o4) (by simpa using o2) (by simpa using o3) H0 w
theorem check_any (m : Msg) (hv : m.v.size ≤ 1099511627776) (w : World) : Calls Tryz.prog 14 #[m.val] w fun e w' => e = .returned (.int .i64 (ck m : Nat)) ∧ Below w.heap.size w w' := by
  have H := mayBe_any m hv
  unfold ck
  obtain ⟨o, k, t, v⟩ := m
  unfold Msg.val at H ⊢
  dsimp only at H ⊢
  have HX := Lib.hid (Bk.Box.new w 23 #[.int .i64 o, .string k, .string t, .string v])
  cases hm : may ⟨o, k, t, v⟩ with
  | false =>
    rw [hm] at H
    rw [if_neg (by simp)]
    clear hm
    go_enter Tryz.func14, Tryz.ntmps14
    go_wp2_with fail
    refine (H _).mono ?_; rintro e w1 ⟨rfl, hb⟩
    replace HX := Lib.hid (HX.out.later hb); clear hb
    go_wp2_with fail
    go_ret
    exact ⟨rfl, HX.out.below⟩
  | true =>
    rw [hm] at H
    rw [if_pos rfl]
    clear hm
    go_enter Tryz.func14, Tryz.ntmps14
    go_wp2_with fail
    refine (H _).mono ?_; rintro e w1 ⟨rfl, hb⟩
    replace HX := Lib.hid (HX.out.later hb); clear hb
    go_wp2_with fail
    go_ret
    exact ⟨rfl, HX.out.below⟩
end Go.Proofs.YthledgkjfjdjoaaGreat.Ms
