/- A message's fields, and its text, by the program. Conditions: lengths below 2^40. -/
import Derived.Test.YthledgkjfjdjoaaGreatMsA
namespace Go.Proofs.YthledgkjfjdjoaaGreat.Ms
open Go.ChangeShapes Go.WideShapes Go.RowKit Go.Codec Go.Mt Go.Blk
set_option maxRecDepth 100000
set_option linter.unusedSimpArgs false
set_option linter.unusedVariables false
/-- What a message's fields are told as: a fresh row of pointers. -/
def Fields (cs : Array Value) (w : World) (e : Ending) (w' : World) : Prop :=
  e = .returned (.slice (some ⟨w.heap.size, 0, none⟩) cs.size cs.size) ∧ Is w' w.heap.size 62 cs ∧ Below w.heap.size w w'
/-- A pointer to a field. -/
def pf (g i : Nat) : Value := .pointer (some ⟨g, i, none⟩)
theorem fields_2 (g : Nat) (k t v : Value) (w : World) (h : Is w g 23 #[.int .i64 2, k, t, v]) : Calls Tryz.prog 35 #[.pointer (some ⟨g, 0, none⟩)] w (Fields #[pf g 1] w) := by
  have c0 := h.cell 0
  simp at c0
  have hl := h.lt
  clear h
  go_enter Tryz.func35, Tryz.ntmps35
  go_wp2_with fail
  go_ret
  exact ⟨rfl, Is.new _ _ _, below_alloc2 (Below.refl _ _) _⟩
theorem fields_1 (g : Nat) (k t v : Value) (w : World) (h : Is w g 23 #[.int .i64 1, k, t, v]) : Calls Tryz.prog 35 #[.pointer (some ⟨g, 0, none⟩)] w (Fields #[pf g 1, pf g 3] w) := by
  have c0 := h.cell 0
  simp at c0
  have hl := h.lt
  clear h
  go_enter Tryz.func35, Tryz.ntmps35
  go_wp2_with fail
  go_region
  go_wp2_with fail
  go_ret
  exact ⟨rfl, Is.new _ _ _, (below_alloc2 (Below.refl _ _) _).drew⟩
theorem fields_4 (g : Nat) (k t v : Value) (w : World) (h : Is w g 23 #[.int .i64 4, k, t, v]) : Calls Tryz.prog 35 #[.pointer (some ⟨g, 0, none⟩)] w (Fields #[pf g 1, pf g 3] w) := by
  have c0 := h.cell 0
  simp at c0
  have hl := h.lt
  clear h
  go_enter Tryz.func35, Tryz.ntmps35
  go_wp2_with fail
  go_region
  go_wp2_with fail
  go_ret
  exact ⟨rfl, Is.new _ _ _, (below_alloc2 (Below.refl _ _) _).drew⟩
theorem fields_3 (g : Nat) (k t v : Value) (w : World) (h : Is w g 23 #[.int .i64 3, k, t, v]) : Calls Tryz.prog 35 #[.pointer (some ⟨g, 0, none⟩)] w (Fields #[pf g 1, pf g 2] w) := by
  have c0 := h.cell 0
  simp at c0
  have hl := h.lt
  clear h
  go_enter Tryz.func35, Tryz.ntmps35
  go_wp2_with fail
  go_region
  go_wp2_with fail
  go_ret
  exact ⟨rfl, Is.new _ _ _, (below_alloc2 (Below.refl _ _) _).drew⟩
theorem fields_x (g : Nat) (o : Int) (n1 : (o == 1) = false) (n4 : (o == 4) = false) (n2 : (o == 2) = false) (n3 : (o == 3) = false) (k t v : Value) (w : World) (h : Is w g 23 #[.int .i64 o, k, t, v]) : Calls Tryz.prog 35 #[.pointer (some ⟨g, 0, none⟩)] w fun e w' => e = .returned (.slice none 0 0) ∧ w = w' := by
  have c0 := h.cell 0
  simp at c0
  have hl := h.lt
  clear h
  go_enter Tryz.func35, Tryz.ntmps35
  go_wp2_with fail
  go_ret
  exact ⟨rfl, rfl⟩
/-- A boxed message, a writer, and a row of pointers. -/
structure W3 (w : World) (arr : Array Value) (a r : Nat) (cs : Array Value) (st : Option (List UInt8)) (wx : World) : Prop where
  below : Below w.heap.size w wx
  box : Is wx w.heap.size 23 arr
  wr : Wr wx a st
  row : Is wx r 62 cs
  h1 : w.heap.size < a
  h2 : a < r
theorem W3.new {w wx wy : World} {arr cs : Array Value} {a : Nat} {st : Option (List UInt8)} (h : Bk.Wg w 23 arr a st wx) (hr : Is wy wx.heap.size 62 cs) (hb : Below wx.heap.size wx wy) : W3 w arr a wx.heap.size cs st wy :=
  ⟨h.box.below.trans (hb.mono h.box.below.size), h.box.one.kept (grow_below hb none) (by simp), h.wr.below hb, hr, h.ne, by obtain ⟨c, hc⟩ := h.wr.is; exact hc.lt⟩
theorem W3.step {w wx wy : World} {arr cs : Array Value} {a r : Nat} {st st' : Option (List UInt8)} (h : W3 w arr a r cs st wx) (hw : Wr wy a st') (hg : wx.grownBy wy (some a)) : W3 w arr a r cs st' wy :=
  ⟨h.below.trans (below_of_grow hg h.below.size (by have := h.h1; omega)), h.box.kept hg (by have := h.h1; simp; omega), hw, h.row.kept hg (by have := h.h2; simp; omega), h.h1, h.h2⟩
set_option maxHeartbeats 4000000 in
theorem put_of (o : Nat) (ho : o < 256) (k t v : ByteArray) (H : ∀ w, Calls Tryz.prog 33 #[.agg #[.int .i64 o, .string k, .string t, .string v]] w fun e w' => e = .returned (.bool true) ∧ Below w.heap.size w w')
    (n : Nat) (hn : n ≤ 2) (offs : Nat → Nat) (ss : Nat → ByteArray) (S : Nat → List UInt8) (cs : Nat → Array Value) (hcs : ∀ g, (cs g).size = n)
    (hF : ∀ g w, Is w g 23 #[.int .i64 o, .string k, .string t, .string v] → Calls Tryz.prog 35 #[.pointer (some ⟨g, 0, none⟩)] w (Fields (cs g) w))
    (hcell : ∀ g i, i < n → (cs g)[i]? = some (.pointer (some ⟨g, offs i, none⟩))) (hval : ∀ i, i < n → (#[.int .i64 o, .string k, .string t, .string v] : Array Value)[offs i]? = some (.string (ss i)))
    (hsz : ∀ i, (ss i).size ≤ 1000) (hS0 : S 0 = be 1 o) (hS : ∀ i, i < n → S (i + 1) = S i ++ tx (ss i)) (w : World) :
    Calls Tryz.prog 12 #[.agg #[.int .i64 o, .string k, .string t, .string v]] w fun e w' => e = .returned (.tuple #[.string (bs (S n)), .int .i64 0]) ∧ Below w.heap.size w w' := by
  have hSl : ∀ i, i ≤ n → (S i).length ≤ 10 + i * 2000 := by
    intro i
    induction i with
    | zero => intro _; rw [hS0, be_length]; omega
    | succ i ih =>
      intro hi
      have h1 := ih (by omega)
      have h2 := hsz i
      rw [hS i (by omega), tx, List.length_append, List.length_append, be_length, ← Lib.size_eq]
      omega
  have HX := Lib.hid (Bk.Box.new w 23 #[.int .i64 o, .string k, .string t, .string v])
  have hcv : (o : Int) % 256 = (o : Int) := by omega
  have HF := Lib.hid hF; have HC := Lib.hid hcell; have HV := Lib.hid hval; have HS := Lib.hid hS
  have HZ := Lib.hid hcs
  clear hF hcell hval hS hcs
  go_enter Tryz.func12, Tryz.ntmps12
  go_wp2_with fail
  refine (H _).mono ?_; rintro e w1 ⟨rfl, hb⟩
  have HW := Lib.hid (Bk.Wg.new (HX.out.later hb))
  clear hb HX
  obtain ⟨c0, c1, c2, c3⟩ := HW.out.box.cells
  go_wp2_with fail
  refine (u8_any _ o ho _ _ HW.out.wr (by simp [wlen])).mono ?_; rintro e w2 ⟨rfl, h1, h2⟩
  replace HW := Lib.hid (HW.out.step h1 h2)
  clear h1 h2 c0 c1 c2 c3
  go_wp2_with fail
  refine (HF.out _ _ HW.out.box.one).mono ?_; rintro e w3 ⟨rfl, hr, hb⟩
  have H3 := Lib.hid (W3.new HW.out hr hb)
  clear hr hb HW
  rw [HZ.out]
  generalize w1.heap.size = a at *
  generalize w2.heap.size = r at *
  go_wp2_with fail
  go_loopw [16] (fun i W => ∃ (j : Nat), j ≤ n ∧ i = .int .i64 j ∧ W3 w #[.int .i64 o, .string k, .string t, .string v] a r (cs w.heap.size) (some (S j)) W) (fun i _ => n - (intOf i).toNat)
  case atStart => exact ⟨0, by omega, rfl, by rw [hS0]; exact H3.out⟩
  case round =>
    clear H3
    obtain ⟨j, hj, rfl, h3⟩ := hrel
    have H3 := Lib.hid h3; clear h3
    by_cases hlt : j < n
    · have hc : _ := H3.out.row.cell j
      rw [HC.out _ _ hlt] at hc
      have hl := H3.out.row.lt
      have hbx := H3.out.box.cell (offs j)
      rw [HV.out _ hlt] at hbx
      have hl2 := H3.out.box.lt
      go_wp2_with fail
      refine (text_any a (ss j) _ _ H3.out.wr (by have := hSl j hj; have := hsz j; simp only [wlen]; omega)).mono ?_; rintro e w4 ⟨rfl, h1, h2⟩
      replace H3 := Lib.hid (H3.out.step h1 h2)
      clear h1 h2 hc hl hbx hl2
      go_wp2_with fail
      refine ⟨⟨j + 1, by omega, by go_num, ?_⟩, ?_⟩
      · have e : moreText (some (S j)) (ss j).data.toList = some (S (j + 1)) := by
          unfold moreText
          rw [if_neg (by have := hsz j; rw [← Lib.size_eq]; omega), HS.out j hlt]
          rfl
        rw [← e]
        exact H3.out
      · simp [intOf]; omega
    · obtain rfl : j = n := by omega
      go_wp2_with fail
      refine (bytes_any a _ _ H3.out.wr (by have := hSl j hj; simp only [wlen]; omega)).mono ?_; rintro e w4 ⟨rfl, hb⟩
      have HB := Lib.hid (H3.out.below.trans (hb.mono H3.out.below.size)); clear hb H3
      go_wp2_with fail
      go_ret2
      exact ⟨rfl, HB.out⟩
set_option maxHeartbeats 4000000 in
theorem put_no (m : Msg) (H : ∀ w, Calls Tryz.prog 33 #[m.val] w fun e w' => e = .returned (.bool false) ∧ Below w.heap.size w w') (w : World) : Calls Tryz.prog 12 #[m.val] w fun e w' => e = .returned (.tuple #[.string (bs []), .int .i64 4]) ∧ Below w.heap.size w w' := by
  obtain ⟨o, k, t, v⟩ := m
  unfold Msg.val at H ⊢
  dsimp only at H ⊢
  have HX := Lib.hid (Bk.Box.new w 23 #[.int .i64 o, .string k, .string t, .string v])
  go_enter Tryz.func12, Tryz.ntmps12
  go_wp2_with fail
  refine (H _).mono ?_; rintro e w1 ⟨rfl, hb⟩
  replace HX := Lib.hid (HX.out.later hb); clear hb
  go_wp2_with fail
  go_ret2
  exact ⟨rfl, HX.out.below⟩
theorem may_ops {m : Msg} (h : may m = true) : m.o = 1 ∨ m.o = 4 ∨ m.o = 2 ∨ m.o = 3 := by
  unfold may at h
  by_cases h1 : m.o = 1
  · exact .inl h1
  by_cases h4 : m.o = 4
  · exact .inr (.inl h4)
  by_cases h2 : m.o = 2
  · exact .inr (.inr (.inl h2))
  by_cases h3 : m.o = 3
  · exact .inr (.inr (.inr h3))
  simp [h1, h4, h2, h3] at h
def off2 (j : Nat) : Nat → Nat
  | 0 => 1
  | _ => j
def two {α : Type} (a b : α) : Nat → α
  | 0 => a
  | _ => b
def sums (o : Nat) (a b : ByteArray) : Nat → List UInt8
  | 0 => be 1 o
  | 1 => be 1 o ++ tx a
  | _ => be 1 o ++ tx a ++ tx b
theorem put_any (m : Msg) (hk : m.k.size ≤ 1000) (ht : m.t.size ≤ 1000) (hv : m.v.size ≤ 1000) (w : World) :
    Calls Tryz.prog 12 #[m.val] w fun e w' => e = .returned (.tuple #[.string (bs (put m)), .int .i64 (ck m : Nat)]) ∧ Below w.heap.size w w' := by
  have H := mayBe_any m (by omega)
  unfold put ck
  cases hm : may m with
  | false =>
    rw [hm] at H
    rw [if_neg (by simp), if_neg (by simp)]
    exact put_no m H w
  | true =>
    rw [hm] at H
    rw [if_pos rfl, if_pos rfl]
    have ho := may_ops hm
    obtain ⟨o, k, t, v⟩ := m
    unfold Msg.val at H ⊢
    dsimp only at ho hk ht hv H ⊢
    unfold text
    dsimp only
    rcases ho with rfl | rfl | rfl | rfl
    · have h := put_of 1 (by decide) k t v H 2 (by decide) (off2 3) (two k v) (sums 1 k v) (fun g => #[pf g 1, pf g 3]) (fun _ => rfl) (fun g w h => fields_1 g _ _ _ w h)
        (fun g i hi => by rcases i with _ | _ | i; rfl; rfl; omega) (fun i hi => by rcases i with _ | _ | i; rfl; rfl; omega) (fun i => by rcases i with _ | i <;> assumption) rfl (fun i hi => by rcases i with _ | _ | i; rfl; rfl; omega) w
      simpa [sums] using h
    · have h := put_of 4 (by decide) k t v H 2 (by decide) (off2 3) (two k v) (sums 4 k v) (fun g => #[pf g 1, pf g 3]) (fun _ => rfl) (fun g w h => fields_4 g _ _ _ w h)
        (fun g i hi => by rcases i with _ | _ | i; rfl; rfl; omega) (fun i hi => by rcases i with _ | _ | i; rfl; rfl; omega) (fun i => by rcases i with _ | i <;> assumption) rfl (fun i hi => by rcases i with _ | _ | i; rfl; rfl; omega) w
      simpa [sums] using h
    · have h := put_of 2 (by decide) k t v H 1 (by decide) (off2 3) (two k v) (sums 2 k v) (fun g => #[pf g 1]) (fun _ => rfl) (fun g w h => fields_2 g _ _ _ w h)
        (fun g i hi => by rcases i with _ | i; rfl; omega) (fun i hi => by rcases i with _ | i; rfl; omega) (fun i => by rcases i with _ | i <;> assumption) rfl (fun i hi => by rcases i with _ | i; rfl; omega) w
      simpa [sums] using h
    · have h := put_of 3 (by decide) k t v H 2 (by decide) (off2 2) (two k t) (sums 3 k t) (fun g => #[pf g 1, pf g 2]) (fun _ => rfl) (fun g w h => fields_3 g _ _ _ w h)
        (fun g i hi => by rcases i with _ | _ | i; rfl; rfl; omega) (fun i hi => by rcases i with _ | _ | i; rfl; rfl; omega) (fun i => by rcases i with _ | i <;> assumption) rfl (fun i hi => by rcases i with _ | _ | i; rfl; rfl; omega) w
      simpa [sums] using h
theorem size_any (m : Msg) (hk : m.k.size ≤ 1000) (ht : m.t.size ≤ 1000) (hv : m.v.size ≤ 1000) (w : World) :
    Calls Tryz.prog 15 #[m.val] w fun e w' => e = .returned (.int .i64 ((put m).length : Nat)) ∧ Below w.heap.size w w' := by
  have H := put_any m hk ht hv
  rw [← bs_size]
  generalize bs (put m) = T at *
  generalize ck m = E at *
  clear hk ht hv
  obtain ⟨o, k, t, v⟩ := m
  unfold Msg.val at H ⊢
  dsimp only at H ⊢
  have HX := Lib.hid (Bk.Box.new w 23 #[.int .i64 o, .string k, .string t, .string v])
  go_enter Tryz.func15, Tryz.ntmps15
  go_wp2_with fail
  refine (H _).mono ?_; rintro e w1 ⟨rfl, hb⟩
  replace HX := Lib.hid (HX.out.later hb); clear hb
  go_wp2_with fail
  go_ret
  exact ⟨rfl, HX.out.below⟩
end Go.Proofs.YthledgkjfjdjoaaGreat.Ms
