/- What the statements' own helpers answer. Conditions: texts of at most 1000 bytes. -/
import Derived.Test.YthledgkjfjdjoaaGreatMsE
import Derived.Laws.StructEq
namespace Go.Proofs.YthledgkjfjdjoaaGreat.Ms
open Go.ChangeShapes Go.WideShapes Go.RowKit Go.Codec Go.Mt Go.Blk
set_option maxRecDepth 100000
set_option linter.unusedSimpArgs false
set_option linter.unusedVariables false
def small (m : Msg) : Prop := m.k.size ≤ 1000 ∧ m.t.size ≤ 1000 ∧ m.v.size ≤ 1000
theorem few_yes (m : Msg) (h : small m) (w : World) : Calls Tryz.prog 10 #[m.val] w fun e w' => e = .returned (.bool true) ∧ Below w.heap.size w w' := by
  obtain ⟨o, k, t, v⟩ := m
  obtain ⟨hk, ht, hv⟩ := h
  unfold Msg.val
  dsimp only at hk ht hv ⊢
  have HX := Lib.hid (Bk.Box.new w 23 #[.int .i64 o, .string k, .string t, .string v])
  go_enter Tryz.func10, Tryz.ntmps10
  go_wp2_with fail
  go_ret
  exact ⟨by simp; omega, HX.out.below⟩
theorem few_no (m : Msg) (h : ¬ small m) (w : World) : Calls Tryz.prog 10 #[m.val] w fun e w' => e = .returned (.bool false) ∧ Below w.heap.size w w' := by
  obtain ⟨o, k, t, v⟩ := m
  unfold small at h
  unfold Msg.val
  dsimp only at h ⊢
  have HX := Lib.hid (Bk.Box.new w 23 #[.int .i64 o, .string k, .string t, .string v])
  by_cases hk : k.size ≤ 1000
  · by_cases ht : t.size ≤ 1000
    · have hv : ¬ v.size ≤ 1000 := fun hv => h ⟨hk, ht, hv⟩
      clear h
      go_enter Tryz.func10, Tryz.ntmps10
      go_wp2_with fail
      go_ret
      exact ⟨by simp; omega, HX.out.below⟩
    · clear h
      go_enter Tryz.func10, Tryz.ntmps10
      go_wp2_with fail
      go_ret
      exact ⟨by simp; try omega, HX.out.below⟩
  · clear h
    go_enter Tryz.func10, Tryz.ntmps10
    go_wp2_with fail
    go_ret
    exact ⟨by simp; try omega, HX.out.below⟩
theorem drop_any (k : ByteArray) (w : World) : Calls Tryz.prog 25 #[.string k] w fun e w' => e = .returned (Msg.val ⟨2, k, ⟨#[]⟩, ⟨#[]⟩⟩) ∧ Below w.heap.size w w' := by
  have HX := Lib.hid (Bk.Box.new w 23 #[.int .i64 2, .string k, .string ⟨#[]⟩, .string ⟨#[]⟩])
  go_enter Tryz.func25, Tryz.ntmps25
  go_wp2_with fail
  obtain ⟨c0, c1, c2, c3⟩ := HX.out.cells
  exact bodyPost_ret (v := Msg.val ⟨2, k, ⟨#[]⟩, ⟨#[]⟩⟩) (by simp [results, Tryz.results25, go_sem, c0, c1, c2, c3, Msg.val]) rfl ⟨rfl, HX.out.below⟩
theorem sweep_any (k t : ByteArray) (w : World) : Calls Tryz.prog 26 #[.string k, .string t] w fun e w' => e = .returned (Msg.val ⟨3, k, t, ⟨#[]⟩⟩) ∧ Below w.heap.size w w' := by
  have HX := Lib.hid (Bk.Box.new w 23 #[.int .i64 3, .string k, .string t, .string ⟨#[]⟩])
  go_enter Tryz.func26, Tryz.ntmps26
  go_wp2_with fail
  obtain ⟨c0, c1, c2, c3⟩ := HX.out.cells
  exact bodyPost_ret (v := Msg.val ⟨3, k, t, ⟨#[]⟩⟩) (by simp [results, Tryz.results26, go_sem, c0, c1, c2, c3, Msg.val]) rfl ⟨rfl, HX.out.below⟩
theorem mput_any (k v : ByteArray) (w : World) : Calls Tryz.prog 28 #[.string k, .string v] w fun e w' => e = .returned (Msg.val ⟨1, k, ⟨#[]⟩, v⟩) ∧ Below w.heap.size w w' := by
  have HX := Lib.hid (Bk.Box.new w 23 #[.int .i64 1, .string k, .string ⟨#[]⟩, .string v])
  go_enter Tryz.func28, Tryz.ntmps28
  go_wp2_with fail
  obtain ⟨c0, c1, c2, c3⟩ := HX.out.cells
  exact bodyPost_ret (v := Msg.val ⟨1, k, ⟨#[]⟩, v⟩) (by simp [results, Tryz.results28, go_sem, c0, c1, c2, c3, Msg.val]) rfl ⟨rfl, HX.out.below⟩
theorem mpatch_any (k v : ByteArray) (w : World) : Calls Tryz.prog 29 #[.string k, .string v] w fun e w' => e = .returned (Msg.val ⟨4, k, ⟨#[]⟩, v⟩) ∧ Below w.heap.size w w' := by
  have HX := Lib.hid (Bk.Box.new w 23 #[.int .i64 4, .string k, .string ⟨#[]⟩, .string v])
  go_enter Tryz.func29, Tryz.ntmps29
  go_wp2_with fail
  obtain ⟨c0, c1, c2, c3⟩ := HX.out.cells
  exact bodyPost_ret (v := Msg.val ⟨4, k, ⟨#[]⟩, v⟩) (by simp [results, Tryz.results29, go_sem, c0, c1, c2, c3, Msg.val]) rfl ⟨rfl, HX.out.below⟩
theorem text_of (o : Int) (k t v s : ByteArray) (n : Int) (hn : (s.size : Int) = n)
    (P : ∀ w, Calls Tryz.prog 12 #[.agg #[.int .i64 o, .string k, .string t, .string v]] w fun e w' => e = .returned (.tuple #[.string s, .int .i64 0]) ∧ Below w.heap.size w w')
    (S : ∀ w, Calls Tryz.prog 15 #[.agg #[.int .i64 o, .string k, .string t, .string v]] w fun e w' => e = .returned (.int .i64 s.size) ∧ Below w.heap.size w w') (w : World) :
    Calls Tryz.prog 24 #[.agg #[.int .i64 o, .string k, .string t, .string v], .string s] w fun e w' => e = .returned (.bool true) ∧ Below w.heap.size w w' := by
  have HX := Lib.hid (Bk.Box.new w 23 #[.int .i64 o, .string k, .string t, .string v])
  go_enter Tryz.func24, Tryz.ntmps24
  go_wp2_with fail
  refine (P _).mono ?_; rintro e w1 ⟨rfl, hb⟩
  replace HX := Lib.hid (HX.out.later hb); clear hb
  obtain ⟨c0, c1, c2, c3⟩ := HX.out.cells
  go_wp2_with fail
  refine (S _).mono ?_; rintro e w2 ⟨rfl, hb⟩
  replace HX := Lib.hid (HX.out.later hb); clear hb
  go_wp2_with fail
  go_ret
  exact ⟨by simp, HX.out.below⟩
theorem text_yes (m : Msg) (h : small m) (L : List UInt8) (hp : put m = L) (hc : ck m = 0) (w : World) : Calls Tryz.prog 24 #[m.val, .string (bs L)] w fun e w' => e = .returned (.bool true) ∧ Below w.heap.size w w' := by
  have P := put_any m h.1 h.2.1 h.2.2
  have S := size_any m h.1 h.2.1 h.2.2
  rw [hp, hc] at P
  rw [hp, ← bs_size] at S
  obtain ⟨o, k, t, v⟩ := m
  exact text_of o k t v (bs L) _ rfl P S w
theorem none_of (o : Int) (k t v : ByteArray) (C : Int) (b : Bool) (hb : (C == 4) = b)
    (P : ∀ w, Calls Tryz.prog 14 #[.agg #[.int .i64 o, .string k, .string t, .string v]] w fun e w' => e = .returned (.int .i64 C) ∧ Below w.heap.size w w')
    (S : b = true → ∀ w, Calls Tryz.prog 15 #[.agg #[.int .i64 o, .string k, .string t, .string v]] w fun e w' => e = .returned (.int .i64 0) ∧ Below w.heap.size w w') (w : World) :
    Calls Tryz.prog 27 #[.agg #[.int .i64 o, .string k, .string t, .string v]] w fun e w' => e = .returned (.bool b) ∧ Below w.heap.size w w' := by
  have HX := Lib.hid (Bk.Box.new w 23 #[.int .i64 o, .string k, .string t, .string v])
  cases b with
  | false =>
    go_enter Tryz.func27, Tryz.ntmps27
    go_wp2_with fail
    refine (P _).mono ?_; rintro e w1 ⟨rfl, hb⟩
    replace HX := Lib.hid (HX.out.later hb); clear hb
    go_wp2_with fail
    go_ret
    exact ⟨by simp, HX.out.below⟩
  | true =>
    replace S := S rfl
    go_enter Tryz.func27, Tryz.ntmps27
    go_wp2_with fail
    refine (P _).mono ?_; rintro e w1 ⟨rfl, hb⟩
    replace HX := Lib.hid (HX.out.later hb); clear hb
    obtain ⟨c0, c1, c2, c3⟩ := HX.out.cells
    go_wp2_with fail
    refine (S _).mono ?_; rintro e w2 ⟨rfl, hb⟩
    replace HX := Lib.hid (HX.out.later hb); clear hb
    go_wp2_with fail
    go_ret
    exact ⟨by simp, HX.out.below⟩
theorem none_any (m : Msg) (h : small m) (b : Bool) (hb : may m = !b) (w : World) : Calls Tryz.prog 27 #[m.val] w fun e w' => e = .returned (.bool b) ∧ Below w.heap.size w w' := by
  have P := check_any m (by have := h.2.2; omega)
  have S := size_any m h.1 h.2.1 h.2.2
  have e : ((ck m : Int) == 4) = b ∧ (b = true → put m = []) := by
    unfold ck put
    rw [hb]
    cases b <;> simp
  obtain ⟨o, k, t, v⟩ := m
  refine none_of o k t v _ b e.1 P (fun hb w => ?_) w
  rw [e.2 hb] at S
  exact S w
theorem eqMsg (a a' : Int) (k k' t t' v v' : ByteArray) (w : World) : (binOp .eql 23 (.agg #[.int .i64 a, .string k, .string t, .string v]) (.agg #[.int .i64 a', .string k', .string t', .string v'])).run Tryz.prog w = .ok (.bool (a == a' && (k.toList == k'.toList && (t.toList == t'.toList && v.toList == v'.toList)))) w := by
  cases h1 : a == a' <;> cases h2 : k.toList == k'.toList <;> cases h3 : t.toList == t'.toList <;> cases h4 : v.toList == v'.toList <;> go_simp
theorem eqNil (w : World) : (binOp .eql 23 nil.val nil.val).run Tryz.prog w = .ok (.bool true) w := by
  unfold nil Msg.val
  go_simp
theorem fails_of (s : ByteArray) (E : Int)
    (P : ∀ w, Calls Tryz.prog 16 #[.string s] w fun e w' => e = .returned (.tuple #[.agg #[.int .i64 0, .string ⟨#[]⟩, .string ⟨#[]⟩, .string ⟨#[]⟩], .int .i64 E]) ∧ Below w.heap.size w w') (w : World) :
    Calls Tryz.prog 31 #[.string s, .int .i64 E] w fun e w' => e = .returned (.bool true) ∧ Below w.heap.size w w' := by
  have HX := Lib.hid (Mt.Fr.nil w)
  go_enter Tryz.func31, Tryz.ntmps31
  go_wp2_with fail
  refine (P _).mono ?_; rintro e w1 ⟨rfl, hb⟩
  replace HX := Lib.hid ((HX.out.later hb).new 23 #[.int .i64 0, .string ⟨#[]⟩, .string ⟨#[]⟩, .string ⟨#[]⟩]); clear hb
  obtain ⟨c0, c1, c2, c3⟩ := HX.out.c4 0 rfl
  go_wp2_with fail
  go_ret
  exact ⟨by simp, HX.out.below⟩
theorem fails_yes (L : List UInt8) (E : Nat) (hs : L.length ≤ 1000) (h : tkM L = .no E) (w : World) : Calls Tryz.prog 31 #[.string (bs L), .int .i64 E] w fun e w' => e = .returned (.bool true) ∧ Below w.heap.size w w' := by
  have P := take_any (bs L) (by rw [bs_size]; omega)
  rw [bs_list, h] at P
  exact fails_of (bs L) E P w
theorem makes_of (M : Value) (q x A : ByteArray) (th b : Bool) (hs : A.size ≤ 1099511627776)
    (P : ∀ w, Calls Tryz.prog 22 #[M, .string q, .string x, .bool th] w fun e w' => e = .returned (.tuple #[.string A, .bool b]) ∧ Below w.heap.size w w') (o : Int) (k t v : ByteArray) (hM : M = .agg #[.int .i64 o, .string k, .string t, .string v]) (w : World) :
    Calls Tryz.prog 32 #[M, .string q, .string x, .bool th] w fun e w' => e = .returned (.string (if b = true then A else ⟨#[45]⟩ ++ A)) ∧ Below w.heap.size w w' := by
  subst hM
  have HX := Lib.hid (Bk.Box.new w 23 #[.int .i64 o, .string k, .string t, .string v])
  have z : (⟨#[45]⟩ : ByteArray).size = 1 := rfl
  cases b with
  | false =>
    go_enter Tryz.func32, Tryz.ntmps32
    go_wp2_with fail
    refine (P _).mono ?_; rintro e w1 ⟨rfl, hb⟩
    replace HX := Lib.hid (HX.out.later hb); clear hb
    go_wp2_with fail
    go_ret
    exact ⟨rfl, HX.out.below⟩
  | true =>
    go_enter Tryz.func32, Tryz.ntmps32
    go_wp2_with fail
    refine (P _).mono ?_; rintro e w1 ⟨rfl, hb⟩
    replace HX := Lib.hid (HX.out.later hb); clear hb
    go_wp2_with fail
    go_ret
    exact ⟨rfl, HX.out.below⟩
theorem makes_is (m : Msg) (q x R : ByteArray) (th : Bool) (hv : m.v.size ≤ 1000) (hx : x.size ≤ 1000) (h : (if (doV m q x th).2 = true then (doV m q x th).1 else ⟨#[45]⟩ ++ (doV m q x th).1) = R) (hR : R.size ≤ 1099511627776) (w : World) :
    Calls Tryz.prog 32 #[m.val, .string q, .string x, .bool th] w fun e w' => e = .returned (.string R) ∧ Below w.heap.size w w' := by
  have P := fun w => apply_any m q x th (by omega) (by omega) w
  have hs : (doV m q x th).1.size ≤ 1099511627776 := by
    rw [← h] at hR
    split at hR
    · exact hR
    · rw [ByteArray.size_append] at hR; omega
  rw [← h]
  exact makes_of m.val q x _ th _ hs P m.o m.k m.t m.v rfl w
theorem awake_any (w : World) : Calls Tryz.prog 11 #[] w fun e w' => e = .returned (.bool true) ∧ Below w.heap.size w w' := by
  have C1 := mput_any ⟨#[120]⟩ ⟨#[49]⟩
  have C2 : ∀ w, Calls Tryz.prog 24 #[Msg.val ⟨1, ⟨#[120]⟩, ⟨#[]⟩, ⟨#[49]⟩⟩, .string ⟨#[1, 0, 1, 120, 0, 1, 49]⟩] w fun e w' => e = .returned (.bool true) ∧ Below w.heap.size w w' := text_yes _ (by unfold small; decide) [1, 0, 1, 120, 0, 1, 49] (by decide +kernel) (by decide +kernel)
  have C3 := sweep_any ⟨#[98]⟩ ⟨#[97]⟩
  have C4 : ∀ w, Calls Tryz.prog 27 #[Msg.val ⟨3, ⟨#[98]⟩, ⟨#[97]⟩, ⟨#[]⟩⟩] w fun e w' => e = .returned (.bool true) ∧ Below w.heap.size w w' := none_any _ (by unfold small; decide) true (by decide +kernel)
  have C5 : ∀ w, Calls Tryz.prog 31 #[.string ⟨#[]⟩, .int .i64 10] w fun e w' => e = .returned (.bool true) ∧ Below w.heap.size w w' := fails_yes [] 10 (by decide) rfl
  have C6 := mput_any ⟨#[120]⟩ ⟨#[49]⟩
  have C7 : ∀ w, Calls Tryz.prog 32 #[Msg.val ⟨1, ⟨#[120]⟩, ⟨#[]⟩, ⟨#[49]⟩⟩, .string ⟨#[120]⟩, .string ⟨#[]⟩, .bool false] w fun e w' => e = .returned (.string ⟨#[49]⟩) ∧ Below w.heap.size w w' := makes_is _ _ _ _ _ (by decide) (by decide) (by decide +kernel) (by decide)
  have C8 := sweep_any ⟨#[97]⟩ ⟨#[122]⟩
  have C9 : ∀ w, Calls Tryz.prog 32 #[Msg.val ⟨3, ⟨#[97]⟩, ⟨#[122]⟩, ⟨#[]⟩⟩, .string ⟨#[120]⟩, .string ⟨#[49]⟩, .bool true] w fun e w' => e = .returned (.string ⟨#[45]⟩) ∧ Below w.heap.size w w' := makes_is _ _ _ _ _ (by decide) (by decide) (by decide +kernel) (by decide)
  have C10 := sweep_any ⟨#[97]⟩ ⟨#[99]⟩
  have C11 : ∀ w, Calls Tryz.prog 20 #[Msg.val ⟨3, ⟨#[97]⟩, ⟨#[99]⟩, ⟨#[]⟩⟩, .string ⟨#[98]⟩] w fun e w' => e = .returned (.bool true) ∧ Below w.heap.size w w' := fun w => by
    have h := touches_any ⟨3, ⟨#[97]⟩, ⟨#[99]⟩, ⟨#[]⟩⟩ ⟨#[98]⟩ (by decide) w
    rw [show tch ⟨3, ⟨#[97]⟩, ⟨#[99]⟩, ⟨#[]⟩⟩ ⟨#[98]⟩ = true by decide +kernel] at h
    exact h
  have HB := Lib.hid (Below.refl w.heap.size w)
  go_enter Tryz.func11, Tryz.ntmps11
  go_wp2_with fail
  with_reducible refine (C1 _).mono ?_
  rintro e w1 ⟨rfl, hb⟩
  replace HB := Lib.hid (HB.out.trans (hb.mono HB.out.size)); clear hb
  go_wp2_with fail
  with_reducible refine (C2 _).mono ?_
  rintro e w1 ⟨rfl, hb⟩
  replace HB := Lib.hid (HB.out.trans (hb.mono HB.out.size)); clear hb
  go_wp2_with fail
  with_reducible refine (C3 _).mono ?_
  rintro e w1 ⟨rfl, hb⟩
  replace HB := Lib.hid (HB.out.trans (hb.mono HB.out.size)); clear hb
  go_wp2_with fail
  with_reducible refine (C4 _).mono ?_
  rintro e w1 ⟨rfl, hb⟩
  replace HB := Lib.hid (HB.out.trans (hb.mono HB.out.size)); clear hb
  go_wp2_with fail
  with_reducible refine (C5 _).mono ?_
  rintro e w1 ⟨rfl, hb⟩
  replace HB := Lib.hid (HB.out.trans (hb.mono HB.out.size)); clear hb
  go_wp2_with fail
  with_reducible refine (C6 _).mono ?_
  rintro e w1 ⟨rfl, hb⟩
  replace HB := Lib.hid (HB.out.trans (hb.mono HB.out.size)); clear hb
  go_wp2_with fail
  with_reducible refine (C7 _).mono ?_
  rintro e w1 ⟨rfl, hb⟩
  replace HB := Lib.hid (HB.out.trans (hb.mono HB.out.size)); clear hb
  go_wp2_with fail
  with_reducible refine (C8 _).mono ?_
  rintro e w1 ⟨rfl, hb⟩
  replace HB := Lib.hid (HB.out.trans (hb.mono HB.out.size)); clear hb
  go_wp2_with fail
  with_reducible refine (C9 _).mono ?_
  rintro e w1 ⟨rfl, hb⟩
  replace HB := Lib.hid (HB.out.trans (hb.mono HB.out.size)); clear hb
  go_wp2_with fail
  with_reducible refine (C10 _).mono ?_
  rintro e w1 ⟨rfl, hb⟩
  replace HB := Lib.hid (HB.out.trans (hb.mono HB.out.size)); clear hb
  go_wp2_with fail
  with_reducible refine (C11 _).mono ?_
  rintro e w1 ⟨rfl, hb⟩
  replace HB := Lib.hid (HB.out.trans (hb.mono HB.out.size)); clear hb
  go_wp2_with fail
  go_ret
  exact ⟨rfl, HB.out⟩
end Go.Proofs.YthledgkjfjdjoaaGreat.Ms
