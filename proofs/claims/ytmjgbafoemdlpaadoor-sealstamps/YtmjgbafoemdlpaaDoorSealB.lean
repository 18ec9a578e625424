/- Opening, in the program. Conditions: lengths below 2^30; the program's table as it is laid. -/
import Derived.Test.YtmjgbafoemdlpaaDoorSealA
import Derived.OwnWalk
namespace Go.Proofs.YtmjgbafoemdlpaaDoor
open Go.ChangeShapes Go.WideShapes Go.RowKit Go.Codec
set_option maxRecDepth 100000
set_option maxHeartbeats 1000000 in
theorem open_torn (s : ByteArray) (t : List UInt8) (x1 x2 : R) (c m : Nat) (hs : s.size ≤ 1073741824) (w : World)
    (H0 : Hid (Calls Tryd.prog 33 #[.string s] w fun e w' => ∃ r, e = .returned (.pointer (some ⟨r, 0, none⟩)) ∧ w.heap.size ≤ r ∧ Rd w' r ⟨s.data.toList, 0⟩ ∧ Below w.heap.size w w'))
    (H1 : Hid (∀ r w', Rd w' r ⟨s.data.toList, 0⟩ → Calls Tryd.prog 35 #[.pointer (some ⟨r, 0, none⟩)] w' (Took r t x1 w')))
    (H2 : Hid (∀ r w', Rd w' r x1 → Calls Tryd.prog 36 #[.pointer (some ⟨r, 0, none⟩)] w' fun e w'' => e = .returned (.string (bs x1.rest)) ∧ w' = w''))
    (H3 : Hid (∀ r w', Rd w' r x1 → Calls Tryd.prog 34 #[.pointer (some ⟨r, 0, none⟩)] w' (Got .u32 r c x2 w')))
    (H4 : Hid (∀ r w', Rd w' r x2 → Calls Tryd.prog 37 #[.pointer (some ⟨r, 0, none⟩)] w' fun e w'' => e = .returned (.int .i64 x2.er) ∧ w' = w''))
    (hm : (s.size : Int) - ((bs x1.rest).size : Int) = (m : Int)) (hml : m ≤ s.size) (her : x2.er = 10) :
    Calls Tryd.prog 13 #[.string s] w fun e w' => e = .returned (.tuple #[.string ⟨#[]⟩, .string ⟨#[]⟩, .int .i64 10]) ∧ Below w.heap.size w w' := by
  go_enter Tryd.func13, Tryd.ntmps13
  go_wp2_with fail
  refine H0.out.mono ?_; rintro e w0 ⟨r, rfl, hr, h1, b1⟩
  have R0 := Lib.hid hr; have A0 := Lib.hid h1; have B0 := Lib.hid b1; clear hr h1 b1
  go_wp2_with fail
  refine (H1.out r _ A0.out).mono ?_; rintro e w1 ⟨rfl, h1, g1⟩
  have A1 := Lib.hid h1; have B1 := Lib.hid (B0.out.trans (below_of_grow g1 B0.out.size R0.out)); clear h1 g1
  go_wp2_with fail
  refine (H2.out r _ A1.out).mono ?_; rintro e w2 ⟨rfl, rfl⟩
  go_wp2_with fail
  refine (H3.out r _ A1.out).mono ?_; rintro e w2 ⟨rfl, h1, g1⟩
  have A2 := Lib.hid h1; have B2 := Lib.hid (B1.out.trans (below_of_grow g1 B1.out.size R0.out)); clear h1 g1
  go_wp2_with fail
  refine (H4.out r _ A2.out).mono ?_; rintro e w3 ⟨rfl, rfl⟩
  rw [her]
  go_wp2_with fail
  refine (H4.out r _ A2.out).mono ?_; rintro e w3 ⟨rfl, rfl⟩
  rw [her]
  go_wp2
  go_ret3
  exact ⟨rfl, B2.out⟩
set_option maxHeartbeats 1000000 in
theorem open_bad (s : ByteArray) (t : List UInt8) (x1 x2 : R) (c m q : Nat) (hs : s.size ≤ 1073741824) (w : World)
    (H0 : Hid (Calls Tryd.prog 33 #[.string s] w fun e w' => ∃ r, e = .returned (.pointer (some ⟨r, 0, none⟩)) ∧ w.heap.size ≤ r ∧ Rd w' r ⟨s.data.toList, 0⟩ ∧ Below w.heap.size w w'))
    (H1 : Hid (∀ r w', Rd w' r ⟨s.data.toList, 0⟩ → Calls Tryd.prog 35 #[.pointer (some ⟨r, 0, none⟩)] w' (Took r t x1 w')))
    (H2 : Hid (∀ r w', Rd w' r x1 → Calls Tryd.prog 36 #[.pointer (some ⟨r, 0, none⟩)] w' fun e w'' => e = .returned (.string (bs x1.rest)) ∧ w' = w''))
    (H3 : Hid (∀ r w', Rd w' r x1 → Calls Tryd.prog 34 #[.pointer (some ⟨r, 0, none⟩)] w' (Got .u32 r c x2 w')))
    (H4 : Hid (∀ r w', Rd w' r x2 → Calls Tryd.prog 37 #[.pointer (some ⟨r, 0, none⟩)] w' fun e w'' => e = .returned (.int .i64 x2.er) ∧ w' = w''))
    (hm : (s.size : Int) - ((bs x1.rest).size : Int) = (m : Int)) (hml : m ≤ s.size) (her : x2.er = 0)
    (H5 : Hid (∀ w', Laid w' → Calls Tryd.prog 30 #[.string (s.extract 0 m)] w' fun e w'' => e = .returned (.int .u32 (q : Nat)) ∧ w' = w'')) (HT : Hid (Laid w)) (hq : ((c : Int) == (q : Int)) = false) :
    Calls Tryd.prog 13 #[.string s] w fun e w' => e = .returned (.tuple #[.string ⟨#[]⟩, .string ⟨#[]⟩, .int .i64 9]) ∧ Below w.heap.size w w' := by
  go_enter Tryd.func13, Tryd.ntmps13
  go_wp2_with fail
  refine H0.out.mono ?_; rintro e w0 ⟨r, rfl, hr, h1, b1⟩
  have R0 := Lib.hid hr; have A0 := Lib.hid h1; have B0 := Lib.hid b1; clear hr h1 b1
  go_wp2_with fail
  refine (H1.out r _ A0.out).mono ?_; rintro e w1 ⟨rfl, h1, g1⟩
  have A1 := Lib.hid h1; have B1 := Lib.hid (B0.out.trans (below_of_grow g1 B0.out.size R0.out)); clear h1 g1
  go_wp2_with fail
  refine (H2.out r _ A1.out).mono ?_; rintro e w2 ⟨rfl, rfl⟩
  go_wp2_with fail
  refine (H3.out r _ A1.out).mono ?_; rintro e w2 ⟨rfl, h1, g1⟩
  have A2 := Lib.hid h1; have B2 := Lib.hid (B1.out.trans (below_of_grow g1 B1.out.size R0.out)); clear h1 g1
  go_wp2_with fail
  refine (H4.out r _ A2.out).mono ?_; rintro e w3 ⟨rfl, rfl⟩
  rw [her]
  go_wp2_with fail
  refine (H5.out _ (HT.out.later B2.out)).mono ?_; rintro e w3 ⟨rfl, rfl⟩
  go_wp2
  go_ret3
  exact ⟨rfl, B2.out⟩
set_option maxHeartbeats 1000000 in
theorem open_good (s : ByteArray) (t : List UInt8) (x1 x2 : R) (c m q : Nat) (hs : s.size ≤ 1073741824) (w : World)
    (H0 : Hid (Calls Tryd.prog 33 #[.string s] w fun e w' => ∃ r, e = .returned (.pointer (some ⟨r, 0, none⟩)) ∧ w.heap.size ≤ r ∧ Rd w' r ⟨s.data.toList, 0⟩ ∧ Below w.heap.size w w'))
    (H1 : Hid (∀ r w', Rd w' r ⟨s.data.toList, 0⟩ → Calls Tryd.prog 35 #[.pointer (some ⟨r, 0, none⟩)] w' (Took r t x1 w')))
    (H2 : Hid (∀ r w', Rd w' r x1 → Calls Tryd.prog 36 #[.pointer (some ⟨r, 0, none⟩)] w' fun e w'' => e = .returned (.string (bs x1.rest)) ∧ w' = w''))
    (H3 : Hid (∀ r w', Rd w' r x1 → Calls Tryd.prog 34 #[.pointer (some ⟨r, 0, none⟩)] w' (Got .u32 r c x2 w')))
    (H4 : Hid (∀ r w', Rd w' r x2 → Calls Tryd.prog 37 #[.pointer (some ⟨r, 0, none⟩)] w' fun e w'' => e = .returned (.int .i64 x2.er) ∧ w' = w''))
    (hm : (s.size : Int) - ((bs x1.rest).size : Int) = (m : Int)) (hml : m ≤ s.size) (her : x2.er = 0)
    (H5 : Hid (∀ w', Laid w' → Calls Tryd.prog 30 #[.string (s.extract 0 m)] w' fun e w'' => e = .returned (.int .u32 (q : Nat)) ∧ w' = w''))
    (H6 : Hid (∀ r w', Rd w' r x2 → Calls Tryd.prog 36 #[.pointer (some ⟨r, 0, none⟩)] w' fun e w'' => e = .returned (.string (bs x2.rest)) ∧ w' = w'')) (HT : Hid (Laid w)) (hq : ((c : Int) == (q : Int)) = true) :
    Calls Tryd.prog 13 #[.string s] w fun e w' => e = .returned (.tuple #[.string (bs t), .string (bs x2.rest), .int .i64 0]) ∧ Below w.heap.size w w' := by
  go_enter Tryd.func13, Tryd.ntmps13
  go_wp2_with fail
  refine H0.out.mono ?_; rintro e w0 ⟨r, rfl, hr, h1, b1⟩
  have R0 := Lib.hid hr; have A0 := Lib.hid h1; have B0 := Lib.hid b1; clear hr h1 b1
  go_wp2_with fail
  refine (H1.out r _ A0.out).mono ?_; rintro e w1 ⟨rfl, h1, g1⟩
  have A1 := Lib.hid h1; have B1 := Lib.hid (B0.out.trans (below_of_grow g1 B0.out.size R0.out)); clear h1 g1
  go_wp2_with fail
  refine (H2.out r _ A1.out).mono ?_; rintro e w2 ⟨rfl, rfl⟩
  go_wp2_with fail
  refine (H3.out r _ A1.out).mono ?_; rintro e w2 ⟨rfl, h1, g1⟩
  have A2 := Lib.hid h1; have B2 := Lib.hid (B1.out.trans (below_of_grow g1 B1.out.size R0.out)); clear h1 g1
  go_wp2_with fail
  refine (H4.out r _ A2.out).mono ?_; rintro e w3 ⟨rfl, rfl⟩
  rw [her]
  go_wp2_with fail
  refine (H5.out _ (HT.out.later B2.out)).mono ?_; rintro e w3 ⟨rfl, rfl⟩
  go_wp2_with fail
  refine (H6.out r _ A2.out).mono ?_; rintro e w3 ⟨rfl, rfl⟩
  go_wp2
  go_ret3
  exact ⟨rfl, B2.out⟩
theorem R.drop_torn (n : Nat) : (⟨[], 10⟩ : R).drop n = ⟨[], 10⟩ := by unfold R.drop; split <;> simp
theorem R.drop_ok {l : List UInt8} {e : Int} {n : Nat} (h : n ≤ l.length) : (⟨l, e⟩ : R).drop n = ⟨l.drop n, e⟩ := by unfold R.drop; rw [if_pos h]
theorem R.take_ok {l : List UInt8} {e : Int} {n : Nat} (h : n ≤ l.length) : (⟨l, e⟩ : R).take n = l.take n := by unfold R.take; rw [if_pos h]
theorem R.drop_not {l : List UInt8} {e : Int} {n : Nat} (h : ¬ n ≤ l.length) : (⟨l, e⟩ : R).drop n = ⟨[], 10⟩ := by unfold R.drop; rw [if_neg h]
/-- Where bytes are missing, the reader is torn. -/
theorem torn_rest (l : List UInt8) (h : l.length < 6 ∨ l.length - 6 < val (l.take 2)) : ((⟨l, 0⟩ : R).behind.drop 4).er = 10 := by
  unfold R.behind
  by_cases h2 : 2 ≤ l.length
  · rw [R.drop_ok h2, R.take_ok h2]
    by_cases h3 : val (l.take 2) ≤ (l.drop 2).length
    · rw [R.drop_ok h3, R.drop_not (by rw [List.length_drop] at h3 ⊢; rw [List.length_drop]; omega)]
    · rw [R.drop_not h3, R.drop_torn]
  · rw [R.drop_not h2, R.drop_torn, R.drop_torn]
theorem whole_rest (l : List UInt8) (h : ¬ (l.length < 6 ∨ l.length - 6 < val (l.take 2))) : (⟨l, 0⟩ : R).text = (l.drop 2).take (val (l.take 2)) ∧ (⟨l, 0⟩ : R).behind = ⟨l.drop (2 + val (l.take 2)), 0⟩ ∧ (⟨l.drop (2 + val (l.take 2)), 0⟩ : R).drop 4 = ⟨l.drop (6 + val (l.take 2)), 0⟩ ∧ (⟨l.drop (2 + val (l.take 2)), 0⟩ : R).take 4 = (l.drop (2 + val (l.take 2))).take 4 := by
  have h2 : 2 ≤ l.length := by omega
  have h3 : val (l.take 2) ≤ (l.drop 2).length := by rw [List.length_drop]; omega
  refine ⟨?_, ?_, ?_, ?_⟩
  · unfold R.text
    rw [R.drop_ok h2, R.take_ok h2, R.take_ok h3]
  · unfold R.behind
    rw [R.drop_ok h2, R.take_ok h2, R.drop_ok h3, List.drop_drop]
  · rw [R.drop_ok (by rw [List.length_drop]; omega), List.drop_drop]
    congr 2
    omega
  · rw [R.take_ok (by rw [List.length_drop]; omega)]
theorem behind_len (x : R) : x.behind.rest.length ≤ x.rest.length := by
  unfold R.behind
  exact Nat.le_trans (drop_len _ _) (drop_len _ _)
theorem extract_bs (s : ByteArray) (a b : Nat) : s.extract a b = bs ((s.data.toList.drop a).take (b - a)) := by
  have h := bs_extract s.data.toList a b
  rw [list_bs] at h
  exact h
theorem open_any (s : ByteArray) (hs : s.size ≤ 1073741824) (w : World) (ht : Laid w) :
    Calls Tryd.prog 13 #[.string s] w fun e w' => e = .returned (.tuple #[.string (bs (Seal.opn s.data.toList).1), .string (bs (Seal.opn s.data.toList).2.1), .int .i64 (Seal.opn s.data.toList).2.2]) ∧ Below w.heap.size w w' := by
  have hl : s.data.toList.length = s.size := (Lib.size_eq s).symm
  have hb := behind_len ⟨s.data.toList, 0⟩
  have H0 := Lib.hid (new_any s (by omega) w)
  have H1 := Lib.hid (fun r w' h => rtext_any r ⟨s.data.toList, 0⟩ (by show s.data.toList.length ≤ _; omega) w' h)
  have hb' : (⟨s.data.toList, 0⟩ : R).behind.rest.length ≤ s.size := by rw [← hl]; exact hb
  clear hb
  by_cases hc : s.data.toList.length < 6 ∨ s.data.toList.length - 6 < val (s.data.toList.take 2)
  · have e : Seal.opn s.data.toList = ([], [], 10) := by unfold Seal.opn; rw [if_pos hc]
    rw [e]
    have he := torn_rest _ hc
    generalize (⟨s.data.toList, 0⟩ : R).behind = x1 at *
    refine open_torn s _ x1 (x1.drop 4) (val (x1.take 4)) (s.size - x1.rest.length) hs w H0 H1 (Lib.hid fun r w' h => rest_any r x1 w' h) (Lib.hid fun r w' h => ru32_any r x1 (by omega) w' h) (Lib.hid fun r w' h => err_any r _ w' h) (by rw [bs_size]; omega) (by omega) he
  · obtain ⟨h1, h2, h3, h4⟩ := whole_rest _ hc
    have hn : 6 + val (s.data.toList.take 2) ≤ s.size := by omega
    have eo : Seal.opn s.data.toList = if Seal.sum (s.data.toList.take (2 + val (s.data.toList.take 2))) = val ((s.data.toList.drop (2 + val (s.data.toList.take 2))).take 4) then ((s.data.toList.drop 2).take (val (s.data.toList.take 2)), s.data.toList.drop (6 + val (s.data.toList.take 2)), 0) else ([], [], 9) := by
      conv => lhs; unfold Seal.opn
      rw [if_neg hc]
    rw [eo]; clear eo hb'
    rw [h1, h2] at H1
    clear h1 h2 hc
    generalize val (s.data.toList.take 2) = n at *
    have ex : s.extract 0 (2 + n) = bs (s.data.toList.take (2 + n)) := by rw [extract_bs]; simp
    have hx1 : (s.data.toList.drop (2 + n)).length = s.size - (2 + n) := by rw [List.length_drop, hl]
    have H2 := Lib.hid (fun r w' h => rest_any r ⟨s.data.toList.drop (2 + n), 0⟩ w' h)
    have H3 := Lib.hid (fun r w' h => ru32_any r ⟨s.data.toList.drop (2 + n), 0⟩ (by show (s.data.toList.drop (2 + n)).length ≤ _; omega) w' h)
    rw [h3, h4] at H3
    have H5 := Lib.hid (fun w' h => sum_list (s.data.toList.take (2 + n)) (by rw [List.length_take]; omega) w' h)
    rw [← ex] at H5
    have hm : (s.size : Int) - ((bs (⟨s.data.toList.drop (2 + n), 0⟩ : R).rest).size : Int) = ((2 + n : Nat) : Int) := by
      rw [bs_size]
      show (s.size : Int) - ((s.data.toList.drop (2 + n)).length : Int) = _
      omega
    by_cases hq : Seal.sum (s.data.toList.take (2 + n)) = val ((s.data.toList.drop (2 + n)).take 4)
    · rw [if_pos hq]
      exact open_good s _ _ ⟨s.data.toList.drop (6 + n), 0⟩ _ (2 + n) _ hs w H0 H1 H2 H3 (Lib.hid fun r w' h => err_any r _ w' h) hm (by omega) rfl H5 (Lib.hid fun r w' h => rest_any r _ w' h) (Lib.hid ht) (by rw [hq]; simp)
    · rw [if_neg hq]
      exact open_bad s _ _ ⟨s.data.toList.drop (6 + n), 0⟩ _ (2 + n) _ hs w H0 H1 H2 H3 (Lib.hid fun r w' h => err_any r _ w' h) hm (by omega) rfl H5 (Lib.hid ht) (by rw [beq_eq_false_iff_ne]; omega)
end Go.Proofs.YtmjgbafoemdlpaaDoor
