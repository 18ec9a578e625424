/- The document's answer: opening and filling up. Conditions: lengths below 2^30. -/
import Derived.Test.YtmjgbafoemdlpaaDoorSealG
import Derived.Test.YtmjgbafoemdlpaaDoorSealB
namespace Go.Proofs.YtmjgbafoemdlpaaDoor
open Go.ChangeShapes Go.WideShapes Go.RowKit Go.Codec
set_option maxRecDepth 100000
set_option linter.unusedVariables false
theorem ropen_few (s : ByteArray) (hs : s.size < 6) (w : World) :
    Calls Tryd.prog 14 #[.string s] w fun e w' => e = .returned (.tuple #[.string ⟨#[]⟩, .string ⟨#[]⟩, .int .i64 10]) ∧ Below w.heap.size w w' := by
  have h : (s.size : Int) < 6 := by omega
  clear hs
  go_enter Tryd.func14, Tryd.ntmps14
  go_wp2
  go_ret3
  exact ⟨rfl, Below.refl _ _⟩
theorem ropen_torn (s : ByteArray) (n : Nat) (hs : s.size ≤ 1073741824) (h6 : 6 ≤ s.size) (hn : s.size - 6 < n) (hn2 : n < 65536)
    (H1 : Hid (∀ w, Calls Tryd.prog 38 #[.string (s.extract 0 2)] w fun e w' => e = .returned (.int .u64 (n : Nat)) ∧ w = w')) (w : World) :
    Calls Tryd.prog 14 #[.string s] w fun e w' => e = .returned (.tuple #[.string ⟨#[]⟩, .string ⟨#[]⟩, .int .i64 10]) ∧ Below w.heap.size w w' := by
  have h : ¬ (s.size : Int) < 6 := by omega
  have h' : (s.size : Int) - 6 < (n : Int) := by omega
  have hu : IntKind.i64.wrap (n : Int) = (n : Int) := by rw [IntKind.wrap_i64]; omega
  clear hn
  go_enter Tryd.func14, Tryd.ntmps14
  go_wp2_with fail
  refine (H1.out _).mono ?_; rintro e w1 ⟨rfl, rfl⟩
  go_wp2
  go_ret3
  exact ⟨rfl, Below.refl _ _⟩
theorem ropen_bad (s : ByteArray) (n a b q c : Nat) (hs : s.size ≤ 1073741824) (h6 : 6 ≤ s.size) (ha : (2 : Int) + (n : Int) = (a : Int)) (hb : (6 : Int) + (n : Int) = (b : Int)) (hbs : b ≤ s.size) (hab : a ≤ b) (hq : q < 4294967296)
    (H1 : Hid (∀ w, Calls Tryd.prog 38 #[.string (s.extract 0 2)] w fun e w' => e = .returned (.int .u64 (n : Nat)) ∧ w = w'))
    (H2 : Hid (∀ w, Calls Tryd.prog 32 #[.string (s.extract 0 a)] w fun e w' => e = .returned (.int .u32 (q : Nat)) ∧ w = w'))
    (H3 : Hid (∀ w, Calls Tryd.prog 38 #[.string (s.extract a b)] w fun e w' => e = .returned (.int .u64 (c : Nat)) ∧ w = w')) (hqc : ¬ (q : Int) = (c : Int)) (w : World) :
    Calls Tryd.prog 14 #[.string s] w fun e w' => e = .returned (.tuple #[.string ⟨#[]⟩, .string ⟨#[]⟩, .int .i64 9]) ∧ Below w.heap.size w w' := by
  have h : ¬ (s.size : Int) < 6 := by omega
  have h' : ¬ (s.size : Int) - 6 < (n : Int) := by omega
  have hu : IntKind.i64.wrap (n : Int) = (n : Int) := by rw [IntKind.wrap_i64]; omega
  have hv : IntKind.u64.wrap (q : Int) = (q : Int) := by rw [IntKind.wrap_u64]; omega
  go_enter Tryd.func14, Tryd.ntmps14
  go_wp2_with fail
  refine (H1.out _).mono ?_; rintro e w1 ⟨rfl, rfl⟩
  go_wp2
  go_quiet ((first | exact Calls.quiet_of_same ((H2.out _).mono fun _ _ hh => ⟨hh.1, hh.2.symm⟩) | exact Calls.quiet_of_same ((H3.out _).mono fun _ _ hh => ⟨hh.1, hh.2.symm⟩)))
  go_wp2
  go_ret3
  exact ⟨rfl, below_drewN (Below.refl _ _) _⟩
theorem ropen_good (s : ByteArray) (n a b q : Nat) (hs : s.size ≤ 1073741824) (h6 : 6 ≤ s.size) (ha : (2 : Int) + (n : Int) = (a : Int)) (hb : (6 : Int) + (n : Int) = (b : Int)) (hbs : b ≤ s.size) (hab : a ≤ b) (hq : q < 4294967296)
    (H1 : Hid (∀ w, Calls Tryd.prog 38 #[.string (s.extract 0 2)] w fun e w' => e = .returned (.int .u64 (n : Nat)) ∧ w = w'))
    (H2 : Hid (∀ w, Calls Tryd.prog 32 #[.string (s.extract 0 a)] w fun e w' => e = .returned (.int .u32 (q : Nat)) ∧ w = w'))
    (H3 : Hid (∀ w, Calls Tryd.prog 38 #[.string (s.extract a b)] w fun e w' => e = .returned (.int .u64 (q : Nat)) ∧ w = w')) (w : World) :
    Calls Tryd.prog 14 #[.string s] w fun e w' => e = .returned (.tuple #[.string (s.extract 2 a), .string (s.extract b s.size), .int .i64 0]) ∧ Below w.heap.size w w' := by
  have h : ¬ (s.size : Int) < 6 := by omega
  have h' : ¬ (s.size : Int) - 6 < (n : Int) := by omega
  have hu : IntKind.i64.wrap (n : Int) = (n : Int) := by rw [IntKind.wrap_i64]; omega
  have hv : IntKind.u64.wrap (q : Int) = (q : Int) := by rw [IntKind.wrap_u64]; omega
  have h2a : (2 : Int) ≤ (a : Int) := by omega
  have h2as : (a : Int) ≤ (s.size : Int) := by omega
  go_enter Tryd.func14, Tryd.ntmps14
  go_wp2_with fail
  refine (H1.out _).mono ?_; rintro e w1 ⟨rfl, rfl⟩
  go_wp2
  go_quiet ((first | exact Calls.quiet_of_same ((H2.out _).mono fun _ _ hh => ⟨hh.1, hh.2.symm⟩) | exact Calls.quiet_of_same ((H3.out _).mono fun _ _ hh => ⟨hh.1, hh.2.symm⟩)))
  go_wp2
  go_quiet (fail)
  go_wp2
  go_ret3
  exact ⟨rfl, below_drewN (below_drewN (Below.refl _ _) _) _⟩
theorem ropen_any (s : ByteArray) (hs : s.size ≤ 1073741824) (w : World) :
    Calls Tryd.prog 14 #[.string s] w fun e w' => e = .returned (.tuple #[.string (bs (Seal.opn s.data.toList).1), .string (bs (Seal.opn s.data.toList).2.1), .int .i64 (Seal.opn s.data.toList).2.2]) ∧ Below w.heap.size w w' := by
  have hl : s.data.toList.length = s.size := (Lib.size_eq s).symm
  have ex : ∀ a b, s.extract a b = bs ((s.data.toList.drop a).take (b - a)) := extract_bs s
  by_cases h6 : s.size < 6
  · have e : Seal.opn s.data.toList = ([], [], 10) := by unfold Seal.opn; rw [if_pos (by omega)]
    rw [e]
    exact ropen_few s h6 w
  have hn2 : val (s.data.toList.take 2) < 65536 := by
    have := val_lt (s.data.toList.take 2)
    rw [List.length_take, Nat.min_eq_left (by omega)] at this
    omega
  have H1 := Lib.hid (fun w => told_list (s.data.toList.take 2) (by rw [List.length_take]; omega) w)
  have e2 : bs (s.data.toList.take 2) = s.extract 0 2 := by rw [ex]; simp
  rw [e2] at H1
  by_cases hc : s.data.toList.length - 6 < val (s.data.toList.take 2)
  · have e : Seal.opn s.data.toList = ([], [], 10) := by unfold Seal.opn; rw [if_pos (.inr hc)]
    rw [e]
    exact ropen_torn s _ hs (by omega) (by omega) hn2 H1 w
  · have eo : Seal.opn s.data.toList = if Seal.sum (s.data.toList.take (2 + val (s.data.toList.take 2))) = val ((s.data.toList.drop (2 + val (s.data.toList.take 2))).take 4) then ((s.data.toList.drop 2).take (val (s.data.toList.take 2)), s.data.toList.drop (6 + val (s.data.toList.take 2)), 0) else ([], [], 9) := by
      conv => lhs; unfold Seal.opn
      rw [if_neg (by omega)]
    rw [eo]; clear eo
    rw [hl] at hc
    generalize val (s.data.toList.take 2) = n at *
    have H2 := Lib.hid (fun w => rsum_list (s.data.toList.take (2 + n)) (by rw [List.length_take]; omega) w)
    have e3 : bs (s.data.toList.take (2 + n)) = s.extract 0 (2 + n) := by rw [ex]; simp
    rw [e3] at H2
    have H3 := Lib.hid (fun w => told_list ((s.data.toList.drop (2 + n)).take 4) (by rw [List.length_take]; omega) w)
    have e4 : bs ((s.data.toList.drop (2 + n)).take 4) = s.extract (2 + n) (6 + n) := by rw [ex, show 6 + n - (2 + n) = 4 by omega]
    rw [e4] at H3
    have hq := Seal.sum_lt (s.data.toList.take (2 + n))
    by_cases hqc : Seal.sum (s.data.toList.take (2 + n)) = val ((s.data.toList.drop (2 + n)).take 4)
    · rw [if_pos hqc]
      rw [← hqc] at H3
      have h := ropen_good s n (2 + n) (6 + n) _ hs (by omega) (by omega) (by omega) (by omega) (by omega) hq H1 H2 H3 w
      have e5 : s.extract 2 (2 + n) = bs ((s.data.toList.drop 2).take n) := by rw [ex, show 2 + n - 2 = n by omega]
      have e6 : s.extract (6 + n) s.size = bs (s.data.toList.drop (6 + n)) := by rw [ex, List.take_of_length_le (by rw [List.length_drop]; omega)]
      rw [e5, e6] at h
      exact h
    · rw [if_neg hqc]
      exact ropen_bad s n (2 + n) (6 + n) _ _ hs (by omega) (by omega) (by omega) (by omega) (by omega) hq H1 H2 H3 (by omega) w
theorem nought_text (n : Nat) (w : World) : (convert 46 9 (.slice (some ⟨w.heap.size, 0, none⟩) n n)).run Tryd.prog (mk w n) = .ok (.string (bs (Seal.noughts n))) (mk w n) := by
  have h := run_convert_bytes_back (P := Tryd.prog) (mk w n) 46 9 5 ⟨w.heap.size, 0, none⟩ n (Seal.noughts n) Tryd.underlying46 Tryd.underlying5 Tryd.underlying9 (fun j hj => by
    have hj' : j < n := by rw [Seal.noughts_length] at hj; exact hj
    have e : (⟨w.heap.size, 0, none⟩ : Addr).add j = ⟨w.heap.size, j, none⟩ := by unfold Addr.add; split <;> simp_all
    rw [e]
    show (w.alloc (.cells (madeCells #[.int .u8 0] n) 5)).cell? _ = _
    rw [(Is.new w 5 (madeCells #[.int .u8 0] n)).cell j, ← Array.getElem?_toList, toList_madeCells_one]
    simp [Seal.noughts, hj'])
  rw [Seal.noughts_length] at h
  exact h
theorem mk_below (w : World) (n : Nat) : Below w.heap.size w (mk w n) := (Below.refl _ w).alloc (Nat.le_refl _) _
theorem rpad_arg (s : ByteArray) (n : Int) (hn : n < 1 ∨ 65536 < n) (w : World) :
    Calls Tryd.prog 16 #[.string s, .int .i64 n] w fun e w' => e = .returned (.tuple #[.string ⟨#[]⟩, .int .i64 2]) ∧ Below w.heap.size w w' := by
  by_cases h : n < 1
  · go_enter Tryd.func16, Tryd.ntmps16
    go_wp2
    go_ret2
    exact ⟨rfl, Below.refl _ _⟩
  · have h2 : 65536 < n := by omega
    go_enter Tryd.func16, Tryd.ntmps16
    go_wp2
    go_ret2
    exact ⟨rfl, Below.refl _ _⟩
theorem rpad_full (s : ByteArray) (n : Nat) (h1 : 1 ≤ n) (h2 : n ≤ 65536) (hs : s.size ≤ 1073741824) (h0 : s.size % n = 0) (w : World) :
    Calls Tryd.prog 16 #[.string s, .int .i64 n] w fun e w' => e = .returned (.tuple #[.string s, .int .i64 0]) ∧ Below w.heap.size w w' := by
  have hr : (s.size : Int).tmod (n : Int) = 0 := by rw [Int.tmod_eq_emod_of_nonneg (by omega)]; omega
  clear h0
  go_enter Tryd.func16, Tryd.ntmps16
  go_wp2
  go_ret2
  exact ⟨rfl, Below.refl _ _⟩
theorem rpad_more (s : ByteArray) (n k d : Nat) (h1 : 1 ≤ n) (h2 : n ≤ 65536) (hs : s.size ≤ 1073741824) (hr : (s.size : Int).tmod (n : Int) = (k : Int)) (h0 : 0 < k) (hd : (n : Int) - (k : Int) = (d : Int)) (hdl : d ≤ 65536) (w w1 : World)
    (hmk : (Instr.makeSlice 46 (.int .i64 (d : Int)) (.int .i64 (d : Int))).run Tryd.prog w = .ok (.slice (some ⟨w.heap.size, 0, none⟩) d d) w1)
    (hcv : (convert 46 9 (.slice (some ⟨w.heap.size, 0, none⟩) d d)).run Tryd.prog w1 = .ok (.string (bs (Seal.noughts d))) w1) (l : List UInt8) (happ : s ++ bs (Seal.noughts d) = bs l) (hsz : ¬ 9223372036854775807 < s.size + (bs (Seal.noughts d)).size) (hb : Below w.heap.size w w1) :
    Calls Tryd.prog 16 #[.string s, .int .i64 n] w fun e w' => e = .returned (.tuple #[.string (bs l), .int .i64 0]) ∧ Below w.heap.size w w' := by
  have HB := Lib.hid hb; clear hb
  go_enter Tryd.func16, Tryd.ntmps16
  go_wp2
  go_ret2
  exact ⟨rfl, HB.out⟩
theorem rpad_any (s : ByteArray) (n : Int) (hs : s.size ≤ 1073741824) (w : World) :
    Calls Tryd.prog 16 #[.string s, .int .i64 n] w fun e w' => e = .returned (.tuple #[.string (bs (Seal.pad s.data.toList n).1), .int .i64 (Seal.pad s.data.toList n).2]) ∧ Below w.heap.size w w' := by
  unfold Seal.pad
  by_cases h : n < 1 ∨ 65536 < n
  · rw [if_pos h]
    exact rpad_arg s n h w
  · rw [if_neg h]
    obtain ⟨k, rfl⟩ : ∃ k : Nat, n = (k : Int) := ⟨n.toNat, by omega⟩
    rw [Int.toNat_natCast]
    unfold Seal.fill
    rw [← Lib.size_eq]
    by_cases h0 : s.size % k = 0
    · rw [if_pos h0]
      have e : bs (s.data.toList ++ Seal.noughts 0) = s := by simp [Seal.noughts, list_bs]
      show Calls _ _ _ _ fun e w' => e = .returned (.tuple #[.string (bs (s.data.toList ++ Seal.noughts 0)), .int .i64 0]) ∧ _
      rw [e]
      exact rpad_full s k (by omega) (by omega) hs h0 w
    · rw [if_neg h0]
      have hkn : s.size % k < k := Nat.mod_lt _ (by omega)
      exact rpad_more s k (s.size % k) (k - s.size % k) (by omega) (by omega) hs (by rw [Int.tmod_eq_emod_of_nonneg (by omega)]; rfl) (by omega) (by omega) (by omega) w _ (make_run _ (by omega) w) (nought_text _ w) _ (by rw [← bs_append, list_bs]) (by rw [bs_size, Seal.noughts_length]; omega) (mk_below _ _)
end Go.Proofs.YtmjgbafoemdlpaaDoor
