/- The document's answer: what bytes are that may be stamped. Conditions: lengths below 2^30. -/
import Derived.Test.YtlidieffaaicaaaGreatSealI
import Derived.Test.YtlidieffaaicaaaGreatSealF
namespace Go.Proofs.YtlidieffaaicaaaGreat
open Go.ChangeShapes Go.WideShapes Go.RowKit Go.Codec
set_option maxRecDepth 100000
set_option linter.unusedVariables false
theorem run_few (s : ByteArray) (hs : s.size < 26) (w : World) :
    Calls Tryz.prog 95 #[.string s] w fun e w' => e = .returned (.tuple #[.int .u64 0, .int .u32 0, .string ⟨#[]⟩, .int .i64 10]) ∧ Below w.heap.size w w' := by
  have h : (s.size : Int) < 26 := by omega
  clear hs
  go_enter Tryz.func95, Tryz.ntmps95
  go_wp2
  (try simp only [Exit.inBlock, Exit.then]); refine bodyPost_ret (results_tmp4 rfl _ _ _) rfl ?_
  exact ⟨rfl, Below.refl _ _⟩
theorem run_many (s : ByteArray) (hs : 65536 < s.size) (w : World) :
    Calls Tryz.prog 95 #[.string s] w fun e w' => e = .returned (.tuple #[.int .u64 0, .int .u32 0, .string ⟨#[]⟩, .int .i64 4]) ∧ Below w.heap.size w w' := by
  have h1 : ¬ (s.size : Int) < 26 := by omega
  have h : (65536 : Int) < s.size := by omega
  clear hs
  go_enter Tryz.func95, Tryz.ntmps95
  go_wp2
  (try simp only [Exit.inBlock, Exit.then]); refine bodyPost_ret (results_tmp4 rfl _ _ _) rfl ?_
  exact ⟨rfl, Below.refl _ _⟩
/-- The number that bytes tell. -/
def Tells (s : ByteArray) (n : Nat) : Prop := s.size ≤ 8 ∧ val s.data.toList = n
theorem tells_of {s : ByteArray} {n : Nat} (h : Tells s n) (w : World) :
    Calls Tryz.prog 96 #[.string s] w fun e w' => e = .returned (.int .u64 (n : Nat)) ∧ w = w' := by
  rw [← h.2]; exact told_any s h.1 w
theorem told_ext (s : ByteArray) (a b : Nat) (h : b ≤ a + 8) (w : World) :
    Calls Tryz.prog 96 #[.string (s.extract a b)] w fun e w' => e = .returned (.int .u64 (val (s.extract a b).data.toList : Nat)) ∧ w = w' :=
  told_any (s.extract a b) (by rw [ByteArray.size_extract]; omega) w
set_option maxHeartbeats 2000000 in
theorem run_gen (s : ByteArray) (k n8 n12 : Nat) (h26 : ¬ (s.size : Int) < 26) (h65 : ¬ (65536 : Int) < (s.size : Int)) (e8 : (s.size : Int) - 8 = (n8 : Int)) (e12 : (s.size : Int) - 12 = (n12 : Int)) (hk : k < 65536) (T0 : Tells (s.extract 12 14) k) (hg : ((s.extract 0 8).toList == (s.extract n8 s.size).toList) = false) (w : World) :
    Calls Tryz.prog 95 #[.string s] w fun e w' => e = .returned (.tuple #[.int .u64 0, .int .u32 0, .string ⟨#[]⟩, .int .i64 4]) ∧ Below w.heap.size w w' := by
  have hu : IntKind.i64.wrap (k : Int) = (k : Int) := by rw [IntKind.wrap_i64]; omega
  have l12 : (12 : Int) ≤ 14 := by omega
  have l14 : (14 : Int) ≤ (s.size : Int) := by omega
  have l8 : (8 : Int) ≤ (s.size : Int) := by omega
  have l812 : (12 : Int) ≤ (s.size : Int) := by omega
  have m8 : (n8 : Int) ≤ (s.size : Int) := by omega
  have m12 : (n12 : Int) ≤ (n8 : Int) := by omega
  have HT := Lib.hid T0; clear T0
  go_enter Tryz.func95, Tryz.ntmps95
  go_wp2_with fail
  refine (tells_of HT.out _).mono ?_; rintro e w1 ⟨rfl, rfl⟩
  go_wp2
  go_quiet (fail)
  go_wp2
  (try simp only [Exit.inBlock, Exit.then]); refine bodyPost_ret (results_tmp4 rfl _ _ _) rfl ?_
  exact ⟨rfl, below_drewN (Below.refl _ _) _⟩
set_option maxHeartbeats 2000000 in
theorem run_idx (s : ByteArray) (k n8 n12 : Nat) (h26 : ¬ (s.size : Int) < 26) (h65 : ¬ (65536 : Int) < (s.size : Int)) (e8 : (s.size : Int) - 8 = (n8 : Int)) (e12 : (s.size : Int) - 12 = (n12 : Int)) (hk : k < 65536) (T0 : Tells (s.extract 12 14) k) (hg : ((s.extract 0 8).toList == (s.extract n8 s.size).toList) = true) (hi : ((s.extract 8 12).toList == (s.extract n12 n8).toList) = false) (w : World) :
    Calls Tryz.prog 95 #[.string s] w fun e w' => e = .returned (.tuple #[.int .u64 0, .int .u32 0, .string ⟨#[]⟩, .int .i64 4]) ∧ Below w.heap.size w w' := by
  have hu : IntKind.i64.wrap (k : Int) = (k : Int) := by rw [IntKind.wrap_i64]; omega
  have l12 : (12 : Int) ≤ 14 := by omega
  have l14 : (14 : Int) ≤ (s.size : Int) := by omega
  have l8 : (8 : Int) ≤ (s.size : Int) := by omega
  have l812 : (12 : Int) ≤ (s.size : Int) := by omega
  have m8 : (n8 : Int) ≤ (s.size : Int) := by omega
  have m12 : (n12 : Int) ≤ (n8 : Int) := by omega
  have HT := Lib.hid T0; clear T0
  go_enter Tryz.func95, Tryz.ntmps95
  go_wp2_with fail
  refine (tells_of HT.out _).mono ?_; rintro e w1 ⟨rfl, rfl⟩
  go_wp2
  go_quiet (fail)
  go_wp2
  (try simp only [Exit.inBlock, Exit.then]); refine bodyPost_ret (results_tmp4 rfl _ _ _) rfl ?_
  exact ⟨rfl, below_drewN (Below.refl _ _) _⟩
set_option maxHeartbeats 2000000 in
theorem run_len (s : ByteArray) (k n8 n12 : Nat) (h26 : ¬ (s.size : Int) < 26) (h65 : ¬ (65536 : Int) < (s.size : Int)) (e8 : (s.size : Int) - 8 = (n8 : Int)) (e12 : (s.size : Int) - 12 = (n12 : Int)) (hk : k < 65536) (T0 : Tells (s.extract 12 14) k) (hg : ((s.extract 0 8).toList == (s.extract n8 s.size).toList) = true) (hi : ((s.extract 8 12).toList == (s.extract n12 n8).toList) = true) (hl : (s.size : Int) - 26 < (k : Int)) (w : World) :
    Calls Tryz.prog 95 #[.string s] w fun e w' => e = .returned (.tuple #[.int .u64 0, .int .u32 0, .string ⟨#[]⟩, .int .i64 4]) ∧ Below w.heap.size w w' := by
  have hu : IntKind.i64.wrap (k : Int) = (k : Int) := by rw [IntKind.wrap_i64]; omega
  have l12 : (12 : Int) ≤ 14 := by omega
  have l14 : (14 : Int) ≤ (s.size : Int) := by omega
  have l8 : (8 : Int) ≤ (s.size : Int) := by omega
  have l812 : (12 : Int) ≤ (s.size : Int) := by omega
  have m8 : (n8 : Int) ≤ (s.size : Int) := by omega
  have m12 : (n12 : Int) ≤ (n8 : Int) := by omega
  have HT := Lib.hid T0; clear T0
  go_enter Tryz.func95, Tryz.ntmps95
  go_wp2_with fail
  refine (tells_of HT.out _).mono ?_; rintro e w1 ⟨rfl, rfl⟩
  go_wp2
  go_quiet (fail)
  go_wp2
  (try simp only [Exit.inBlock, Exit.then]); refine bodyPost_ret (results_tmp4 rfl _ _ _) rfl ?_
  exact ⟨rfl, below_drewN (Below.refl _ _) _⟩
set_option maxHeartbeats 2000000 in
theorem run_other (s : ByteArray) (k n8 n12 : Nat) (h26 : ¬ (s.size : Int) < 26) (h65 : ¬ (65536 : Int) < (s.size : Int)) (e8 : (s.size : Int) - 8 = (n8 : Int)) (e12 : (s.size : Int) - 12 = (n12 : Int)) (hk : k < 65536) (T0 : Tells (s.extract 12 14) k) (hg : ((s.extract 0 8).toList == (s.extract n8 s.size).toList) = true) (hi : ((s.extract 8 12).toList == (s.extract n12 n8).toList) = true) (hl : ¬ (s.size : Int) - 26 < (k : Int)) (a : Nat) (ha : (14 : Int) + (k : Int) = (a : Int)) (p : Nat) (hap : a ≤ p) (hp : p < n12) (h0 : ∀ j (hj : j < s.size), a ≤ j → j < p → s[j].toNat = 0) (h1 : ∀ hj : p < s.size, s[p].toNat ≠ 0) (w : World) :
    Calls Tryz.prog 95 #[.string s] w fun e w' => e = .returned (.tuple #[.int .u64 0, .int .u32 0, .string ⟨#[]⟩, .int .i64 4]) ∧ Below w.heap.size w w' := by
  have hu : IntKind.i64.wrap (k : Int) = (k : Int) := by rw [IntKind.wrap_i64]; omega
  have l12 : (12 : Int) ≤ 14 := by omega
  have l14 : (14 : Int) ≤ (s.size : Int) := by omega
  have l8 : (8 : Int) ≤ (s.size : Int) := by omega
  have l812 : (12 : Int) ≤ (s.size : Int) := by omega
  have m8 : (n8 : Int) ≤ (s.size : Int) := by omega
  have m12 : (n12 : Int) ≤ (n8 : Int) := by omega
  have HT := Lib.hid T0; clear T0
  go_enter Tryz.func95, Tryz.ntmps95
  go_wp2_with fail
  refine (tells_of HT.out _).mono ?_; rintro e w1 ⟨rfl, rfl⟩
  go_wp2
  go_quiet (fail)
  go_wp2
  have H0 := Lib.hid h0; have H1 := Lib.hid h1; clear h0 h1
  go_loop [8] (fun i => ∃ j : Nat, a ≤ j ∧ j ≤ p ∧ i = .int .i64 j) (fun i => p - (intOf i).toNat)
  case atStart => exact ⟨a, by omega, hap, rfl⟩
  case round =>
    obtain ⟨j, haj, hjp, rfl⟩ := hrel
    have hjs : j < s.size := by omega
    have hjn : (j : Int) < (n12 : Int) := by omega
    by_cases hlt : j < p
    · have hz := H0.out j hjs haj hlt
      go_wp2
      · exact ⟨⟨j + 1, by omega, by omega, rfl⟩, by simp [intOf]; omega⟩
    · obtain rfl : j = p := by omega
      have hz := H1.out hjs
      have hz' : ((s[j].toNat : Int) == 0) = false := by rw [beq_eq_false_iff_ne]; omega
      go_wp2
      (try simp only [Exit.inBlock, Exit.then]); refine bodyPost_ret (results_tmp4 rfl _ _ _) rfl ?_
      exact ⟨rfl, below_drewN (Below.refl _ _) _⟩
set_option maxHeartbeats 2000000 in
theorem run_good (s : ByteArray) (k n8 n12 : Nat) (h26 : ¬ (s.size : Int) < 26) (h65 : ¬ (65536 : Int) < (s.size : Int)) (e8 : (s.size : Int) - 8 = (n8 : Int)) (e12 : (s.size : Int) - 12 = (n12 : Int)) (hk : k < 65536) (T0 : Tells (s.extract 12 14) k) (hg : ((s.extract 0 8).toList == (s.extract n8 s.size).toList) = true) (hi : ((s.extract 8 12).toList == (s.extract n12 n8).toList) = true) (hl : ¬ (s.size : Int) - 26 < (k : Int)) (a : Nat) (ha : (14 : Int) + (k : Int) = (a : Int)) (h0 : ∀ j (hj : j < s.size), a ≤ j → j < n12 → s[j].toNat = 0) (g i : Nat) (hi32 : i < 4294967296) (T1 : Tells (s.extract 0 8) g) (T2 : Tells (s.extract 8 12) i) (w : World) :
    Calls Tryz.prog 95 #[.string s] w fun e w' => e = .returned (.tuple #[.int .u64 (g : Nat), .int .u32 (i : Nat), .string (s.extract 14 a), .int .i64 0]) ∧ Below w.heap.size w w' := by
  have hu : IntKind.i64.wrap (k : Int) = (k : Int) := by rw [IntKind.wrap_i64]; omega
  have l12 : (12 : Int) ≤ 14 := by omega
  have l14 : (14 : Int) ≤ (s.size : Int) := by omega
  have l8 : (8 : Int) ≤ (s.size : Int) := by omega
  have l812 : (12 : Int) ≤ (s.size : Int) := by omega
  have m8 : (n8 : Int) ≤ (s.size : Int) := by omega
  have m12 : (n12 : Int) ≤ (n8 : Int) := by omega
  have HT := Lib.hid T0; clear T0
  go_enter Tryz.func95, Tryz.ntmps95
  go_wp2_with fail
  refine (tells_of HT.out _).mono ?_; rintro e w1 ⟨rfl, rfl⟩
  go_wp2
  go_quiet (fail)
  go_wp2
  have H0 := Lib.hid h0; clear h0
  have G1 := Lib.hid T1.2
  have G2 := Lib.hid T2.2
  have G3 : Hid (((val (List.take 4 (List.drop 8 s.data.toList)) : Nat) : Int) % 4294967296 = (i : Int)) := by
    have h := T2.2
    rw [extract_bs, bs_list] at h
    refine Lib.hid ?_
    rw [h]
    omega
  clear T1 T2
  have la : (14 : Int) ≤ (a : Int) := by omega
  have las : (a : Int) ≤ (s.size : Int) := by omega
  have l8' : (8 : Int) ≤ 12 := by omega
  have haN : a ≤ n12 := by omega
  have HB := Lib.hid (below_drewN (Below.refl w.heap.size w) nq)
  generalize w.drewN nq = W at *
  go_loop [8] (fun i => ∃ j : Nat, a ≤ j ∧ j ≤ n12 ∧ i = .int .i64 j) (fun i => n12 - (intOf i).toNat)
  case atStart => exact ⟨a, by omega, haN, rfl⟩
  case round =>
    obtain ⟨j, haj, hjp, rfl⟩ := hrel
    by_cases hlt : j < n12
    · have hjs : j < s.size := by omega
      have hjn : (j : Int) < (n12 : Int) := by omega
      have hz := H0.out j hjs haj hlt
      go_wp2
      · exact ⟨⟨j + 1, by omega, by omega, rfl⟩, by simp [intOf]; omega⟩
    · obtain rfl : j = n12 := by omega
      go_wp2
      go_quiet ((exact Calls.quiet_of_same ((told_ext s _ _ (by omega) _).mono fun _ _ hh => ⟨hh.1, hh.2.symm⟩)))
      rw [G1.out, G2.out, G3.out]
      go_wp2
      (try simp only [Exit.inBlock, Exit.then]); refine bodyPost_ret (results_tmp4 rfl _ _ _) rfl ?_
      exact ⟨rfl, below_drewN HB.out _⟩
end Go.Proofs.YtlidieffaaicaaaGreat
