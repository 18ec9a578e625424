/- The document's answer: numbers as bytes and back, sealing, opening, filling up. Conditions: lengths below 2^30. -/
import Derived.Test.YtmjgbafoemdlpaaDoorSealA
import Derived.OwnWalk
namespace Go.Proofs.YtmjgbafoemdlpaaDoor
open Go.ChangeShapes Go.WideShapes Go.RowKit Go.Codec
set_option maxRecDepth 100000
set_option linter.unusedVariables false
theorem one_text (b : UInt8) (w : World) : (convert 46 9 (.slice (some ⟨w.heap.size, 0, none⟩) 1 1)).run Tryd.prog (w.alloc (.cells #[.int .u8 b.toNat] 5)) = .ok (.string (bs [b])) (w.alloc (.cells #[.int .u8 b.toNat] 5)) := by
  have h := run_convert_bytes_back (P := Tryd.prog) (w.alloc (.cells #[.int .u8 b.toNat] 5)) 46 9 5 ⟨w.heap.size, 0, none⟩ 1 [b] Tryd.underlying46 Tryd.underlying5 Tryd.underlying9 (fun j hj => by
    have hj' : j = 0 := by simpa using hj
    subst hj'
    have e : (⟨w.heap.size, 0, none⟩ : Addr).add 0 = ⟨w.heap.size, 0, none⟩ := by unfold Addr.add; simp
    rw [e]
    exact (Is.new w 5 _).cell 0)
  exact h
theorem number_any (n0 width : Nat) (hn : n0 < 18446744073709551616) (hw : width ≤ 8) (w : World) :
    Calls Tryd.prog 31 #[.int .u64 n0, .int .i64 width] w fun e w' => e = .returned (.string (bs (be width n0))) ∧ Below w.heap.size w w' := by
  go_enter Tryd.func31, Tryd.ntmps31
  go_wp2
  go_loopw [0, 5, 6] (fun v s i W => ∃ k m : Nat, k ≤ width ∧ i = .int .i64 k ∧ m = n0 / 256 ^ k ∧ v = .int .u64 m ∧ s = .string (bs (be k n0)) ∧ Below w.heap.size w W) (fun _ _ i _ => width - (intOf i).toNat)
  case atStart => exact ⟨0, n0, by omega, rfl, by simp, rfl, rfl, Below.refl _ _⟩
  case round =>
    obtain ⟨k, m, hk, rfl, hm, rfl, rfl, hb⟩ := hrel
    have HB := Lib.hid hb; clear hb
    have hml : m < 18446744073709551616 := by rw [hm]; exact Nat.lt_of_le_of_lt (Nat.div_le_self _ _) hn
    by_cases hlt : k < width
    · obtain ⟨b, hb⟩ : ∃ b : UInt8, b = UInt8.ofNat m := ⟨_, rfl⟩
      obtain ⟨x, hx⟩ : ∃ x, x = b.toNat := ⟨_, rfl⟩
      have hx8 : x < 256 := by rw [hx]; exact b.toNat_lt
      have hxm : x = m % 256 := by rw [hx, hb]; simp
      have h1 : (m : Int) % 256 = (x : Int) := by omega
      have h2 : IntKind.u8.wrap (x : Int) = (x : Int) := by rw [IntKind.wrap_u8]; omega
      have h3 : (m : Int) / 256 = ((m / 256 : Nat) : Int) := by omega
      obtain ⟨d, hd⟩ : ∃ d, d = m / 256 := ⟨_, rfl⟩
      rw [← hd] at h3
      have hcv := one_text b wr
      rw [← hx] at hcv
      have hb1 : Below w.heap.size w (wr.alloc (.cells #[.int .u8 x] 5)) := HB.out.alloc HB.out.size _
      have happ : bs [b] ++ bs (be k n0) = bs (be (k + 1) n0) := by
        rw [bs_append, hb, hm]; rfl
      have hd2 : d = n0 / 256 ^ (k + 1) := by rw [hd, hm, Nat.div_div_eq_div_mul, Nat.pow_succ]
      have HA := Lib.hid happ; have HD := Lib.hid hd2; have HB1 := Lib.hid hb1
      clear happ hd2 hb1 hm hb hx hxm hd HB
      have hsz : ¬ 9223372036854775807 < (bs [b]).size + (bs (be k n0)).size := by rw [bs_size, bs_size, be_length]; simp; omega
      generalize be k n0 = l at *
      go_wp2
      exact ⟨⟨k + 1, d, by omega, rfl, HD.out, rfl, congrArg _ HA.out, HB1.out⟩, by simp [intOf]; omega⟩
    · obtain rfl : k = width := by omega
      clear hm
      go_wp2
      go_ret
      exact ⟨rfl, HB.out⟩
theorem told_step (s : ByteArray) (k : Nat) (hk : k < s.size) (hs : s.size ≤ 8) : val (s.data.toList.take (k + 1)) = val (s.data.toList.take k) * 256 + s[k].toNat ∧ val (s.data.toList.take (k + 1)) < 18446744073709551616 := by
  refine ⟨by rw [take_snoc s k hk, val_snoc], ?_⟩
  have h1 := val_lt (s.data.toList.take (k + 1))
  have h2 : (s.data.toList.take (k + 1)).length ≤ 8 := by rw [List.length_take]; omega
  have h3 : 256 ^ (s.data.toList.take (k + 1)).length ≤ 256 ^ 8 := Nat.pow_le_pow_right (by decide) h2
  omega
theorem told_any (s : ByteArray) (hs : s.size ≤ 8) (w : World) :
    Calls Tryd.prog 38 #[.string s] w fun e w' => e = .returned (.int .u64 (val s.data.toList : Nat)) ∧ w = w' := by
  go_enter Tryd.func38, Tryd.ntmps38
  go_wp2
  go_loop [3, 4] (fun v i => ∃ k m : Nat, k ≤ s.size ∧ i = .int .i64 k ∧ v = .int .u64 m ∧ m = val (s.data.toList.take k)) (fun _ i => s.size - (intOf i).toNat)
  case atStart => exact ⟨0, 0, by omega, rfl, rfl, by simp [val]⟩
  case round =>
    obtain ⟨k, m, hk, rfl, rfl, hm⟩ := hrel
    by_cases hlt : k < s.size
    · obtain ⟨h1, h2⟩ := told_step s k hlt hs
      rw [← hm] at h1
      obtain ⟨z, hz⟩ : ∃ z, z = val (s.data.toList.take (k + 1)) := ⟨_, rfl⟩
      rw [← hz] at h1 h2
      obtain ⟨c, hc⟩ : ∃ c, c = s[k].toNat := ⟨_, rfl⟩
      have hc8 : c < 256 := by rw [hc]; exact s[k].toNat_lt
      rw [← hc] at h1
      obtain ⟨y, hy⟩ : ∃ y, y = m * 256 := ⟨_, rfl⟩
      have q1 : IntKind.u64.wrap ((m : Int) * 256) = (y : Int) := by rw [IntKind.wrap_u64]; omega
      have q2 : IntKind.u64.wrap ((y : Int) + (c : Int)) = (z : Int) := by rw [IntKind.wrap_u64]; omega
      have q3 : IntKind.u64.wrap (c : Int) = (c : Int) := by rw [IntKind.wrap_u64]; omega
      have q4 : (s[k].toNat : Int) = (c : Int) := by omega
      have HZ := Lib.hid hz
      clear hz hm h1 hy hc
      go_wp2
      refine ⟨⟨k + 1, z, by omega, rfl, rfl, HZ.out⟩, by simp [intOf]; omega⟩
    · obtain rfl : k = s.size := by omega
      rw [Lib.size_eq, List.take_length] at hm
      have HM := Lib.hid hm; clear hm
      go_wp2
      go_ret
      rw [← HM.out]
      exact ⟨rfl, rfl⟩
theorem told_list (l : List UInt8) (hl : l.length ≤ 8) (w : World) :
    Calls Tryd.prog 38 #[.string (bs l)] w fun e w' => e = .returned (.int .u64 (val l : Nat)) ∧ w = w' := by
  have h := told_any (bs l) (by rw [bs_size]; exact hl) w
  rw [bs_list] at h
  exact h
theorem rsum_list (l : List UInt8) (hl : l.length ≤ 1099511627776) (w : World) :
    Calls Tryd.prog 32 #[.string (bs l)] w fun e w' => e = .returned (.int .u32 (Seal.sum l : Nat)) ∧ w = w' := by
  have h := rsum_any (bs l) (by rw [bs_size]; unfold maxLen; omega) w
  unfold bl at h
  rw [bs_list] at h
  exact h
theorem bs_app (s : ByteArray) (l : List UInt8) : bs l ++ s = bs (l ++ s.data.toList) := by rw [← bs_append, list_bs]
theorem rseal_long (s : ByteArray) (hs : 65535 < s.size) (hm : s.size ≤ 1073741824) (w : World) :
    Calls Tryd.prog 12 #[.string s] w fun e w' => e = .returned (.tuple #[.string ⟨#[]⟩, .int .i64 3]) ∧ Below w.heap.size w w' := by
  go_enter Tryd.func12, Tryd.ntmps12
  go_wp2
  go_ret2
  exact ⟨rfl, Below.refl _ _⟩
theorem rseal_short (s : ByteArray) (hs : s.size ≤ 65535) (w : World) :
    Calls Tryd.prog 12 #[.string s] w fun e w' => e = .returned (.tuple #[.string (bs (Seal.body s.data.toList)), .int .i64 0]) ∧ Below w.heap.size w w' := by
  have hu : IntKind.u64.wrap (s.size : Int) = (s.size : Int) := by rw [IntKind.wrap_u64]; omega
  have H1 := Lib.hid (number_any s.size 2 (by omega) (by omega) w)
  have happ : bs (be 2 s.size) ++ s = bs (Seal.head s.data.toList) := by rw [bs_app, Lib.size_eq]; rfl
  have z1 : ¬ 9223372036854775807 < (bs (be 2 s.size)).size + s.size := by rw [bs_size, be_length]; omega
  have hhl := Seal.head_length s.data.toList
  rw [← Lib.size_eq] at hhl
  have eb : Seal.body s.data.toList = Seal.head s.data.toList ++ be 4 (Seal.sum (Seal.head s.data.toList)) := rfl
  rw [eb]; clear eb
  generalize Seal.head s.data.toList = hd at *
  have hq := Seal.sum_lt hd
  have H2 := Lib.hid (fun w' => rsum_list hd (by omega) w')
  generalize Seal.sum hd = c at *
  have hv : IntKind.u64.wrap (c : Int) = (c : Int) := by rw [IntKind.wrap_u64]; omega
  have H3 := Lib.hid (fun w' => number_any c 4 (by omega) (by omega) w')
  have z2 : ¬ 9223372036854775807 < (bs hd).size + (bs (be 4 c)).size := by rw [bs_size, bs_size, be_length]; omega
  have hap2 : bs hd ++ bs (be 4 c) = bs (hd ++ be 4 c) := bs_append _ _
  generalize hd ++ be 4 c = r at *
  clear hhl
  generalize be 2 s.size = l2 at *
  go_enter Tryd.func12, Tryd.ntmps12
  go_wp2_with fail
  refine H1.out.mono ?_; rintro e w1 ⟨rfl, b1⟩
  have B1 := Lib.hid b1; clear b1
  go_wp2_with fail
  refine (H2.out _).mono ?_; rintro e w2 ⟨rfl, rfl⟩
  go_wp2_with fail
  refine (H3.out _).mono ?_; rintro e w2 ⟨rfl, b2⟩
  have B2 := Lib.hid (B1.out.trans (b2.mono B1.out.size)); clear b2
  go_wp2
  go_ret2
  exact ⟨rfl, B2.out⟩
theorem rseal_any (s : ByteArray) (hs : s.size ≤ 1073741824) (w : World) :
    Calls Tryd.prog 12 #[.string s] w fun e w' => e = .returned (.tuple #[.string (bs (Seal.sealL s.data.toList).1), .int .i64 (Seal.sealL s.data.toList).2]) ∧ Below w.heap.size w w' := by
  unfold Seal.sealL
  rw [← Lib.size_eq]
  by_cases h : 65535 < s.size
  · rw [if_pos h]
    exact rseal_long s h hs w
  · rw [if_neg h]
    exact rseal_short s (by omega) w
end Go.Proofs.YtmjgbafoemdlpaaDoor
