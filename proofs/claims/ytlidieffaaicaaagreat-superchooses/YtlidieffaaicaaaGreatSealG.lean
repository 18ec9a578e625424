/- The document's answer: numbers as bytes and back, sealing, opening, filling up. Conditions: lengths below 2^30. -/
import Derived.Test.YtlidieffaaicaaaGreatSealA
import Derived.OwnWalk
namespace Go.Proofs.YtlidieffaaicaaaGreat
open Go.ChangeShapes Go.WideShapes Go.RowKit Go.Codec
set_option maxRecDepth 100000
set_option linter.unusedVariables false
theorem one_text (b : UInt8) (w : World) : (convert 72 9 (.slice (some ⟨w.heap.size, 0, none⟩) 1 1)).run Tryz.prog (w.alloc (.cells #[.int .u8 b.toNat] 5)) = .ok (.string (bs [b])) (w.alloc (.cells #[.int .u8 b.toNat] 5)) := by
  have h := run_convert_bytes_back (P := Tryz.prog) (w.alloc (.cells #[.int .u8 b.toNat] 5)) 72 9 5 ⟨w.heap.size, 0, none⟩ 1 [b] Tryz.underlying72 Tryz.underlying5 Tryz.underlying9 (fun j hj => by
    have hj' : j = 0 := by simpa using hj
    subst hj'
    have e : (⟨w.heap.size, 0, none⟩ : Addr).add 0 = ⟨w.heap.size, 0, none⟩ := by unfold Addr.add; simp
    rw [e]
    exact (Is.new w 5 _).cell 0)
  exact h
theorem number_any (n0 width : Nat) (hn : n0 < 18446744073709551616) (hw : width ≤ 8) (w : World) :
    Calls Tryz.prog 70 #[.int .u64 n0, .int .i64 width] w fun e w' => e = .returned (.string (bs (be width n0))) ∧ Below w.heap.size w w' := by
  go_enter Tryz.func70, Tryz.ntmps70
  go_wp2
  go_loopw [0, 5, 6] (fun v s i W => ∃ k m : Nat, k ≤ width ∧ i = .int .i64 k ∧ m = n0 / 256 ^ k ∧ v = .int .u64 m ∧ s = .string (bs (be k n0)) ∧ Below w.heap.size w W) (fun _ _ i _ => width - (intOf i).toNat)
  case atStart => exact ⟨0, n0, by omega, rfl, by simp, rfl, rfl, Below.refl _ _⟩
  case round =>
    obtain ⟨k, m, hk, rfl, hm, rfl, rfl, hb⟩ := hrel
    have HB := Lib.hid hb; clear hb
    have hml : m < 18446744073709551616 := by rw [hm]; exact Nat.lt_of_le_of_lt (Nat.div_le_self _ _) hn
    by_cases hlt : k < width
    · obtain ⟨b, hb⟩ : ∃ b : UInt8, b = UInt8.ofNat m := ⟨_, rfl⟩
      obtain ⟨x, hx⟩ : ∃ x, x = b.toNat := ⟨_, rfl⟩
      have hx8 : x < 256 := by rw [hx]; exact b.toNat_lt
      have hxm : x = m % 256 := by rw [hx, hb]; simp
      have h1 : (m : Int) % 256 = (x : Int) := by omega
      have h2 : IntKind.u8.wrap (x : Int) = (x : Int) := by rw [IntKind.wrap_u8]; omega
      have h3 : (m : Int) / 256 = ((m / 256 : Nat) : Int) := by omega
      obtain ⟨d, hd⟩ : ∃ d, d = m / 256 := ⟨_, rfl⟩
      rw [← hd] at h3
      have hcv := one_text b wr
      rw [← hx] at hcv
      have hb1 : Below w.heap.size w (wr.alloc (.cells #[.int .u8 x] 5)) := HB.out.alloc HB.out.size _
      have happ : bs [b] ++ bs (be k n0) = bs (be (k + 1) n0) := by
        rw [bs_append, hb, hm]; rfl
      have hd2 : d = n0 / 256 ^ (k + 1) := by rw [hd, hm, Nat.div_div_eq_div_mul, Nat.pow_succ]
      have HA := Lib.hid happ; have HD := Lib.hid hd2; have HB1 := Lib.hid hb1
      clear happ hd2 hb1 hm hb hx hxm hd HB
      have hsz : ¬ 9223372036854775807 < (bs [b]).size + (bs (be k n0)).size := by rw [bs_size, bs_size, be_length]; simp; omega
      generalize be k n0 = l at *
      go_wp2
      exact ⟨⟨k + 1, d, by omega, rfl, HD.out, rfl, congrArg _ HA.out, HB1.out⟩, by simp [intOf]; omega⟩
    · obtain rfl : k = width := by omega
      clear hm
      go_wp2
      go_ret
      exact ⟨rfl, HB.out⟩
theorem told_step (s : ByteArray) (k : Nat) (hk : k < s.size) (hs : s.size ≤ 8) : val (s.data.toList.take (k + 1)) = val (s.data.toList.take k) * 256 + s[k].toNat ∧ val (s.data.toList.take (k + 1)) < 18446744073709551616 := by
  refine ⟨by rw [take_snoc s k hk, val_snoc], ?_⟩
  have h1 := val_lt (s.data.toList.take (k + 1))
  have h2 : (s.data.toList.take (k + 1)).length ≤ 8 := by rw [List.length_take]; omega
  have h3 : 256 ^ (s.data.toList.take (k + 1)).length ≤ 256 ^ 8 := Nat.pow_le_pow_right (by decide) h2
  omega
theorem told_any (s : ByteArray) (hs : s.size ≤ 8) (w : World) :
    Calls Tryz.prog 96 #[.string s] w fun e w' => e = .returned (.int .u64 (val s.data.toList : Nat)) ∧ w = w' := by
  go_enter Tryz.func96, Tryz.ntmps96
  go_wp2
  go_loop [3, 4] (fun v i => ∃ k m : Nat, k ≤ s.size ∧ i = .int .i64 k ∧ v = .int .u64 m ∧ m = val (s.data.toList.take k)) (fun _ i => s.size - (intOf i).toNat)
  case atStart => exact ⟨0, 0, by omega, rfl, rfl, by simp [val]⟩
  case round =>
    obtain ⟨k, m, hk, rfl, rfl, hm⟩ := hrel
    by_cases hlt : k < s.size
    · obtain ⟨h1, h2⟩ := told_step s k hlt hs
      rw [← hm] at h1
      obtain ⟨z, hz⟩ : ∃ z, z = val (s.data.toList.take (k + 1)) := ⟨_, rfl⟩
      rw [← hz] at h1 h2
      obtain ⟨c, hc⟩ : ∃ c, c = s[k].toNat := ⟨_, rfl⟩
      have hc8 : c < 256 := by rw [hc]; exact s[k].toNat_lt
      rw [← hc] at h1
      obtain ⟨y, hy⟩ : ∃ y, y = m * 256 := ⟨_, rfl⟩
      have q1 : IntKind.u64.wrap ((m : Int) * 256) = (y : Int) := by rw [IntKind.wrap_u64]; omega
      have q2 : IntKind.u64.wrap ((y : Int) + (c : Int)) = (z : Int) := by rw [IntKind.wrap_u64]; omega
      have q3 : IntKind.u64.wrap (c : Int) = (c : Int) := by rw [IntKind.wrap_u64]; omega
      have q4 : (s[k].toNat : Int) = (c : Int) := by omega
      have HZ := Lib.hid hz
      clear hz hm h1 hy hc
      go_wp2
      refine ⟨⟨k + 1, z, by omega, rfl, rfl, HZ.out⟩, by simp [intOf]; omega⟩
    · obtain rfl : k = s.size := by omega
      rw [Lib.size_eq, List.take_length] at hm
      have HM := Lib.hid hm; clear hm
      go_wp2
      go_ret
      rw [← HM.out]
      exact ⟨rfl, rfl⟩
theorem told_list (l : List UInt8) (hl : l.length ≤ 8) (w : World) :
    Calls Tryz.prog 96 #[.string (bs l)] w fun e w' => e = .returned (.int .u64 (val l : Nat)) ∧ w = w' := by
  have h := told_any (bs l) (by rw [bs_size]; exact hl) w
  rw [bs_list] at h
  exact h
theorem bs_app (s : ByteArray) (l : List UInt8) : bs l ++ s = bs (l ++ s.data.toList) := by rw [← bs_append, list_bs]
end Go.Proofs.YtlidieffaaicaaaGreat
