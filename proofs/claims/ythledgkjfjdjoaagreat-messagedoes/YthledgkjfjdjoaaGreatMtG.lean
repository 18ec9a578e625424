/- The document's numbers, and metas of texts. Conditions: lengths below 2^40. -/
import Derived.Test.YthledgkjfjdjoaaGreatMtF
namespace Go.Proofs.YthledgkjfjdjoaaGreat.Mt
open Go.ChangeShapes Go.WideShapes Go.RowKit Go.Codec Go.Num Go.Mt
set_option maxRecDepth 100000
set_option linter.unusedSimpArgs false
set_option linter.unusedVariables false
theorem num_step (s : ByteArray) (a k : Nat) (ha : a ≤ k) (hk : k < s.size) : num s.data.toList a (k + 1) = num s.data.toList a k * 256 + s[k].toNat := by
  unfold num
  have hl : k < s.data.toList.length := by rw [← Lib.size_eq]; exact hk
  have e : k + 1 - a = (k - a) + 1 := by omega
  rw [e, List.take_succ_eq_append_getElem (by simp; simpa using (by omega : k - a < s.data.toList.length - a)), val_snoc]
  congr 2
  simp only [List.getElem_drop]
  have e2 : a + (k - a) = k := by omega
  simp only [e2]
  rfl
theorem num_none (l : List UInt8) (a : Nat) : num l a a = 0 := by unfold num; simp [Codec.val]
set_option maxHeartbeats 1000000 in
theorem rnum_any (s : ByteArray) (a b : Nat) (hab : a ≤ b) (h8 : b ≤ a + 8) (hb : b ≤ s.size) (hs : s.size ≤ 1099511627776) (w : World) :
    Calls Tryz.prog 87 #[.string s, .int .i64 a, .int .i64 b] w fun e w' => e = .returned (.int .u64 (num s.data.toList a b : Nat)) ∧ w = w' := by
  go_enter Tryz.func87, Tryz.ntmps87
  go_wp2
  go_loopw [7, 8] (fun n i W => ∃ k : Nat, a ≤ k ∧ k ≤ b ∧ i = .int .i64 k ∧ n = .int .u64 (num s.data.toList a k : Nat) ∧ W = w) (fun _ i _ => b - (intOf i).toNat)
  case atStart => exact ⟨a, by omega, by omega, rfl, by rw [num_none]; rfl, rfl⟩
  case round =>
    obtain ⟨k, hak, hkb, rfl, rfl, rfl⟩ := hrel
    by_cases hlt : k < b
    · have hks : k < s.size := by omega
      have ho := num_step s a k hak hks
      have hm : num s.data.toList a k < 256 ^ 7 := Nat.lt_of_lt_of_le (num_lt s.data.toList a k) (Nat.pow_le_pow_right (by decide) (by omega))
      have h256 : 256 ^ 7 = 72057594037927936 := by decide
      rw [h256] at hm
      clear h256
      generalize num s.data.toList a k = m at *
      have HO := Lib.hid ho; clear ho
      have hby := s[k].toNat_lt
      have hwr : IntKind.u64.wrap (s[k].toNat : Int) = (s[k].toNat : Int) := by
        rw [IntKind.wrap_u64]; omega
      go_wp2
      refine ⟨⟨k + 1, by omega, by omega, by go_num, ?_, by trivial⟩, ?_⟩
      · rw [HO.out]; congr 1
      · simp [intOf]; omega
    · obtain rfl : k = b := by omega
      go_wp2
      go_ret
      exact ⟨rfl, rfl⟩
end Go.Proofs.YthledgkjfjdjoaaGreat.Mt
