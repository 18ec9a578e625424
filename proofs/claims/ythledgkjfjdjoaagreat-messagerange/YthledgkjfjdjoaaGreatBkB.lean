/- Trim and At, by the program. Conditions: lengths below 2^40. -/
import Derived.Test.YthledgkjfjdjoaaGreatBkA
namespace Go.Proofs.YthledgkjfjdjoaaGreat.Bk
open Go.ChangeShapes Go.WideShapes Go.RowKit Go.Codec Go.Blk
set_option maxRecDepth 100000
theorem trim_any (s : ByteArray) (hs : s.size ≤ 1099511627776) (w : World) : Calls Tryz.prog 139 #[.string s] w fun e w' => e = .returned (.string (bs (trim s.data.toList))) ∧ Below w.heap.size w w' := by
  have hl : (bs (trim s.data.toList)).size ≤ 1099511627776 := by
    rw [bs_size]
    have := trim_len s.data.toList
    rw [← Lib.size_eq] at this
    omega
  have HC := Lib.hid (clone (bs (trim s.data.toList)) hl w); clear hl
  go_enter Tryz.func139, Tryz.ntmps139
  go_wp2
  go_loopw [7] (fun n W => ∃ k : Nat, k ≤ s.size ∧ n = .int .i64 k ∧ (∀ i, s.size - k ≤ i → byte s.data.toList i = 0) ∧ w = W) (fun n _ => s.size - (intOf n).toNat)
  case atStart => exact ⟨0, by omega, rfl, fun i hi => byte_out (by rw [← Lib.size_eq]; omega), rfl⟩
  case round =>
    obtain ⟨k, hk, rfl, h0, rfl⟩ := hrel
    have HZ := Lib.hid h0; clear h0
    by_cases hlt : k < s.size
    · obtain ⟨m, hm⟩ : ∃ m, s.size - k = m + 1 := ⟨s.size - k - 1, by omega⟩
      have hi : (s.size : Int) - (k : Int) = (m : Int) + 1 := by omega
      have hi2 : (m : Int) + 1 - 1 = (m : Int) := by omega
      have hml : m < s.size := by omega
      have hb := byte_at hml
      have HZ' := Lib.hid (hm ▸ HZ.out); clear HZ
      have HM := Lib.hid hm; clear hm
      by_cases h2 : s[m] = 0
      · have hz : ((s[m].toNat : Int) != 0) = false := by rw [bne, toNat_zero]; simpa using h2
        rw [h2] at hb
        have HB := Lib.hid hb; clear hb h2
        go_wp2
        have hm := HM.out
        refine ⟨⟨k + 1, by omega, by go_num, fun i hi => ?_, by trivial⟩, ?_⟩
        · by_cases e : i = m
          · rw [e]; exact HB.out
          · exact HZ'.out i (by omega)
        · simp [intOf]; omega
      · have hz : ((s[m].toNat : Int) != 0) = true := by rw [bne, toNat_zero]; simpa using h2
        have hx := trim_at (m := m + 1) (by omega) HZ'.out fun _ => by rw [Nat.add_sub_cancel, hb]; exact h2
        clear hb h2
        go_wp2_with (go_at_call 48; refine HC.out.mono ?_; rintro e w' ⟨rfl, hb⟩; have HB := Lib.hid hb; clear hb)
        go_ret
        exact ⟨rfl, HB.out⟩
    · obtain rfl : k = s.size := by omega
      have hx := trim_at (m := 0) (by omega) (by have := HZ.out; rwa [Nat.sub_self] at this) (by omega)
      rw [Lib.extract_eq] at hx
      have hy : ByteArray.empty = bs (trim s.data.toList) := by rw [← hx]; simp; rfl
      clear hx
      have HY := Lib.hid hy; clear hy
      go_wp2
      go_ret
      exact ⟨congrArg (fun x => Ending.returned (.string x)) HY.out, Below.refl _ _⟩
end Go.Proofs.YthledgkjfjdjoaaGreat.Bk
