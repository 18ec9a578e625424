/- Check, Trim and At: the program's and the document's. Conditions: lengths below 2^40. -/
import Derived.Test.YthledgkjfjdjoaaGreatBlkB
import Derived.Test.YthledgkjfjdjoaaGreatCodF
import Derived.Deep.RegionHeld3
import Derived.Deep.Cut
namespace Go.Proofs.YthledgkjfjdjoaaGreat.Bk
open Go.ChangeShapes Go.WideShapes Go.RowKit Go.Codec Go.Blk
set_option maxRecDepth 100000
theorem below_alloc {a b : World} (h : Below a.heap.size a b) (o : Obj) : Below a.heap.size a (b.alloc o) := h.alloc h.size _
theorem ret_bool {a b : Bool} (h : a = b) : Ending.returned (.bool a) = .returned (.bool b) := by rw [h]
theorem byte_eq {s : ByteArray} {k : Nat} (hk : k < s.size) : s.data.toList[k]? = some s[k] := by
  rw [Array.getElem?_toList]
  exact Array.getElem?_eq_getElem hk
theorem byte_at {s : ByteArray} {k : Nat} (hk : k < s.size) : byte s.data.toList k = s[k] := by simp [byte, byte_eq hk]
theorem toNat_zero {b : UInt8} : ((b.toNat : Int) == 0) = (b == 0) := by
  rw [Bool.eq_iff_iff]
  simp
  constructor
  · intro h; apply UInt8.toNat_inj.1; simpa using h
  · rintro rfl; rfl
theorem ckV_none {l : List UInt8} (h : l = []) : ckV l = 4 := if_pos (.inl h)
theorem ckV_long {l : List UInt8} (h : 64 < l.length) : ckV l = 4 := if_pos (.inr (.inl h))
theorem ckV_in {l : List UInt8} (h0 : 0 < l.length) (h : l.length ≤ 64) : ckV l = if byte l (l.length - 1) = 0 then 4 else 0 := by
  unfold ckV
  by_cases hb : byte l (l.length - 1) = 0
  · rw [if_pos hb, if_pos (.inr (.inr hb))]
  · rw [if_neg hb, if_neg]
    rintro (e | e | e)
    · subst e; simp at h0
    · omega
    · exact hb e
section
variable (s : ByteArray) (hs : s.size ≤ 1099511627776) (w : World)
include hs in
theorem check_any : Calls Tryz.prog 107 #[.string s] w fun e w' => e = .returned (.int .i64 (ckV s.data.toList : Nat)) ∧ w = w' := by
  by_cases h0 : s.size = 0
  · have e := empty_of_size h0
    subst e
    go_enter Tryz.func107, Tryz.ntmps107
    go_wp2
    go_ret
    exact ⟨rfl, rfl⟩
  · have hne : s.toList.isEmpty = false := by
      rw [Lib.toList_data]
      rcases h : s.data.toList with _ | ⟨x, l⟩
      · rw [Lib.size_eq, h] at h0; simp at h0
      · rfl
    by_cases h1 : 64 < s.size
    · rw [ckV_long (by rw [← Lib.size_eq]; exact h1)]
      go_enter Tryz.func107, Tryz.ntmps107
      go_wp2
      go_ret
      exact ⟨rfl, rfl⟩
    · have e : ckV s.data.toList = if s[s.size - 1] = 0 then 4 else 0 := by
        rw [ckV_in (by rw [← Lib.size_eq]; omega) (by rw [← Lib.size_eq]; omega), ← Lib.size_eq, byte_at (by omega)]
      rw [e]
      have hlt : s.size - 1 < s.size := by omega
      have hz := toNat_zero (b := s[s.size - 1])
      by_cases h2 : s[s.size - 1] = 0
      · rw [if_pos h2]
        rw [h2] at hz
        go_enter Tryz.func107, Tryz.ntmps107
        go_wp2
        go_ret
        exact ⟨rfl, rfl⟩
      · rw [if_neg h2]
        have hz2 : ((s[s.size - 1].toNat : Int) == 0) = false := by rw [hz]; simpa using h2
        clear hz
        go_enter Tryz.func107, Tryz.ntmps107
        go_wp2
        go_ret
        exact ⟨rfl, rfl⟩
include hs in
theorem rcheck_any : Calls Tryz.prog 100 #[.string s] w fun e w' => e = .returned (.int .i64 (ckV s.data.toList : Nat)) ∧ w = w' := by
  by_cases h0 : s.size = 0
  · have e := empty_of_size h0
    subst e
    go_enter Tryz.func100, Tryz.ntmps100
    go_wp2
    go_ret
    exact ⟨rfl, rfl⟩
  · have hq : ((s.size : Int) == 0) = false := beq_eq_false_iff_ne.2 (by omega)
    by_cases h1 : 64 < s.size
    · rw [ckV_long (by rw [← Lib.size_eq]; exact h1)]
      go_enter Tryz.func100, Tryz.ntmps100
      go_wp2
      go_ret
      exact ⟨rfl, rfl⟩
    · have e : ckV s.data.toList = if s[s.size - 1] = 0 then 4 else 0 := by
        rw [ckV_in (by rw [← Lib.size_eq]; omega) (by rw [← Lib.size_eq]; omega), ← Lib.size_eq, byte_at (by omega)]
      rw [e]
      have hlt : s.size - 1 < s.size := by omega
      have hz := toNat_zero (b := s[s.size - 1])
      by_cases h2 : s[s.size - 1] = 0
      · rw [if_pos h2]
        rw [h2] at hz
        go_enter Tryz.func100, Tryz.ntmps100
        go_wp2
        go_ret
        exact ⟨rfl, rfl⟩
      · rw [if_neg h2]
        have hz2 : ((s[s.size - 1].toNat : Int) == 0) = false := by rw [hz]; simpa using h2
        clear hz
        go_enter Tryz.func100, Tryz.ntmps100
        go_wp2
        go_ret
        exact ⟨rfl, rfl⟩
theorem byteAt_any (i : Nat) : Calls Tryz.prog 85 #[.string s, .int .i64 i] w fun e w' => e = .returned (.int .u8 (byte s.data.toList i).toNat) ∧ w = w' := by
  by_cases h : i < s.size
  · rw [byte_at h]
    go_enter Tryz.func85, Tryz.ntmps85
    go_wp2
    go_ret
    exact ⟨rfl, rfl⟩
  · rw [byte_out (by rw [← Lib.size_eq]; omega)]
    go_enter Tryz.func85, Tryz.ntmps85
    go_wp2
    go_ret
    exact ⟨rfl, rfl⟩
theorem trim_at {s : ByteArray} {m : Nat} (hm : m ≤ s.size) (h0 : ∀ i, m ≤ i → byte s.data.toList i = 0) (h1 : 0 < m → byte s.data.toList (m - 1) ≠ 0) : s.extract 0 m = bs (trim s.data.toList) := by
  rw [trim_eq (by rw [← Lib.size_eq]; omega) h0 h1, Lib.extract_eq]
  simp
  rfl
include hs in
theorem rtrim_any : Calls Tryz.prog 86 #[.string s] w fun e w' => e = .returned (.string (bs (trim s.data.toList))) ∧ w = w' := by
  go_enter Tryz.func86, Tryz.ntmps86
  go_wp2
  go_loopw [3] (fun n W => ∃ m : Nat, m ≤ s.size ∧ n = .int .i64 m ∧ (∀ i, m ≤ i → byte s.data.toList i = 0) ∧ w = W) (fun n _ => (intOf n).toNat)
  case atStart => exact ⟨s.size, by omega, rfl, fun i hi => byte_out (by rw [← Lib.size_eq]; omega), rfl⟩
  case round =>
    obtain ⟨m, hm, rfl, h0, rfl⟩ := hrel
    have HZ := Lib.hid h0; clear h0
    by_cases hlt : 0 < m
    · have hml : m - 1 < s.size := by omega
      have hb := byte_at hml
      by_cases h2 : s[m - 1] = 0
      · have hz : ((s[m - 1].toNat : Int) == 0) = true := by rw [toNat_zero]; simpa using h2
        rw [h2] at hb
        have HB := Lib.hid hb; clear hb h2
        go_wp2
        refine ⟨⟨m - 1, by omega, by go_num, fun i hi => ?_, by trivial⟩, ?_⟩
        · by_cases e : i = m - 1
          · rw [e]; exact HB.out
          · exact HZ.out i (by omega)
        · simp [intOf]; omega
      · have hz : ((s[m - 1].toNat : Int) == 0) = false := by rw [toNat_zero]; simpa using h2
        have hx := trim_at hm HZ.out fun _ => by rw [hb]; exact h2
        clear hb h2
        go_wp2
        go_ret
        exact ⟨rfl, rfl⟩
    · obtain rfl : m = 0 := by omega
      have hx := trim_at hm HZ.out (by omega)
      rw [Lib.extract_eq] at hx
      have hy : ByteArray.empty = bs (trim s.data.toList) := by rw [← hx]; simp; rfl
      clear hx
      have HY := Lib.hid hy; clear hy
      go_wp2
      go_ret
      exact ⟨congrArg (fun x => Ending.returned (.string x)) HY.out, rfl⟩
end
end Go.Proofs.YthledgkjfjdjoaaGreat.Bk
