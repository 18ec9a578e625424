/- What the document's joining gives: a contract over the translated program. Conditions: numbers of 32 bits. -/
import Derived.Test.YtfjjeplcnkmjgaaDoorWalksE
import Derived.Deep.OwnRows
import Derived.Laws.IdiomStrings
namespace Go.Proofs.YtfjjeplcnkmjgaaDoor
open Go.ChangeShapes Go.WideShapes Go.RowKit
theorem info5 : (Tryd.prog.info? 5).map (fun i => (i.zero, i.size, i.bytes)) = some (some (.int .u8 0), 1, 1) := by kernel_rfl
def zs (n : Nat) : ByteArray := ⟨(List.replicate n (0 : UInt8)).toArray⟩
theorem zs_size (n : Nat) : (zs n).size = n := by
  show ((List.replicate n (0 : UInt8)).toArray).size = n
  simp
theorem bl_zs (n : Nat) : bl (zs n) = List.replicate n 0 := by
  show ((List.replicate n (0 : UInt8)).toArray.toList).map (·.toNat) = _
  simp
def zw (w : World) (n : Nat) : World := w.alloc (.cells (madeCells #[.int .u8 0] n) 5)
theorem make_z (n : Nat) (hn : n ≤ 65535) (w : World) : (Instr.makeSlice 30 (.int .i64 (n : Int)) (.int .i64 (n : Int))).run Tryd.prog w = .ok (.slice (some ⟨w.heap.size, 0, none⟩) n n) (zw w n) :=
  run_make_row' 30 5 (.int .u8 0) 1 Tryd.underlying30 info5 rfl .i64 .i64 n (by omega) (by omega) w
theorem text_z (n : Nat) (w : World) : (convert 30 9 (.slice (some ⟨w.heap.size, 0, none⟩) n n)).run Tryd.prog (zw w n) = .ok (.string (zs n)) (zw w n) := by
  have h := run_convert_bytes_back (P := Tryd.prog) (zw w n) 30 9 5 ⟨w.heap.size, 0, none⟩ n (List.replicate n (0 : UInt8)) Tryd.underlying30 Tryd.underlying5 Tryd.underlying9 (fun j hj => by
    have hj' : j < n := by simpa using hj
    have e : (⟨w.heap.size, 0, none⟩ : Addr).add j = ⟨w.heap.size, j, none⟩ := by unfold Addr.add; split <;> simp_all
    rw [e]
    refine cell_new _ _ _ _ _ ?_
    rw [← Array.getElem?_toList, toList_madeCells_one]
    simp [hj'])
  simp only [List.length_replicate] at h
  exact h
theorem rjoin_core (a b x : Nat) (n : Int) (cl : Nat) (hcl : cl ≤ 65535) (ha : a < 4294967296) (w w1 : World) (m : Int)
    (hn : n < 0 ∧ m = 0 ∨ 65535 < n ∧ m = 65535 ∨ (0 ≤ n ∧ n ≤ 65535) ∧ m = n)
    (hmk : (Instr.makeSlice 30 (.int .i64 m) (.int .i64 m)).run Tryd.prog w = .ok (.slice (some ⟨w.heap.size, 0, none⟩) cl cl) w1)
    (hcv : (convert 30 9 (.slice (some ⟨w.heap.size, 0, none⟩) cl cl)).run Tryd.prog w1 = .ok (.string (zs cl)) w1)
    (y z r : Nat) (hy : y = Crc.upd a (bl (zs cl))) (hz : z = Crc.upd 0 (bl (zs cl)))
    (h1 : bits .xor .u32 (y : Int) (b : Int) = (x : Int)) (h2 : bits .xor .u32 (x : Int) (z : Int) = (r : Int)) :
    Calls Tryd.prog 15 #[.int .u32 a, .int .u32 b, .int .i64 n] w fun e w' => e = .returned (.int .u32 r) ∧ w1 = w' := by
  have s1 := rupd_any a (zs cl) ha (by rw [zs_size]; unfold maxLen; omega) w1
  have s2 := rsum_any (zs cl) (by rw [zs_size]; unfold maxLen; omega) w1
  rw [← hy] at s1
  rw [← hz] at s2
  have S1 := Lib.hid s1; have S2 := Lib.hid s2; clear s1 s2 hy hz
  rcases hn with ⟨hn, rfl⟩ | ⟨hn, rfl⟩ | ⟨hn, rfl⟩
  · go_enter Tryd.func15, Tryd.ntmps15
    go_wp2_with (first | (go_at_call 13; refine S1.out.mono ?_; rintro e w' ⟨rfl, rfl⟩) | (go_at_call 11; refine S2.out.mono ?_; rintro e w' ⟨rfl, rfl⟩))
    go_ret
    exact ⟨rfl, rfl⟩
  · go_enter Tryd.func15, Tryd.ntmps15
    go_wp2_with (first | (go_at_call 13; refine S1.out.mono ?_; rintro e w' ⟨rfl, rfl⟩) | (go_at_call 11; refine S2.out.mono ?_; rintro e w' ⟨rfl, rfl⟩))
    go_ret
    exact ⟨rfl, rfl⟩
  · obtain ⟨hn1, hn2⟩ := hn
    go_enter Tryd.func15, Tryd.ntmps15
    go_wp2_with (first | (go_at_call 13; refine S1.out.mono ?_; rintro e w' ⟨rfl, rfl⟩) | (go_at_call 11; refine S2.out.mono ?_; rintro e w' ⟨rfl, rfl⟩))
    go_ret
    exact ⟨rfl, rfl⟩
theorem rjoin_any (a b : Nat) (n : Int) (ha : a < 4294967296) (hb : b < 4294967296) (w : World) :
    Calls Tryd.prog 15 #[.int .u32 a, .int .u32 b, .int .i64 n] w fun e w' => e = .returned (.int .u32 (Crc.Mn (clamp n) a ^^^ b : Nat)) ∧ Below w.heap.size w w' := by
  have hl := Crc.upd_lt (c := a) ha (bl_lt (zs (clamp n)))
  have h0 := Crc.upd_lt (c := 0) (by omega) (bl_lt (zs (clamp n)))
  have hd := Crc.join_doc a b (clamp n)
  rw [← bl_zs] at hd
  rw [← hd]
  refine (rjoin_core a b _ n (clamp n) (clamp_le n) ha w (zw w (clamp n)) (clamp n : Int) ?_ (make_z _ (clamp_le n) w) (text_z _ w) _ _ _ rfl rfl (u32_xor_nat _ _ hl hb) (u32_xor_nat _ _ (Crc.xor_lt32 hl hb) h0)).mono ?_
  · unfold clamp
    by_cases h1 : n < 0
    · rw [if_pos h1]; exact Or.inl ⟨h1, rfl⟩
    · rw [if_neg h1]
      by_cases h2 : 65535 < n
      · rw [if_pos h2]; exact Or.inr (Or.inl ⟨h2, rfl⟩)
      · rw [if_neg h2]; exact Or.inr (Or.inr ⟨⟨by omega, by omega⟩, by omega⟩)
  · rintro e w' ⟨rfl, rfl⟩
    exact ⟨rfl, (Below.refl _ w).alloc (Nat.le_refl _) _⟩
end Go.Proofs.YtfjjeplcnkmjgaaDoor
