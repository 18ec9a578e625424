/- The law on sealed texts: what was walked, put together. Conditions: the program's table as it is laid. -/
import Derived.Test.YtmjgbafoemdlpaaDoorSealS
namespace Go.Proofs.YtmjgbafoemdlpaaDoor
open Go.ChangeShapes Go.WideShapes Go.RowKit Go.Codec
set_option linter.unusedVariables false
theorem bl_bs (l : List UInt8) : bl (bs l) = l.map (·.toNat) := by unfold bl; rw [bs_list]
theorem back (s more : ByteArray) (cut at_ x : Nat) (sm : Bool) (hcut : cut < 65536) (hat : at_ < 65536) (hx : x < 4294967296) (hs : s.size ≤ maxLen) (hmo : more.size ≤ maxLen) (w : World) (ht : Laid w) :
    Calls Tryd.prog 6 #[.string s, .string more, .agg #[.int .u16 cut, .int .u16 at_, .int .u32 x, .bool sm]] w fun e w' => e = .returned (.bool true) ∧ Below w.heap.size w w' := by
  by_cases h1 : (3000 : Int) < (s.size : Int)
  · exact back_big s more cut at_ x sm (.inl h1) w ht hs hmo
  by_cases h2 : (3000 : Int) < (more.size : Int)
  · exact back_big s more cut at_ x sm (.inr ⟨h1, h2⟩) w ht hs hmo
  have hl : s.data.toList.length = s.size := (Lib.size_eq s).symm
  have hml : more.data.toList.length = more.size := (Lib.size_eq more).symm
  have hbl := Seal.body_length s.data.toList
  have hTs : (bs (Seal.body s.data.toList)).size = s.size + 6 := by rw [bs_size, hbl, hl]
  have hTT : ((((bs (Seal.body s.data.toList)).size : Nat) : Int) != (s.size : Int) + 6) = false := by rw [hTs]; simp
  have hcm : cut % (s.size + 6) < s.size + 6 := Nat.mod_lt _ (by omega)
  have e1 : (Seal.sealL s.data.toList).1 = Seal.body s.data.toList := by unfold Seal.sealL; rw [if_neg (by omega)]
  have eTM : bs (Seal.body s.data.toList) ++ more = bs (Seal.body s.data.toList ++ more.data.toList) := by rw [← bs_append, list_bs]
  have H1 := Lib.hid (fun w h => sealed_any s (Seal.body s.data.toList) (by omega) e1 w h)
  have H2 := fun w h => open_any (bs (Seal.body s.data.toList ++ more.data.toList)) (by rw [bs_size, List.length_append]; omega) w h
  rw [bs_list, Seal.open_body _ _ (by omega)] at H2
  simp only [list_bs] at H2
  have hc : (cut : Int).tmod (((bs (Seal.body s.data.toList)).size : Nat) : Int) = ((cut % (s.size + 6) : Nat) : Int) := by rw [hTs, Int.tmod_eq_emod_of_nonneg (by omega)]; rfl
  have H3 : ∀ w, Laid w → Calls Tryd.prog 22 #[.string ((bs (Seal.body s.data.toList)).extract 0 (cut % (s.size + 6))), .int .i64 10] w fun e w' => e = .returned (.bool true) ∧ Below w.heap.size w w' := fun w h => by
    refine fails_true _ 10 ?_ ?_ w h
    · rw [ByteArray.size_extract]; omega
    · rw [ext_list, bs_list, List.drop_zero, Nat.sub_zero]
      exact Seal.open_cut _ (by omega) _ (by omega)
  have H4 : ∀ f E : Nat, (16 ≤ f ∧ E = 16 + 8 * s.size ∨ 16 + 8 * s.size ≤ f ∧ E = 48 + 8 * s.size) → ∀ (k : Nat) (t : ByteArray), k ≤ 32 → f + k ≤ E → bl t = Crc.flips (bl (bs (Seal.body s.data.toList))) f x k → ¬ t = bs (Seal.body s.data.toList) →
      ∀ w, Laid w → Calls Tryd.prog 22 #[.string (t ++ more), .int .i64 9] w fun e w' => e = .returned (.bool true) ∧ Below w.heap.size w w' := fun f E hfE k t hk hfk hb hne w h => by
    have htl : t.data.toList.length = s.size + 6 := by
      have := congrArg List.length hb
      rw [Crc.flips_length, bl_length, bl_length, hTs] at this
      rw [← Lib.size_eq]; exact this
    have hap : t ++ more = bs (t.data.toList ++ more.data.toList) := by rw [← bs_append, list_bs, list_bs]
    rw [hap]
    refine fails_true _ 9 (by rw [bs_size, List.length_append]; omega) ?_ w h
    rw [bs_list]
    rw [bl_bs] at hb
    have hne' : t.data.toList ≠ Seal.body s.data.toList := fun hh => hne (by rw [← list_bs t, hh])
    rcases hfE with ⟨a1, a2⟩ | ⟨a1, a2⟩
    · exact Seal.spoilt_text s.data.toList t.data.toList more.data.toList f x k (by omega) hk a1 (by omega) hb hne'
    · exact Seal.spoilt_sum s.data.toList t.data.toList more.data.toList f x k (by omega) (by omega) hb hne'
  have hm32 : at_ % 32 < 32 := Nat.mod_lt _ (by omega)
  cases sm with
  | true =>
    exact back_sum s more _ cut at_ x (cut % (s.size + 6)) (16 + 8 * s.size) (48 + 8 * s.size) 32 (at_ % 32) (16 + 8 * s.size + at_ % 32) h1 h2 hcut hat hx hTT (by omega) w (Lib.hid ht) _ eTM hc (by omega) (by omega) H1 (Lib.hid H2) (Lib.hid H3)
      (by omega) (by omega) (by omega) (by omega) (by rw [Int.tmod_eq_emod_of_nonneg (by omega)]; rfl) (by omega) (by omega) (by omega) (Lib.hid (H4 _ _ (.inr ⟨by omega, rfl⟩)))
  | false =>
    by_cases h0 : s.size = 0
    · exact back_none s more _ cut at_ x (cut % (s.size + 6)) (16 + 8 * s.size) (48 + 8 * s.size) 32 (at_ % 32) (16 + 8 * s.size + at_ % 32) h1 h2 hcut hat hx hTT (by omega) w (Lib.hid ht) _ eTM hc (by omega) (by omega) H1 (Lib.hid H2) (Lib.hid H3)
        (by rw [beq_iff_eq]; omega) (by omega) (by omega) (by omega) (by omega) (by rw [Int.tmod_eq_emod_of_nonneg (by omega)]; rfl) (by omega) (by omega) (by omega) (Lib.hid (H4 _ _ (.inr ⟨by omega, rfl⟩)))
    · have hma : at_ % (8 * s.size) < 8 * s.size := Nat.mod_lt _ (by omega)
      exact back_text s more _ cut at_ x (cut % (s.size + 6)) 0 (16 + 8 * s.size) (8 * s.size) (at_ % (8 * s.size)) (16 + at_ % (8 * s.size)) h1 h2 hcut hat hx hTT (by omega) w (Lib.hid ht) _ eTM hc (by omega) (by omega) H1 (Lib.hid H2) (Lib.hid H3)
        (by rw [beq_eq_false_iff_ne]; omega) (by omega) (by omega) (by omega) (by rw [Int.tmod_eq_emod_of_nonneg (by omega)]; rfl) (by omega) (by omega) (by omega) (Lib.hid (H4 _ _ (.inl ⟨by omega, rfl⟩)))
end Go.Proofs.YtmjgbafoemdlpaaDoor
