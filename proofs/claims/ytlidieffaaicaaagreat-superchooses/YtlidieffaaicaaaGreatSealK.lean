/- The document's answer: what bytes are that may be stamped: the contract. Conditions: lengths below 2^30. -/
import Derived.Test.YtlidieffaaicaaaGreatSealJ
namespace Go.Proofs.YtlidieffaaicaaaGreat
open Go.ChangeShapes Go.WideShapes Go.RowKit Go.Codec
set_option maxRecDepth 100000
set_option linter.unusedVariables false
theorem same_text {a b : ByteArray} : (a.toList == b.toList) = true ↔ a.data.toList = b.data.toList := by
  rw [Lib.toList_data, Lib.toList_data, beq_iff_eq]
theorem other_text {a b : ByteArray} : (a.toList == b.toList) = false ↔ ¬ a.data.toList = b.data.toList := by
  rw [Lib.toList_data, Lib.toList_data, beq_eq_false_iff_ne]
theorem ext_list (s : ByteArray) (a b : Nat) : (s.extract a b).data.toList = (s.data.toList.drop a).take (b - a) := by
  rw [extract_bs, bs_list]
theorem tells_ext (s : ByteArray) (a b : Nat) (h : b ≤ a + 8) : Tells (s.extract a b) (val ((s.data.toList.drop a).take (b - a))) :=
  ⟨by rw [ByteArray.size_extract]; omega, by rw [ext_list]⟩
theorem byte_list (s : ByteArray) (j : Nat) (hj : j < s.size) : s[j] = s.data.toList[j]'(by rw [← Lib.size_eq]; exact hj) := by
  rw [Array.getElem_toList]; rfl
theorem zero_iff (l : List UInt8) (a n : Nat) (h : a + n ≤ l.length) : (l.drop a).take n = Seal.noughts n ↔ ∀ j (hj : j < l.length), a ≤ j → j < a + n → l[j].toNat = 0 := by
  unfold Seal.noughts
  rw [List.eq_replicate_iff]
  constructor
  · rintro ⟨_, h2⟩ j hj h3 h4
    have hm : l[j] ∈ (l.drop a).take n := by
      rw [List.mem_iff_getElem]
      refine ⟨j - a, by rw [List.length_take, List.length_drop]; omega, ?_⟩
      rw [List.getElem_take, List.getElem_drop]
      congr 1
      omega
    rw [h2 _ hm]; rfl
  · intro h2
    refine ⟨by rw [List.length_take, List.length_drop]; omega, fun b hb => ?_⟩
    obtain ⟨j, hj, rfl⟩ := List.mem_iff_getElem.1 hb
    rw [List.length_take, List.length_drop] at hj
    rw [List.getElem_take, List.getElem_drop]
    exact UInt8.toNat_inj.1 (h2 (a + j) (by omega) (by omega) (by omega))
/-- The first byte that is not 0. -/
theorem first_byte (l : List UInt8) (a : Nat) : ∀ n, a + n ≤ l.length → ¬ (∀ j (hj : j < l.length), a ≤ j → j < a + n → l[j].toNat = 0) → ∃ p, ∃ hp : p < l.length, a ≤ p ∧ p < a + n ∧ (∀ j (hj : j < l.length), a ≤ j → j < p → l[j].toNat = 0) ∧ l[p].toNat ≠ 0
  | 0, _, h => absurd (fun j hj h1 h2 => by omega) h
  | n + 1, hl, h => by
    by_cases hn : ∀ j (hj : j < l.length), a ≤ j → j < a + n → l[j].toNat = 0
    · have hp : a + n < l.length := by omega
      refine ⟨a + n, hp, by omega, by omega, hn, fun hz => h fun j hj h1 h2 => ?_⟩
      by_cases e : j = a + n
      · subst e; exact hz
      · exact hn j hj h1 (by omega)
    · obtain ⟨p, hp, h1, h2, h3, h4⟩ := first_byte l a n (by omega) hn
      exact ⟨p, hp, h1, by omega, h3, h4⟩
theorem run_any (s : ByteArray) (hs : s.size ≤ 1073741824) (w : World) :
    Calls Tryz.prog 95 #[.string s] w fun e w' => e = .returned (.tuple #[.int .u64 ((Seal.unstamp s.data.toList).1 : Nat), .int .u32 ((Seal.unstamp s.data.toList).2.1 : Nat), .string (bs (Seal.unstamp s.data.toList).2.2.1), .int .i64 (Seal.unstamp s.data.toList).2.2.2]) ∧ Below w.heap.size w w' := by
  have hl : s.data.toList.length = s.size := (Lib.size_eq s).symm
  by_cases h26 : s.size < 26
  · have e : Seal.unstamp s.data.toList = (0, 0, [], 10) := by unfold Seal.unstamp; rw [if_pos (by omega)]
    rw [e]
    exact run_few s h26 w
  by_cases h65 : 65536 < s.size
  · have e : Seal.unstamp s.data.toList = (0, 0, [], 4) := by unfold Seal.unstamp; rw [if_neg (by omega), if_pos (by omega)]
    rw [e]
    exact run_many s h65 w
  have i26 : ¬ (s.size : Int) < 26 := by omega
  have i65 : ¬ (65536 : Int) < (s.size : Int) := by omega
  have hun : Seal.unstamp s.data.toList = open Classical in if Seal.Good s.data.toList then (val (s.data.toList.take 8), val ((s.data.toList.drop 8).take 4), (s.data.toList.drop 14).take (val ((s.data.toList.drop 12).take 2)), 0) else (0, 0, [], 4) := by
    conv => lhs; unfold Seal.unstamp
    rw [if_neg (by omega), if_neg (by omega)]
  have hgd : Seal.Good s.data.toList ↔ s.data.toList.take 8 = s.data.toList.drop (s.size - 8) ∧ (s.data.toList.drop 8).take 4 = (s.data.toList.drop (s.size - 12)).take 4 ∧ val ((s.data.toList.drop 12).take 2) ≤ s.size - 26 ∧
    (s.data.toList.drop (14 + val ((s.data.toList.drop 12).take 2))).take (s.size - 26 - val ((s.data.toList.drop 12).take 2)) = Seal.noughts (s.size - 26 - val ((s.data.toList.drop 12).take 2)) := by
    unfold Seal.Good; rw [hl]
  rw [hun]; clear hun
  have T0 := tells_ext s 12 14 (by omega)
  have hk : val ((s.data.toList.drop 12).take 2) < 65536 := by
    have := val_lt ((s.data.toList.drop 12).take 2)
    rw [List.length_take, List.length_drop, Nat.min_eq_left (by omega)] at this
    omega
  have T1 := tells_ext s 0 8 (by omega)
  have T2 := tells_ext s 8 12 (by omega)
  have hi : val ((s.data.toList.drop 8).take 4) < 4294967296 := by
    have := val_lt ((s.data.toList.drop 8).take 4)
    rw [List.length_take, List.length_drop, Nat.min_eq_left (by omega)] at this
    omega
  have x1 : (s.extract 0 8).data.toList = s.data.toList.take 8 := by rw [ext_list]; simp
  have x2 : (s.extract (s.size - 8) s.size).data.toList = s.data.toList.drop (s.size - 8) := by rw [ext_list, List.take_of_length_le (by rw [List.length_drop]; omega)]
  have x3 : (s.extract 8 12).data.toList = (s.data.toList.drop 8).take 4 := ext_list s 8 12
  have x4 : (s.extract (s.size - 12) (s.size - 8)).data.toList = (s.data.toList.drop (s.size - 12)).take 4 := by rw [ext_list, show s.size - 8 - (s.size - 12) = 4 by omega]
  have e8 : (s.size : Int) - 8 = ((s.size - 8 : Nat) : Int) := by omega
  have e12 : (s.size : Int) - 12 = ((s.size - 12 : Nat) : Int) := by omega
  change Tells (s.extract 12 14) (val ((s.data.toList.drop 12).take 2)) at T0
  change Tells (s.extract 0 8) (val ((s.data.toList.drop 0).take 8)) at T1
  change Tells (s.extract 8 12) (val ((s.data.toList.drop 8).take 4)) at T2
  rw [List.drop_zero] at T1
  generalize val ((s.data.toList.drop 12).take 2) = k at *
  by_cases c2 : s.data.toList.take 8 = s.data.toList.drop (s.size - 8)
  · have g1 : ((s.extract 0 8).toList == (s.extract (s.size - 8) s.size).toList) = true := same_text.2 (by rw [x1, x2]; exact c2)
    by_cases c1 : (s.data.toList.drop 8).take 4 = (s.data.toList.drop (s.size - 12)).take 4
    · have i1 : ((s.extract 8 12).toList == (s.extract (s.size - 12) (s.size - 8)).toList) = true := same_text.2 (by rw [x3, x4]; exact c1)
      by_cases hk2 : k ≤ s.size - 26
      · have hz := zero_iff s.data.toList (14 + k) (s.size - 26 - k) (by omega)
        by_cases c3 : (s.data.toList.drop (14 + k)).take (s.size - 26 - k) = Seal.noughts (s.size - 26 - k)
        · rw [if_pos (hgd.2 ⟨c2, c1, hk2, c3⟩)]
          have h := run_good s k _ _ i26 i65 e8 e12 hk T0 g1 i1 (by omega) (14 + k) (by omega) (fun j hj h1 h2 => by rw [byte_list s j hj]; exact hz.1 c3 j (by omega) h1 (by omega)) _ _ hi T1 T2 w
          rw [extract_bs, show 14 + k - 14 = k by omega] at h
          exact h
        · rw [if_neg fun hh => c3 (hgd.1 hh).2.2.2]
          obtain ⟨p, hp, h1, h2, h3, h4⟩ := first_byte s.data.toList (14 + k) (s.size - 26 - k) (by omega) (fun hh => c3 (hz.2 hh))
          exact run_other s k _ _ i26 i65 e8 e12 hk T0 g1 i1 (by omega) (14 + k) (by omega) p h1 (by omega) (fun j hj a1 a2 => by rw [byte_list s j hj]; exact h3 j (by omega) a1 a2) (fun hj => by rw [byte_list s p hj]; exact h4) w
      · rw [if_neg fun hh => hk2 (hgd.1 hh).2.2.1]
        exact run_len s k _ _ i26 i65 e8 e12 hk T0 g1 i1 (by omega) w
    · rw [if_neg fun hh => c1 (hgd.1 hh).2.1]
      exact run_idx s k _ _ i26 i65 e8 e12 hk T0 g1 (other_text.2 (by rw [x3, x4]; exact c1)) w
  · rw [if_neg fun hh => c2 (hgd.1 hh).1]
    exact run_gen s k _ _ i26 i65 e8 e12 hk T0 (other_text.2 (by rw [x1, x2]; exact c2)) w
end Go.Proofs.YtlidieffaaicaaaGreat
