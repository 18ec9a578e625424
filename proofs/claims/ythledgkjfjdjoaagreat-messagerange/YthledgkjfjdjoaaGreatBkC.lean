/- At, by the program. Conditions: lengths below 2^40. -/
import Derived.Test.YthledgkjfjdjoaaGreatBkB
namespace Go.Proofs.YthledgkjfjdjoaaGreat.Bk
open Go.ChangeShapes Go.WideShapes Go.RowKit Go.Codec Go.Blk
set_option maxRecDepth 100000
theorem extract_none (s : ByteArray) (n : Nat) : s.extract n n = ByteArray.empty := by
  rw [Lib.extract_eq, Nat.sub_self, List.take_zero]; rfl
theorem extract_all (s : ByteArray) : s.extract 0 s.size = s := by
  rw [Lib.extract_eq, Nat.sub_zero, List.drop_zero, Lib.size_eq, List.take_length]
set_option maxHeartbeats 4000000 in
theorem at_mid (s : ByteArray) (t : ByteArray) (f n z : Int) (M K : Nat) (L : List UInt8) (hs : s.size ≤ 1099511627776) (hL : L.length = M) (hM : M ≤ 64) (w : World)
    (ht : t.size ≤ s.size) (hf : (f < 0 ∧ s.extract 0 s.size = t) ∨ (∃ F : Nat, f = F ∧ F ≤ s.size ∧ s.extract F s.size = t))
    (hz : (M : Int) = z) (hn : (n < 0 ∧ z = 0) ∨ (n = z ∧ 0 ≤ z ∧ z ≤ 64) ∨ (64 < n ∧ z = 64)) (hk : (K = M ∧ M ≤ t.size) ∨ (t.size = K ∧ t.size < M))
    (hget : ∀ k (h : k < t.size), k < K → L[k]? = some t[k]) (hend : part L K M = part L M M) :
    Calls Tryz.prog 128 #[.string s, .int .i64 f, .int .i64 n] w fun e w' => e = .returned (.string (bs L)) ∧ Below w.heap.size w w' := by
  have hmk : (Instr.makeSlice 66 (.int .i64 z) (.int .i64 z)).run Tryz.prog w = .ok (.slice (some ⟨w.heap.size, 0, none⟩) M M) (w.alloc (.cells (part L 0 M) 5)) := by
    rw [part_zero, ← hz]; exact make_run M (by omega) w
  have hcv := text_run L M hL w
  rw [← hend] at hcv
  have HC := Lib.hid hcv; clear hcv hend
  have HL := Lib.hid hL; clear hL
  have HM := Lib.hid hz; clear hz
  have HG := Lib.hid hget; clear hget
  rcases hf with ⟨hf, hx⟩ | ⟨F, rfl, hF, hx⟩ <;> rcases hn with ⟨hn, rfl⟩ | ⟨rfl, hn0, hn⟩ | ⟨hn, rfl⟩ <;> rcases hk with ⟨hK, hk⟩ | ⟨hK, hk⟩
  all_goals
    go_enter Tryz.func128, Tryz.ntmps128
    go_wp2
    go_loopw [26] (fun i W => ∃ k : Nat, k ≤ K ∧ i = .int .i64 k ∧ W = w.alloc (.cells (part L k M) 5)) (fun i _ => K - (intOf i).toNat)
    case atStart => exact ⟨0, by omega, rfl, rfl⟩
    case round =>
      obtain ⟨k, hkk, rfl, rfl⟩ := hrel
      by_cases hlt : k < K
      · have hkt : k < t.size := by omega
        have hkm : k < M := by omega
        have hat := part_at L k M HL.out hkm
        have HS := Lib.hid (part_step L k M _ HL.out hkm (HG.out k hkt hlt))
        go_wp2
        refine ⟨⟨k + 1, by omega, by go_num, ?_⟩, ?_⟩
        · exact congrArg (fun x => w.alloc (.cells x 5)) HS.out
        · simp [intOf]; omega
      · obtain rfl : k = K := by omega
        subst hK
        have hcv := HC.out
        go_wp2
        go_ret
        exact ⟨rfl, below_alloc (Below.refl _ _) _⟩
set_option maxHeartbeats 4000000 in
theorem at_far (s : ByteArray) (f n z : Int) (M K : Nat) (L : List UInt8) (hL : L.length = M) (hM : M ≤ 64) (w : World)
    (hf : ∃ F : Nat, f = F ∧ s.size < F)
    (hz : (M : Int) = z) (hn : (n < 0 ∧ z = 0) ∨ (n = z ∧ 0 ≤ z ∧ z ≤ 64) ∨ (64 < n ∧ z = 64)) (hk : (K = M ∧ ¬ 0 < M) ∨ (K = 0 ∧ 0 < M))
    (hend : part L K M = part L M M) :
    Calls Tryz.prog 128 #[.string s, .int .i64 f, .int .i64 n] w fun e w' => e = .returned (.string (bs L)) ∧ Below w.heap.size w w' := by
  have hmk : (Instr.makeSlice 66 (.int .i64 z) (.int .i64 z)).run Tryz.prog w = .ok (.slice (some ⟨w.heap.size, 0, none⟩) M M) (w.alloc (.cells (part L 0 M) 5)) := by
    rw [part_zero, ← hz]; exact make_run M (by omega) w
  have hcv := text_run L M hL w
  rw [← hend] at hcv
  have HC := Lib.hid hcv; clear hcv hend
  have HL := Lib.hid hL; clear hL
  have HM := Lib.hid hz; clear hz
  rcases hf with ⟨F, rfl, hF⟩ <;> rcases hn with ⟨hn, rfl⟩ | ⟨rfl, hn0, hn⟩ | ⟨hn, rfl⟩ <;> rcases hk with ⟨hK, hk⟩ | ⟨hK, hk⟩
  all_goals
    go_enter Tryz.func128, Tryz.ntmps128
    go_wp2
    go_loopw [26] (fun i W => ∃ k : Nat, k ≤ K ∧ i = .int .i64 k ∧ W = w.alloc (.cells (part L k M) 5)) (fun i _ => K - (intOf i).toNat)
    case atStart => exact ⟨0, by omega, rfl, rfl⟩
    case round =>
      obtain ⟨k, hkk, rfl, rfl⟩ := hrel
      obtain rfl : k = K := by omega
      subst hK
      have hcv := HC.out
      go_wp2
      go_ret
      exact ⟨rfl, below_alloc (Below.refl _ _) _⟩
theorem part_end {L : List UInt8} {K M : Nat} (hL : L.length = M) (hK : K ≤ M) (h0 : ∀ i, K ≤ i → byte L i = 0) : part L K M = part L M M := by
  have e : L = L.take K ++ List.replicate (M - K) 0 := by
    apply list_ext
    · simp; omega
    · intro i hi
      rw [byte_append, byte_take, byte_replicate, List.length_take, Nat.min_eq_left (by omega)]
      split
      · rfl
      · exact h0 i (by omega)
  have h2 : part L M M = (L.map (fun b : UInt8 => Value.int .u8 b.toNat)).toArray := part_full L M hL
  rw [h2]
  conv => rhs; rw [e]
  simp [part]
theorem byte_extract {s t : ByteArray} {F : Nat} (hx : s.extract F s.size = t) {k : Nat} (h : k < t.size) : byte s.data.toList (F + k) = t[k] := by
  subst hx
  rw [← byte_at h, Lib.extract_eq]
  show _ = byte ((s.data.toList.drop F).take (s.size - F)) k
  rw [byte_take, byte_drop]
  split
  · rfl
  · exact byte_out (by rw [← Lib.size_eq]; omega)
theorem size_extract {s t : ByteArray} {F : Nat} (hx : s.extract F s.size = t) : t.size = s.size - F := by
  subst hx
  rw [Lib.extract_eq]
  show ((s.data.toList.drop F).take (s.size - F)).toArray.size = _
  rw [List.size_toArray, List.length_take, List.length_drop, ← Lib.size_eq]
  omega
/-- At, of any text and any numbers. -/
theorem at_any (s : ByteArray) (f n : Int) (hs : s.size ≤ 1099511627776) (w : World) :
    Calls Tryz.prog 128 #[.string s, .int .i64 f, .int .i64 n] w fun e w' => e = .returned (.string (bs (tell s.data.toList f.toNat (min n.toNat 64)))) ∧ Below w.heap.size w w' := by
  obtain ⟨M, hM⟩ : ∃ M, M = min n.toNat 64 := ⟨_, rfl⟩
  rw [← hM]
  have hn : (n < 0 ∧ (M : Int) = 0) ∨ (n = (M : Int) ∧ 0 ≤ (M : Int) ∧ (M : Int) ≤ 64) ∨ (64 < n ∧ (M : Int) = 64) := by omega
  have hL := tell_len s.data.toList f.toNat M
  by_cases hf : f.toNat ≤ s.size
  · obtain ⟨t, ht⟩ : ∃ t, s.extract f.toNat s.size = t := ⟨_, rfl⟩
    have hT := size_extract ht
    refine at_mid s t f n M M (min M t.size) _ hs hL (by omega) w (by omega) ?_ rfl hn (by omega) (fun k h hk => ?_) (part_end hL (by omega) fun i hi => ?_)
    · by_cases h0 : f < 0
      · have e : f.toNat = 0 := by omega
        rw [e] at ht
        exact .inl ⟨h0, ht⟩
      · exact .inr ⟨f.toNat, by omega, hf, ht⟩
    · rw [tell_get _ _ _ _ (by omega), byte_extract ht h]
    · rw [byte_tell]
      split
      · exact byte_out (by rw [← Lib.size_eq]; omega)
      · rfl
  · refine at_far s f n M M (if 0 < M then 0 else M) _ hL (by omega) w ⟨f.toNat, by omega, by omega⟩ rfl hn ?_ (part_end hL (by split <;> omega) fun i hi => ?_)
    · split
      · exact .inr ⟨rfl, by assumption⟩
      · exact .inl ⟨rfl, by assumption⟩
    · rw [byte_tell]
      split
      · exact byte_out (by rw [← Lib.size_eq]; omega)
      · rfl
end Go.Proofs.YthledgkjfjdjoaaGreat.Bk
