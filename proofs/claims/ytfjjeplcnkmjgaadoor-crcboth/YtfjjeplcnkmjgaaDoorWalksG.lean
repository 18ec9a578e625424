/- Four laws walked: sums, joins, both, apart. Conditions: numbers of 32 bits; texts as long as may be; the tables as they are laid. -/
import Derived.Test.YtfjjeplcnkmjgaaDoorWalksF
namespace Go.Proofs.YtfjjeplcnkmjgaaDoor
open Go.ChangeShapes Go.WideShapes Go.RowKit
theorem Tab4.below {w w' : World} (h : Tab4 w) (hB : 1 < w.heap.size) (b : Below w.heap.size w w') : Tab4 w' := fun j hj => by rw [b.cell (show 0 < w.heap.size by omega)]; exact h j hj
theorem Tab5.below {w w' : World} (h : Tab5 w) (hB : 1 < w.heap.size) (b : Below w.heap.size w w') : Tab5 w' := fun j hj => by rw [b.cell (show 1 < w.heap.size by omega)]; exact h j hj
theorem works_later {w w' : World} (ht : Tab4 w) (ht5 : Tab5 w) (hB : 1 < w.heap.size) (b : Below w.heap.size w w') :
    Calls Tryd.prog 9 #[] w' fun e w'' => e = .returned (.bool true) ∧ Below w.heap.size w w'' := by
  have hs := b.size
  exact (works_any w' (ht.below hB b) (ht5.below hB b) (by omega)).mono fun e w'' ⟨h1, h2⟩ => ⟨h1, b.trans (h2.mono hs)⟩
theorem crcSums_walk (c : Nat) (s : ByteArray) (hc : c < 4294967296) (hs : s.size ≤ maxLen) (w : World) (ht : Tab4 w) (ht5 : Tab5 w) (hB : 1 < w.heap.size) :
    Calls Tryd.prog 3 #[.int .u32 c, .string s] w fun e w' => e = .returned (.bool true) ∧ Below w.heap.size w w' := by
  have s1 := sum_any s hs w ht
  have s2 := rsum_any s hs w
  have s3 := upd_any c s hc hs w ht
  have s4 := rupd_any c s hc hs w
  have s5 := works_any w ht ht5 hB
  generalize Crc.upd 0 (bl s) = x at s1 s2
  generalize Crc.upd c (bl s) = y at s3 s4
  have S1 := Lib.hid s1; have S2 := Lib.hid s2; have S3 := Lib.hid s3; have S4 := Lib.hid s4; have S5 := Lib.hid s5; clear s1 s2 s3 s4 s5
  by_cases hl : (10000 : Int) < (s.size : Int)
  · go_enter Tryd.func3, Tryd.ntmps3
    go_wp2_with (go_at_call 9; refine S5.out.mono ?_; rintro e w' ⟨rfl, hbel⟩)
    go_ret
    exact ⟨rfl, hbel⟩
  · go_enter Tryd.func3, Tryd.ntmps3
    go_wp2_with (first | (go_at_call 9; refine S5.out.mono ?_; rintro e w' ⟨rfl, hbel⟩) | (go_at_call 10; refine S1.out.mono ?_; rintro e w' ⟨rfl, rfl⟩) | (go_at_call 11; refine S2.out.mono ?_; rintro e w' ⟨rfl, rfl⟩) | (go_at_call 12; refine S3.out.mono ?_; rintro e w' ⟨rfl, rfl⟩) | (go_at_call 13; refine S4.out.mono ?_; rintro e w' ⟨rfl, rfl⟩))
    go_ret
    exact ⟨rfl, hbel⟩
theorem crcJoins_walk (a b : Nat) (n : Int) (ha : a < 4294967296) (hb : b < 4294967296) (w : World) (ht : Tab4 w) (ht5 : Tab5 w) (hB : 1 < w.heap.size) :
    Calls Tryd.prog 4 #[.int .u32 a, .int .u32 b, .int .i64 n] w fun e w' => e = .returned (.bool true) ∧ Below w.heap.size w w' := by
  have s1 := join_any a b n ha hb w ht ht5 hB
  have s2 := fun w' => rjoin_any a b n ha hb w'
  generalize (Crc.Mn (clamp n) a ^^^ b) = x at s1 s2
  have S1 := Lib.hid s1; have S2 := Lib.hid s2; clear s1 s2
  go_enter Tryd.func4, Tryd.ntmps4
  go_wp2_with (first | (go_at_call 14; refine S1.out.mono ?_; rintro e w1 ⟨rfl, b1⟩) | (go_at_call 15; refine (S2.out w1).mono ?_; rintro e w2 ⟨rfl, b2⟩) | (go_at_call 9; refine (works_later ht ht5 hB (b1.trans (b2.mono b1.size))).mono ?_; rintro e w3 ⟨rfl, b3⟩))
  go_ret
  exact ⟨rfl, b3⟩
theorem crcApart_walk (a b : Nat) (s : ByteArray) (ha : a < 4294967296) (hb : b < 4294967296) (hs : s.size ≤ maxLen) (w : World) (ht : Tab4 w) (ht5 : Tab5 w) (hB : 1 < w.heap.size) :
    Calls Tryd.prog 7 #[.int .u32 a, .int .u32 b, .string s] w fun e w' => e = .returned (.bool true) ∧ Below w.heap.size w w' := by
  have s1 := upd_any a s ha hs w ht
  have s2 := upd_any b s hb hs w ht
  have hi : ((((Crc.upd a (bl s) : Nat) : Int) == ((Crc.upd b (bl s) : Nat) : Int)) == ((a : Int) == (b : Int))) = true := by
    by_cases h : a = b
    · subst h; simp
    · have h2 : ¬ Crc.upd a (bl s) = Crc.upd b (bl s) := fun e => h (Crc.upd_apart ha hb _ e)
      have e1 : (((Crc.upd a (bl s) : Nat) : Int) == ((Crc.upd b (bl s) : Nat) : Int)) = false := by simp; omega
      have e2 : ((a : Int) == (b : Int)) = false := by simp; omega
      rw [e1, e2]; rfl
  have s5 := works_any w ht ht5 hB
  generalize Crc.upd a (bl s) = x at s1 hi
  generalize Crc.upd b (bl s) = y at s2 hi
  have S1 := Lib.hid s1; have S2 := Lib.hid s2; have S5 := Lib.hid s5; clear s1 s2 s5
  by_cases hl : (10000 : Int) < (s.size : Int)
  · go_enter Tryd.func7, Tryd.ntmps7
    go_wp2_with (go_at_call 9; refine S5.out.mono ?_; rintro e w' ⟨rfl, hbel⟩)
    go_ret
    exact ⟨rfl, hbel⟩
  · go_enter Tryd.func7, Tryd.ntmps7
    go_wp2_with (first | (go_at_call 9; refine S5.out.mono ?_; rintro e w' ⟨rfl, hbel⟩) | (go_at_call_of 12 (Value.int .u32 (a : Int)); refine S1.out.mono ?_; rintro e w' ⟨rfl, rfl⟩) | (go_at_call_of 12 (Value.int .u32 (b : Int)); refine S2.out.mono ?_; rintro e w' ⟨rfl, rfl⟩))
    go_ret
    exact ⟨rfl, hbel⟩
theorem bl_append (a b : ByteArray) : bl (a ++ b) = bl a ++ bl b := by
  unfold bl
  rw [ByteArray.data_append, Array.toList_append, List.map_append]
theorem clamp_size {n : Nat} (h : n ≤ 65535) : clamp (n : Int) = n := by
  unfold clamp
  rw [if_neg (by omega), if_neg (by omega)]
  omega
theorem crcBoth_walk (a b : ByteArray) (ha : a.size ≤ maxLen) (hb : b.size ≤ maxLen) (w : World) (ht : Tab4 w) (ht5 : Tab5 w) (hB : 1 < w.heap.size) :
    Calls Tryd.prog 5 #[.string a, .string b] w fun e w' => e = .returned (.bool true) ∧ Below w.heap.size w w' := by
  by_cases hl : (10000 : Int) < (a.size : Int)
  · have S5 := Lib.hid (works_any w ht ht5 hB)
    go_enter Tryd.func5, Tryd.ntmps5
    go_wp2_with (go_at_call 9; refine S5.out.mono ?_; rintro e w' ⟨rfl, hbel⟩)
    go_ret
    exact ⟨rfl, hbel⟩
  · by_cases hl2 : (10000 : Int) < (b.size : Int)
    · have S5 := Lib.hid (works_any w ht ht5 hB)
      go_enter Tryd.func5, Tryd.ntmps5
      go_wp2_with (go_at_call 9; refine S5.out.mono ?_; rintro e w' ⟨rfl, hbel⟩)
      go_ret
      exact ⟨rfl, hbel⟩
    · have hab : (a ++ b).size ≤ maxLen := by rw [ByteArray.size_append]; unfold maxLen; omega
      have hx := Crc.upd_lt (c := 0) (by omega) (bl_lt a)
      have hy := Crc.upd_lt (c := 0) (by omega) (bl_lt b)
      have s1 := sum_any (a ++ b) hab w ht
      have s2 := sum_any a ha w ht
      have s3 := sum_any b hb w ht
      have s4 := upd_any (Crc.upd 0 (bl a)) b hx hb w ht
      have s6 := join_any (Crc.upd 0 (bl a)) (Crc.upd 0 (bl b)) (b.size : Int) hx hy w ht ht5 hB
      have e1 : Crc.upd (Crc.upd 0 (bl a)) (bl b) = Crc.upd 0 (bl (a ++ b)) := by rw [bl_append, Crc.upd_append]
      have e2 : Crc.Mn (clamp (b.size : Int)) (Crc.upd 0 (bl a)) ^^^ Crc.upd 0 (bl b) = Crc.upd 0 (bl (a ++ b)) := by
        rw [clamp_size (by omega), ← e1, Crc.upd_join (Crc.upd 0 (bl a)), bl_length]
      rw [e1] at s4
      rw [e2] at s6
      clear e1 e2 hx hy
      generalize Crc.upd 0 (bl (a ++ b)) = z at s1 s4 s6
      generalize Crc.upd 0 (bl a) = x at s2 s4 s6
      generalize Crc.upd 0 (bl b) = y at s3 s6
      have S1 := Lib.hid s1; have S2 := Lib.hid s2; have S3 := Lib.hid s3; have S4 := Lib.hid s4; have S6 := Lib.hid s6; clear s1 s2 s3 s4 s6
      go_enter Tryd.func5, Tryd.ntmps5
      go_wp2_with (first | (go_at_call_of 10 (Value.string (a ++ b)); refine S1.out.mono ?_; rintro e w' ⟨rfl, rfl⟩) | (go_at_call_of 10 (Value.string a); refine S2.out.mono ?_; rintro e w' ⟨rfl, rfl⟩) | (go_at_call_of 10 (Value.string b); refine S3.out.mono ?_; rintro e w' ⟨rfl, rfl⟩) | (go_at_call 12; refine S4.out.mono ?_; rintro e w' ⟨rfl, rfl⟩) | (go_at_call 14; refine S6.out.mono ?_; rintro e w1 ⟨rfl, b1⟩) | (go_at_call 9; refine (works_later ht ht5 hB b1).mono ?_; rintro e w3 ⟨rfl, b3⟩))
      go_ret
      exact ⟨rfl, b3⟩
end Go.Proofs.YtfjjeplcnkmjgaaDoor
