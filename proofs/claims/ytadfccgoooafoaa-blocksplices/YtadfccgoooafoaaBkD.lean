/- At, by the document. Conditions: lengths below 2^40. -/
import Derived.Test.YtadfccgoooafoaaBkC
import Derived.ArgAppend
import Derived.Laws.OwnMore
import Derived.OwnWalk
namespace Go.Proofs.Ytadfccgoooafoaa
open Go.ChangeShapes Go.WideShapes Go.RowKit Go.Codec Go.Blk
set_option maxRecDepth 100000
set_option linter.unusedVariables false
def cellsOf (l : List UInt8) : List Value := l.map fun b : UInt8 => Value.int .u8 b.toNat
theorem convert_own {w : World} {base n : Nat} {v : Value} {l : List UInt8} (h : w.ownsRow base 5 1 v n (cellsOf l)) (hl : l.length = n) : (convert 48 9 v).run Try.prog w = .ok (.string (bs l)) w := by
  rcases h.2 with ⟨rfl, h0⟩ | ⟨g, cap, cur, rfl, _⟩
  · obtain rfl : l = [] := List.eq_nil_of_length_eq_zero (by omega)
    rw [run_convert_bytes_string w 48 9 5 none 0 0 Try.underlying48 Try.underlying5 Try.underlying9]
    rfl
  · subst hl
    exact run_convert_bytes_back (P := Try.prog) w 48 9 5 ⟨g, 0, none⟩ cap l Try.underlying48 Try.underlying5 Try.underlying9 (fun j hj => by
      have e : (⟨g, 0, none⟩ : Addr).add j = ⟨g, j, none⟩ := by unfold Addr.add; split <;> simp_all
      rw [e, h.cellAt j (by omega)]
      simp [cellsOf, hj])
theorem byteAt_sum (s : ByteArray) (F k : Nat) (w : World) : Calls Try.prog 27 #[.string s, .int .i64 ((F : Int) + (k : Int))] w fun e w' => e = .returned (.int .u8 (byte s.data.toList (F + k)).toNat) ∧ w = w' := by
  have h := byteAt_any s w (F + k)
  rw [Int.natCast_add] at h
  exact h
/-- What the loop holds: the first k bytes, in a row of the call's own. -/
structure Gathers (w : World) (L : List UInt8) (k : Nat) (v : Value) (wr : World) : Prop where
  own : wr.ownsRow w.heap.size 5 1 v k (cellsOf (L.take k))
  below : Below w.heap.size w wr
theorem Gathers.more {w wr w1 : World} {L : List UInt8} {k : Nat} {v v' : Value} {b : UInt8} (h : Gathers w L k v wr) (o : Obj) (hk : k < L.length) (hb : L[k]? = some b)
    (h1 : w1.ownsRow w.heap.size 5 1 v' (k + 1) (cellsOf (L.take k) ++ [.int .u8 b.toNat])) (hg : (wr.alloc o).grownBy w1 v.ownBlock) : Gathers w L (k + 1) v' w1 := by
  refine ⟨?_, (h.below.alloc h.below.size o).grown hg (by have := h.below.size; simp; omega) fun j hj => (h.own.lt j hj).1⟩
  have e : cellsOf (L.take (k + 1)) = cellsOf (L.take k) ++ [.int .u8 b.toNat] := by
    rw [List.take_add_one, hb]; simp [cellsOf]
  rw [e]
  exact h1
set_option maxHeartbeats 4000000 in
theorem rat_neg_le (s : ByteArray) (f n : Int) (hf : f < 0) (hn : n ≤ 0) (L : List UInt8) (hL : L.length = 0) (hs : s.size ≤ 1099511627776) (w : World)
    (hget : ∀ k, k < 0 → L[k]? = some (byte s.data.toList (k))) :
    Calls Try.prog 15 #[.string s, .int .i64 f, .int .i64 n] w fun e w' => e = .returned (.string (bs L)) ∧ Below w.heap.size w w' := by
  have HG := Lib.hid hget; clear hget
  have HL := Lib.hid hL; clear hL
  obtain ⟨i0, hi, hz0, hz1, hz2⟩ := info_parts info5
  have HI := Lib.hid hi; have HI0 := Lib.hid hz0; have HI1 := Lib.hid hz1; have HI2 := Lib.hid hz2; clear hi hz0 hz1 hz2
  go_enter Try.func15, Try.ntmps15
  go_wp2
  go_loopw [7, 8] (fun v i wr => ∃ k : Nat, k ≤ 0 ∧ i = .int .i64 k ∧ Gathers w L k v wr) (fun _ i _ => 0 - (intOf i).toNat)
  case atStart => exact ⟨0, by omega, rfl, ⟨World.ownsRow_nil _ _ _ _, Below.refl _ _⟩⟩
  case round =>
    obtain ⟨k, hk, rfl, hg⟩ := hrel
    have HR := Lib.hid hg; clear hg
    obtain rfl : k = 0 := by omega
    have hcv := convert_own (l := L) (by have h := HR.out.own; rwa [List.take_of_length_le (by rw [HL.out]; exact Nat.le_refl _)] at h) HL.out
    go_wp2
    go_ret
    exact ⟨rfl, HR.out.below⟩
set_option maxHeartbeats 4000000 in
theorem rat_neg_mid (s : ByteArray) (f : Int) (hf : f < 0) (M : Nat) (hn0 : 0 < M) (hn : M ≤ 64) (L : List UInt8) (hL : L.length = M) (hs : s.size ≤ 1099511627776) (w : World)
    (hget : ∀ k, k < M → L[k]? = some (byte s.data.toList (k))) :
    Calls Try.prog 15 #[.string s, .int .i64 f, .int .i64 (M : Int)] w fun e w' => e = .returned (.string (bs L)) ∧ Below w.heap.size w w' := by
  have HG := Lib.hid hget; clear hget
  have HL := Lib.hid hL; clear hL
  obtain ⟨i0, hi, hz0, hz1, hz2⟩ := info_parts info5
  have HI := Lib.hid hi; have HI0 := Lib.hid hz0; have HI1 := Lib.hid hz1; have HI2 := Lib.hid hz2; clear hi hz0 hz1 hz2
  go_enter Try.func15, Try.ntmps15
  go_wp2
  go_loopw [7, 8] (fun v i wr => ∃ k : Nat, k ≤ M ∧ i = .int .i64 k ∧ Gathers w L k v wr) (fun _ i _ => M - (intOf i).toNat)
  case atStart => exact ⟨0, by omega, rfl, ⟨World.ownsRow_nil _ _ _ _, Below.refl _ _⟩⟩
  case round =>
    obtain ⟨k, hk, rfl, hg⟩ := hrel
    have HR := Lib.hid hg; clear hg
    by_cases hlt : k < M
    · have HC : Hid (∀ wx, Calls Try.prog 27 #[.string s, .int .i64 (k : Int)] wx fun e w' => e = .returned (.int .u8 (byte s.data.toList (k)).toNat) ∧ wx = w') := fun wx => byteAt_any s wx k
      have HB := Lib.hid (HG.out k hlt)
      have HLl := Lib.hid (show k < L.length by rw [HL.out]; exact hlt)
      clear HG
      generalize byte s.data.toList (k) = b at *
      go_wp2_with (first
        | (go_at_call 27; refine (HC.out _).mono ?_; rintro e w' ⟨rfl, rfl⟩)
        | (at_builtin; refine wpList_append_own _ rfl _ _ 48 rfl w.heap.size 5 i0 (.int .u8 0) 1 1 Try.underlying48 HI.out HI0.out HI1.out HI2.out rfl (by decide) _ _ _ rfl (HR.out.own.alloc _) ⟨wr.heap.size, 0, none⟩ 1 1 [.int .u8 b.toNat] rfl rfl ?c1 ?c2 ?c3 ?c4 ?c5 ?_))
      case c1 =>
        intro j u hj
        match j, hj with
        | 0, hj => simp at hj; subst hj; simp [Addr.add]
      case c2 => intro u hu; simp at hu; subst hu; rfl
      case c3 => unfold maxLen; omega
      case c4 => omega
      case c5 => have := HR.out.below.size; simp; omega
      · intro v' w1 hown' hgrow _
        have HR' := Lib.hid (HR.out.more _ HLl.out HB.out hown' hgrow)
        clear hown' hgrow
        go_wp2
        exact ⟨⟨k + 1, by omega, by go_num, HR'.out⟩, by simp [intOf]; omega⟩
    · obtain rfl : k = M := by omega
      have hcv := convert_own (l := L) (by have h := HR.out.own; rwa [List.take_of_length_le (by rw [HL.out]; exact Nat.le_refl _)] at h) HL.out
      go_wp2
      go_ret
      exact ⟨rfl, HR.out.below⟩
set_option maxHeartbeats 4000000 in
theorem rat_neg_far (s : ByteArray) (f n : Int) (hf : f < 0) (hn : 64 < n) (L : List UInt8) (hL : L.length = 64) (hs : s.size ≤ 1099511627776) (w : World)
    (hget : ∀ k, k < 64 → L[k]? = some (byte s.data.toList (k))) :
    Calls Try.prog 15 #[.string s, .int .i64 f, .int .i64 n] w fun e w' => e = .returned (.string (bs L)) ∧ Below w.heap.size w w' := by
  have HG := Lib.hid hget; clear hget
  have HL := Lib.hid hL; clear hL
  obtain ⟨i0, hi, hz0, hz1, hz2⟩ := info_parts info5
  have HI := Lib.hid hi; have HI0 := Lib.hid hz0; have HI1 := Lib.hid hz1; have HI2 := Lib.hid hz2; clear hi hz0 hz1 hz2
  go_enter Try.func15, Try.ntmps15
  go_wp2
  go_loopw [7, 8] (fun v i wr => ∃ k : Nat, k ≤ 64 ∧ i = .int .i64 k ∧ Gathers w L k v wr) (fun _ i _ => 64 - (intOf i).toNat)
  case atStart => exact ⟨0, by omega, rfl, ⟨World.ownsRow_nil _ _ _ _, Below.refl _ _⟩⟩
  case round =>
    obtain ⟨k, hk, rfl, hg⟩ := hrel
    have HR := Lib.hid hg; clear hg
    by_cases hlt : k < 64
    · have HC : Hid (∀ wx, Calls Try.prog 27 #[.string s, .int .i64 (k : Int)] wx fun e w' => e = .returned (.int .u8 (byte s.data.toList (k)).toNat) ∧ wx = w') := fun wx => byteAt_any s wx k
      have HB := Lib.hid (HG.out k hlt)
      have HLl := Lib.hid (show k < L.length by rw [HL.out]; exact hlt)
      clear HG
      generalize byte s.data.toList (k) = b at *
      go_wp2_with (first
        | (go_at_call 27; refine (HC.out _).mono ?_; rintro e w' ⟨rfl, rfl⟩)
        | (at_builtin; refine wpList_append_own _ rfl _ _ 48 rfl w.heap.size 5 i0 (.int .u8 0) 1 1 Try.underlying48 HI.out HI0.out HI1.out HI2.out rfl (by decide) _ _ _ rfl (HR.out.own.alloc _) ⟨wr.heap.size, 0, none⟩ 1 1 [.int .u8 b.toNat] rfl rfl ?c1 ?c2 ?c3 ?c4 ?c5 ?_))
      case c1 =>
        intro j u hj
        match j, hj with
        | 0, hj => simp at hj; subst hj; simp [Addr.add]
      case c2 => intro u hu; simp at hu; subst hu; rfl
      case c3 => unfold maxLen; omega
      case c4 => omega
      case c5 => have := HR.out.below.size; simp; omega
      · intro v' w1 hown' hgrow _
        have HR' := Lib.hid (HR.out.more _ HLl.out HB.out hown' hgrow)
        clear hown' hgrow
        go_wp2
        exact ⟨⟨k + 1, by omega, by go_num, HR'.out⟩, by simp [intOf]; omega⟩
    · obtain rfl : k = 64 := by omega
      have hcv := convert_own (l := L) (by have h := HR.out.own; rwa [List.take_of_length_le (by rw [HL.out]; exact Nat.le_refl _)] at h) HL.out
      go_wp2
      go_ret
      exact ⟨rfl, HR.out.below⟩
set_option maxHeartbeats 4000000 in
theorem rat_mid_le (s : ByteArray) (n : Int) (F : Nat) (hF : F ≤ s.size) (hn : n ≤ 0) (L : List UInt8) (hL : L.length = 0) (hs : s.size ≤ 1099511627776) (w : World)
    (hget : ∀ k, k < 0 → L[k]? = some (byte s.data.toList (F + k))) :
    Calls Try.prog 15 #[.string s, .int .i64 (F : Int), .int .i64 n] w fun e w' => e = .returned (.string (bs L)) ∧ Below w.heap.size w w' := by
  have hFd : decide (s.size < F) = false := by simp; omega
  have HG := Lib.hid hget; clear hget
  have HL := Lib.hid hL; clear hL
  obtain ⟨i0, hi, hz0, hz1, hz2⟩ := info_parts info5
  have HI := Lib.hid hi; have HI0 := Lib.hid hz0; have HI1 := Lib.hid hz1; have HI2 := Lib.hid hz2; clear hi hz0 hz1 hz2
  go_enter Try.func15, Try.ntmps15
  go_wp2
  go_loopw [7, 8] (fun v i wr => ∃ k : Nat, k ≤ 0 ∧ i = .int .i64 k ∧ Gathers w L k v wr) (fun _ i _ => 0 - (intOf i).toNat)
  case atStart => exact ⟨0, by omega, rfl, ⟨World.ownsRow_nil _ _ _ _, Below.refl _ _⟩⟩
  case round =>
    obtain ⟨k, hk, rfl, hg⟩ := hrel
    have HR := Lib.hid hg; clear hg
    obtain rfl : k = 0 := by omega
    have hcv := convert_own (l := L) (by have h := HR.out.own; rwa [List.take_of_length_le (by rw [HL.out]; exact Nat.le_refl _)] at h) HL.out
    go_wp2
    go_ret
    exact ⟨rfl, HR.out.below⟩
set_option maxHeartbeats 4000000 in
theorem rat_mid_mid (s : ByteArray) (F : Nat) (hF : F ≤ s.size) (M : Nat) (hn0 : 0 < M) (hn : M ≤ 64) (L : List UInt8) (hL : L.length = M) (hs : s.size ≤ 1099511627776) (w : World)
    (hget : ∀ k, k < M → L[k]? = some (byte s.data.toList (F + k))) :
    Calls Try.prog 15 #[.string s, .int .i64 (F : Int), .int .i64 (M : Int)] w fun e w' => e = .returned (.string (bs L)) ∧ Below w.heap.size w w' := by
  have hFd : decide (s.size < F) = false := by simp; omega
  have HG := Lib.hid hget; clear hget
  have HL := Lib.hid hL; clear hL
  obtain ⟨i0, hi, hz0, hz1, hz2⟩ := info_parts info5
  have HI := Lib.hid hi; have HI0 := Lib.hid hz0; have HI1 := Lib.hid hz1; have HI2 := Lib.hid hz2; clear hi hz0 hz1 hz2
  go_enter Try.func15, Try.ntmps15
  go_wp2
  go_loopw [7, 8] (fun v i wr => ∃ k : Nat, k ≤ M ∧ i = .int .i64 k ∧ Gathers w L k v wr) (fun _ i _ => M - (intOf i).toNat)
  case atStart => exact ⟨0, by omega, rfl, ⟨World.ownsRow_nil _ _ _ _, Below.refl _ _⟩⟩
  case round =>
    obtain ⟨k, hk, rfl, hg⟩ := hrel
    have HR := Lib.hid hg; clear hg
    by_cases hlt : k < M
    · have HC : Hid (∀ wx, Calls Try.prog 27 #[.string s, .int .i64 ((F : Int) + (k : Int))] wx fun e w' => e = .returned (.int .u8 (byte s.data.toList (F + k)).toNat) ∧ wx = w') := fun wx => byteAt_sum s F k wx
      have HB := Lib.hid (HG.out k hlt)
      have HLl := Lib.hid (show k < L.length by rw [HL.out]; exact hlt)
      clear HG
      generalize byte s.data.toList (F + k) = b at *
      go_wp2_with (first
        | (go_at_call 27; refine (HC.out _).mono ?_; rintro e w' ⟨rfl, rfl⟩)
        | (at_builtin; refine wpList_append_own _ rfl _ _ 48 rfl w.heap.size 5 i0 (.int .u8 0) 1 1 Try.underlying48 HI.out HI0.out HI1.out HI2.out rfl (by decide) _ _ _ rfl (HR.out.own.alloc _) ⟨wr.heap.size, 0, none⟩ 1 1 [.int .u8 b.toNat] rfl rfl ?c1 ?c2 ?c3 ?c4 ?c5 ?_))
      case c1 =>
        intro j u hj
        match j, hj with
        | 0, hj => simp at hj; subst hj; simp [Addr.add]
      case c2 => intro u hu; simp at hu; subst hu; rfl
      case c3 => unfold maxLen; omega
      case c4 => omega
      case c5 => have := HR.out.below.size; simp; omega
      · intro v' w1 hown' hgrow _
        have HR' := Lib.hid (HR.out.more _ HLl.out HB.out hown' hgrow)
        clear hown' hgrow
        go_wp2
        exact ⟨⟨k + 1, by omega, by go_num, HR'.out⟩, by simp [intOf]; omega⟩
    · obtain rfl : k = M := by omega
      have hcv := convert_own (l := L) (by have h := HR.out.own; rwa [List.take_of_length_le (by rw [HL.out]; exact Nat.le_refl _)] at h) HL.out
      go_wp2
      go_ret
      exact ⟨rfl, HR.out.below⟩
set_option maxHeartbeats 4000000 in
theorem rat_mid_far (s : ByteArray) (n : Int) (F : Nat) (hF : F ≤ s.size) (hn : 64 < n) (L : List UInt8) (hL : L.length = 64) (hs : s.size ≤ 1099511627776) (w : World)
    (hget : ∀ k, k < 64 → L[k]? = some (byte s.data.toList (F + k))) :
    Calls Try.prog 15 #[.string s, .int .i64 (F : Int), .int .i64 n] w fun e w' => e = .returned (.string (bs L)) ∧ Below w.heap.size w w' := by
  have hFd : decide (s.size < F) = false := by simp; omega
  have HG := Lib.hid hget; clear hget
  have HL := Lib.hid hL; clear hL
  obtain ⟨i0, hi, hz0, hz1, hz2⟩ := info_parts info5
  have HI := Lib.hid hi; have HI0 := Lib.hid hz0; have HI1 := Lib.hid hz1; have HI2 := Lib.hid hz2; clear hi hz0 hz1 hz2
  go_enter Try.func15, Try.ntmps15
  go_wp2
  go_loopw [7, 8] (fun v i wr => ∃ k : Nat, k ≤ 64 ∧ i = .int .i64 k ∧ Gathers w L k v wr) (fun _ i _ => 64 - (intOf i).toNat)
  case atStart => exact ⟨0, by omega, rfl, ⟨World.ownsRow_nil _ _ _ _, Below.refl _ _⟩⟩
  case round =>
    obtain ⟨k, hk, rfl, hg⟩ := hrel
    have HR := Lib.hid hg; clear hg
    by_cases hlt : k < 64
    · have HC : Hid (∀ wx, Calls Try.prog 27 #[.string s, .int .i64 ((F : Int) + (k : Int))] wx fun e w' => e = .returned (.int .u8 (byte s.data.toList (F + k)).toNat) ∧ wx = w') := fun wx => byteAt_sum s F k wx
      have HB := Lib.hid (HG.out k hlt)
      have HLl := Lib.hid (show k < L.length by rw [HL.out]; exact hlt)
      clear HG
      generalize byte s.data.toList (F + k) = b at *
      go_wp2_with (first
        | (go_at_call 27; refine (HC.out _).mono ?_; rintro e w' ⟨rfl, rfl⟩)
        | (at_builtin; refine wpList_append_own _ rfl _ _ 48 rfl w.heap.size 5 i0 (.int .u8 0) 1 1 Try.underlying48 HI.out HI0.out HI1.out HI2.out rfl (by decide) _ _ _ rfl (HR.out.own.alloc _) ⟨wr.heap.size, 0, none⟩ 1 1 [.int .u8 b.toNat] rfl rfl ?c1 ?c2 ?c3 ?c4 ?c5 ?_))
      case c1 =>
        intro j u hj
        match j, hj with
        | 0, hj => simp at hj; subst hj; simp [Addr.add]
      case c2 => intro u hu; simp at hu; subst hu; rfl
      case c3 => unfold maxLen; omega
      case c4 => omega
      case c5 => have := HR.out.below.size; simp; omega
      · intro v' w1 hown' hgrow _
        have HR' := Lib.hid (HR.out.more _ HLl.out HB.out hown' hgrow)
        clear hown' hgrow
        go_wp2
        exact ⟨⟨k + 1, by omega, by go_num, HR'.out⟩, by simp [intOf]; omega⟩
    · obtain rfl : k = 64 := by omega
      have hcv := convert_own (l := L) (by have h := HR.out.own; rwa [List.take_of_length_le (by rw [HL.out]; exact Nat.le_refl _)] at h) HL.out
      go_wp2
      go_ret
      exact ⟨rfl, HR.out.below⟩
set_option maxHeartbeats 4000000 in
theorem rat_far_le (s : ByteArray) (f n : Int) (hf : s.size < f) (hn : n ≤ 0) (L : List UInt8) (hL : L.length = 0) (hs : s.size ≤ 1099511627776) (w : World)
    (hget : ∀ k, k < 0 → L[k]? = some (byte s.data.toList (s.size + k))) :
    Calls Try.prog 15 #[.string s, .int .i64 f, .int .i64 n] w fun e w' => e = .returned (.string (bs L)) ∧ Below w.heap.size w w' := by
  have HG := Lib.hid hget; clear hget
  have HL := Lib.hid hL; clear hL
  obtain ⟨i0, hi, hz0, hz1, hz2⟩ := info_parts info5
  have HI := Lib.hid hi; have HI0 := Lib.hid hz0; have HI1 := Lib.hid hz1; have HI2 := Lib.hid hz2; clear hi hz0 hz1 hz2
  go_enter Try.func15, Try.ntmps15
  go_wp2
  go_loopw [7, 8] (fun v i wr => ∃ k : Nat, k ≤ 0 ∧ i = .int .i64 k ∧ Gathers w L k v wr) (fun _ i _ => 0 - (intOf i).toNat)
  case atStart => exact ⟨0, by omega, rfl, ⟨World.ownsRow_nil _ _ _ _, Below.refl _ _⟩⟩
  case round =>
    obtain ⟨k, hk, rfl, hg⟩ := hrel
    have HR := Lib.hid hg; clear hg
    obtain rfl : k = 0 := by omega
    have hcv := convert_own (l := L) (by have h := HR.out.own; rwa [List.take_of_length_le (by rw [HL.out]; exact Nat.le_refl _)] at h) HL.out
    go_wp2
    go_ret
    exact ⟨rfl, HR.out.below⟩
set_option maxHeartbeats 4000000 in
theorem rat_far_mid (s : ByteArray) (f : Int) (hf : s.size < f) (M : Nat) (hn0 : 0 < M) (hn : M ≤ 64) (L : List UInt8) (hL : L.length = M) (hs : s.size ≤ 1099511627776) (w : World)
    (hget : ∀ k, k < M → L[k]? = some (byte s.data.toList (s.size + k))) :
    Calls Try.prog 15 #[.string s, .int .i64 f, .int .i64 (M : Int)] w fun e w' => e = .returned (.string (bs L)) ∧ Below w.heap.size w w' := by
  have HG := Lib.hid hget; clear hget
  have HL := Lib.hid hL; clear hL
  obtain ⟨i0, hi, hz0, hz1, hz2⟩ := info_parts info5
  have HI := Lib.hid hi; have HI0 := Lib.hid hz0; have HI1 := Lib.hid hz1; have HI2 := Lib.hid hz2; clear hi hz0 hz1 hz2
  go_enter Try.func15, Try.ntmps15
  go_wp2
  go_loopw [7, 8] (fun v i wr => ∃ k : Nat, k ≤ M ∧ i = .int .i64 k ∧ Gathers w L k v wr) (fun _ i _ => M - (intOf i).toNat)
  case atStart => exact ⟨0, by omega, rfl, ⟨World.ownsRow_nil _ _ _ _, Below.refl _ _⟩⟩
  case round =>
    obtain ⟨k, hk, rfl, hg⟩ := hrel
    have HR := Lib.hid hg; clear hg
    by_cases hlt : k < M
    · have HC : Hid (∀ wx, Calls Try.prog 27 #[.string s, .int .i64 ((s.size : Int) + (k : Int))] wx fun e w' => e = .returned (.int .u8 (byte s.data.toList (s.size + k)).toNat) ∧ wx = w') := fun wx => byteAt_sum s s.size k wx
      have HB := Lib.hid (HG.out k hlt)
      have HLl := Lib.hid (show k < L.length by rw [HL.out]; exact hlt)
      clear HG
      generalize byte s.data.toList (s.size + k) = b at *
      go_wp2_with (first
        | (go_at_call 27; refine (HC.out _).mono ?_; rintro e w' ⟨rfl, rfl⟩)
        | (at_builtin; refine wpList_append_own _ rfl _ _ 48 rfl w.heap.size 5 i0 (.int .u8 0) 1 1 Try.underlying48 HI.out HI0.out HI1.out HI2.out rfl (by decide) _ _ _ rfl (HR.out.own.alloc _) ⟨wr.heap.size, 0, none⟩ 1 1 [.int .u8 b.toNat] rfl rfl ?c1 ?c2 ?c3 ?c4 ?c5 ?_))
      case c1 =>
        intro j u hj
        match j, hj with
        | 0, hj => simp at hj; subst hj; simp [Addr.add]
      case c2 => intro u hu; simp at hu; subst hu; rfl
      case c3 => unfold maxLen; omega
      case c4 => omega
      case c5 => have := HR.out.below.size; simp; omega
      · intro v' w1 hown' hgrow _
        have HR' := Lib.hid (HR.out.more _ HLl.out HB.out hown' hgrow)
        clear hown' hgrow
        go_wp2
        exact ⟨⟨k + 1, by omega, by go_num, HR'.out⟩, by simp [intOf]; omega⟩
    · obtain rfl : k = M := by omega
      have hcv := convert_own (l := L) (by have h := HR.out.own; rwa [List.take_of_length_le (by rw [HL.out]; exact Nat.le_refl _)] at h) HL.out
      go_wp2
      go_ret
      exact ⟨rfl, HR.out.below⟩
set_option maxHeartbeats 4000000 in
theorem rat_far_far (s : ByteArray) (f n : Int) (hf : s.size < f) (hn : 64 < n) (L : List UInt8) (hL : L.length = 64) (hs : s.size ≤ 1099511627776) (w : World)
    (hget : ∀ k, k < 64 → L[k]? = some (byte s.data.toList (s.size + k))) :
    Calls Try.prog 15 #[.string s, .int .i64 f, .int .i64 n] w fun e w' => e = .returned (.string (bs L)) ∧ Below w.heap.size w w' := by
  have HG := Lib.hid hget; clear hget
  have HL := Lib.hid hL; clear hL
  obtain ⟨i0, hi, hz0, hz1, hz2⟩ := info_parts info5
  have HI := Lib.hid hi; have HI0 := Lib.hid hz0; have HI1 := Lib.hid hz1; have HI2 := Lib.hid hz2; clear hi hz0 hz1 hz2
  go_enter Try.func15, Try.ntmps15
  go_wp2
  go_loopw [7, 8] (fun v i wr => ∃ k : Nat, k ≤ 64 ∧ i = .int .i64 k ∧ Gathers w L k v wr) (fun _ i _ => 64 - (intOf i).toNat)
  case atStart => exact ⟨0, by omega, rfl, ⟨World.ownsRow_nil _ _ _ _, Below.refl _ _⟩⟩
  case round =>
    obtain ⟨k, hk, rfl, hg⟩ := hrel
    have HR := Lib.hid hg; clear hg
    by_cases hlt : k < 64
    · have HC : Hid (∀ wx, Calls Try.prog 27 #[.string s, .int .i64 ((s.size : Int) + (k : Int))] wx fun e w' => e = .returned (.int .u8 (byte s.data.toList (s.size + k)).toNat) ∧ wx = w') := fun wx => byteAt_sum s s.size k wx
      have HB := Lib.hid (HG.out k hlt)
      have HLl := Lib.hid (show k < L.length by rw [HL.out]; exact hlt)
      clear HG
      generalize byte s.data.toList (s.size + k) = b at *
      go_wp2_with (first
        | (go_at_call 27; refine (HC.out _).mono ?_; rintro e w' ⟨rfl, rfl⟩)
        | (at_builtin; refine wpList_append_own _ rfl _ _ 48 rfl w.heap.size 5 i0 (.int .u8 0) 1 1 Try.underlying48 HI.out HI0.out HI1.out HI2.out rfl (by decide) _ _ _ rfl (HR.out.own.alloc _) ⟨wr.heap.size, 0, none⟩ 1 1 [.int .u8 b.toNat] rfl rfl ?c1 ?c2 ?c3 ?c4 ?c5 ?_))
      case c1 =>
        intro j u hj
        match j, hj with
        | 0, hj => simp at hj; subst hj; simp [Addr.add]
      case c2 => intro u hu; simp at hu; subst hu; rfl
      case c3 => unfold maxLen; omega
      case c4 => omega
      case c5 => have := HR.out.below.size; simp; omega
      · intro v' w1 hown' hgrow _
        have HR' := Lib.hid (HR.out.more _ HLl.out HB.out hown' hgrow)
        clear hown' hgrow
        go_wp2
        exact ⟨⟨k + 1, by omega, by go_num, HR'.out⟩, by simp [intOf]; omega⟩
    · obtain rfl : k = 64 := by omega
      have hcv := convert_own (l := L) (by have h := HR.out.own; rwa [List.take_of_length_le (by rw [HL.out]; exact Nat.le_refl _)] at h) HL.out
      go_wp2
      go_ret
      exact ⟨rfl, HR.out.below⟩
/-- The document's At, of any text and any numbers. -/
theorem rat_any (s : ByteArray) (f n : Int) (hs : s.size ≤ 1099511627776) (w : World) :
    Calls Try.prog 15 #[.string s, .int .i64 f, .int .i64 n] w fun e w' => e = .returned (.string (bs (tell s.data.toList f.toNat (min n.toNat 64)))) ∧ Below w.heap.size w w' := by
  have hfar : s.size < f → ∀ k, byte s.data.toList (f.toNat + k) = byte s.data.toList (s.size + k) := fun h k => by
    rw [byte_out (by rw [← Lib.size_eq]; omega), byte_out (by rw [← Lib.size_eq]; omega)]
  by_cases h1 : n ≤ 0
  · have e : min n.toNat 64 = 0 := by omega
    rw [e]
    by_cases g1 : f < 0
    · exact rat_neg_le s f n g1 h1 _ (tell_len _ _ _) hs w (fun k hk => by omega)
    · by_cases g2 : s.size < f
      · exact rat_far_le s f n g2 h1 _ (tell_len _ _ _) hs w (fun k hk => by omega)
      · obtain ⟨F, rfl⟩ : ∃ F : Nat, f = F := ⟨f.toNat, by omega⟩
        exact rat_mid_le s n F (by omega) h1 _ (tell_len _ _ _) hs w (fun k hk => by omega)
  · by_cases h2 : 64 < n
    · have e : min n.toNat 64 = 64 := by omega
      rw [e]
      by_cases g1 : f < 0
      · exact rat_neg_far s f n g1 h2 _ (tell_len _ _ _) hs w (fun k hk => by rw [tell_get _ _ _ _ hk, show f.toNat = 0 by omega, Nat.zero_add])
      · by_cases g2 : s.size < f
        · exact rat_far_far s f n g2 h2 _ (tell_len _ _ _) hs w (fun k hk => by rw [tell_get _ _ _ _ hk, hfar g2])
        · obtain ⟨F, rfl⟩ : ∃ F : Nat, f = F := ⟨f.toNat, by omega⟩
          exact rat_mid_far s n F (by omega) h2 _ (tell_len _ _ _) hs w (fun k hk => by rw [tell_get _ _ _ _ hk]; rfl)
    · obtain ⟨M, rfl⟩ : ∃ M : Nat, n = M := ⟨n.toNat, by omega⟩
      have e : min (M : Int).toNat 64 = M := by omega
      rw [e]
      by_cases g1 : f < 0
      · exact rat_neg_mid s f g1 M (by omega) (by omega) _ (tell_len _ _ _) hs w (fun k hk => by rw [tell_get _ _ _ _ hk, show f.toNat = 0 by omega, Nat.zero_add])
      · by_cases g2 : s.size < f
        · exact rat_far_mid s f g2 M (by omega) (by omega) _ (tell_len _ _ _) hs w (fun k hk => by rw [tell_get _ _ _ _ hk, hfar g2])
        · obtain ⟨F, rfl⟩ : ∃ F : Nat, f = F := ⟨f.toNat, by omega⟩
          exact rat_mid_mid s F (by omega) M (by omega) (by omega) _ (tell_len _ _ _) hs w (fun k hk => by rw [tell_get _ _ _ _ hk]; rfl)
end Go.Proofs.Ytadfccgoooafoaa
