/- A patch's text, by the document. Conditions: lengths below 2^40. -/
import Derived.Test.YtadfccgoooafoaaBkF
namespace Go.Proofs.Ytadfccgoooafoaa
open Go.ChangeShapes Go.WideShapes Go.RowKit Go.Codec Go.Blk
set_option maxRecDepth 100000
theorem row_text {w : World} {g k : Nat} {l : List UInt8} (hl : l.length = k) (h : Is w g 5 (cellsOf l).toArray) : (convert 48 9 (.slice (some ⟨g, 0, none⟩) k k)).run Try.prog w = .ok (.string (bs l)) w := by
  subst hl
  exact run_convert_bytes_back (P := Try.prog) w 48 9 5 ⟨g, 0, none⟩ l.length l Try.underlying48 Try.underlying5 Try.underlying9 (fun j hj => by
    have e : (⟨g, 0, none⟩ : Addr).add j = ⟨g, j, none⟩ := by unfold Addr.add; split <;> simp_all
    rw [e, h.cell j]
    simp [cellsOf, hj])
theorem cell_be {n : Nat} (hn : n < 256) : cellsOf (be 1 n) = [.int .u8 n] := by
  simp [cellsOf, be]; omega
set_option maxHeartbeats 4000000 in
theorem rput_no (c : Bool) (a n : Int) (s : ByteArray) (w : World) (H : ∀ w, Calls Try.prog 32 #[.agg #[.bool c, .int .i64 a, .int .i64 n, .string s]] w fun e w' => e = .returned (.bool false) ∧ Below w.heap.size w w') :
    Calls Try.prog 17 #[.agg #[.bool c, .int .i64 a, .int .i64 n, .string s]] w fun e w' => e = .returned (.tuple #[.string (bs []), .int .i64 4]) ∧ Below w.heap.size w w' := by
  have HX := Lib.hid (Box.new w 35 #[.bool c, .int .i64 a, .int .i64 n, .string s])
  go_enter Try.func17, Try.ntmps17
  go_wp2_with fail
  refine (H _).mono ?_; rintro e w1 ⟨rfl, hb⟩
  have HY := Lib.hid (HX.out.later hb)
  clear hb
  go_wp2_with fail
  go_ret2
  exact ⟨rfl, HY.out.below⟩
set_option maxHeartbeats 4000000 in
theorem rput_cut (n : Nat) (s : ByteArray) (hn : n < 64) (w : World) (H : ∀ w, Calls Try.prog 32 #[.agg #[.bool true, .int .i64 0, .int .i64 n, .string s]] w fun e w' => e = .returned (.bool true) ∧ Below w.heap.size w w') :
    Calls Try.prog 17 #[.agg #[.bool true, .int .i64 0, .int .i64 n, .string s]] w fun e w' => e = .returned (.tuple #[.string (bs (be 1 2 ++ be 1 n)), .int .i64 0]) ∧ Below w.heap.size w w' := by
  have HX := Lib.hid (Box.new w 35 #[.bool true, .int .i64 0, .int .i64 n, .string s])
  have hcv : (n : Int) % 256 = (n : Int) := by omega
  generalize hT : bs (be 1 2 ++ be 1 n) = T
  go_enter Try.func17, Try.ntmps17
  go_wp2_with fail
  refine (H _).mono ?_; rintro e w1 ⟨rfl, hb⟩
  have hc : (convert 48 9 (.slice (some ⟨w1.heap.size, 0, none⟩) 2 2)).run Try.prog (w1.alloc (.cells #[.int .u8 2, .int .u8 n] 5)) = .ok (.string T) (w1.alloc (.cells #[.int .u8 2, .int .u8 n] 5)) := by
    rw [← hT]
    refine row_text (by simp [be_length]) ?_
    have e : (cellsOf (be 1 2 ++ be 1 n)).toArray = #[.int .u8 2, .int .u8 n] := by
      have e1 := cell_be (n := n) (by omega)
      have e2 := cell_be (n := 2) (by omega)
      unfold cellsOf at *
      rw [List.map_append, e1, e2]
      rfl
    rw [e]
    exact Is.new _ _ _
  have HW := Lib.hid (HX.out.later hb)
  clear hb HX hT
  obtain ⟨c0, c1, c2, c3⟩ := HW.out.cells
  go_wp2_with fail
  go_ret2
  exact ⟨rfl, below_alloc HW.out.below _⟩
set_option maxHeartbeats 4000000 in
theorem rput_splice (a : Nat) (s : ByteArray) (ha : a ≤ 64) (hs : s.size ≤ 64) (w : World) (H : ∀ w, Calls Try.prog 32 #[.agg #[.bool false, .int .i64 a, .int .i64 0, .string s]] w fun e w' => e = .returned (.bool true) ∧ Below w.heap.size w w') :
    Calls Try.prog 17 #[.agg #[.bool false, .int .i64 a, .int .i64 0, .string s]] w fun e w' => e = .returned (.tuple #[.string (bs (be 1 1 ++ be 1 a ++ (be 1 0 ++ be 1 s.size)) ++ s), .int .i64 0]) ∧ Below w.heap.size w w' := by
  have HX := Lib.hid (Box.new w 35 #[.bool false, .int .i64 a, .int .i64 0, .string s])
  have hcv : (a : Int) % 256 = (a : Int) := by omega
  have hcs : (s.size : Int) % 256 = (s.size : Int) := by omega
  have hTs : (bs (be 1 1 ++ be 1 a ++ (be 1 0 ++ be 1 s.size))).size = 4 := by simp [be_length, bs_size]
  generalize hT : bs (be 1 1 ++ be 1 a ++ (be 1 0 ++ be 1 s.size)) = T at *
  have hno : ¬ 9223372036854775807 < T.size + s.size := by omega
  go_enter Try.func17, Try.ntmps17
  go_wp2_with fail
  refine (H _).mono ?_; rintro e w1 ⟨rfl, hb⟩
  have hc : (convert 48 9 (.slice (some ⟨w1.heap.size, 0, none⟩) 4 4)).run Try.prog (w1.alloc (.cells #[.int .u8 1, .int .u8 a, .int .u8 0, .int .u8 s.size] 5)) = .ok (.string T) (w1.alloc (.cells #[.int .u8 1, .int .u8 a, .int .u8 0, .int .u8 s.size] 5)) := by
    rw [← hT]
    refine row_text (by simp [be_length]) ?_
    have e : (cellsOf (be 1 1 ++ be 1 a ++ (be 1 0 ++ be 1 s.size))).toArray = #[.int .u8 1, .int .u8 a, .int .u8 0, .int .u8 s.size] := by
      have e1 := cell_be (n := a) (by omega)
      have e2 := cell_be (n := 1) (by omega)
      have e3 := cell_be (n := 0) (by omega)
      have e4 := cell_be (n := s.size) (by omega)
      unfold cellsOf at *
      rw [List.map_append, List.map_append, List.map_append, e1, e2, e3, e4]
      rfl
    rw [e]
    exact Is.new _ _ _
  have HW := Lib.hid (HX.out.later hb)
  clear hb HX hT
  obtain ⟨c0, c1, c2, c3⟩ := HW.out.cells
  have HV := Lib.hid (HW.out.later (below_alloc (Below.refl _ _) (.cells #[.int .u8 1, .int .u8 a, .int .u8 0, .int .u8 s.size] 5)))
  obtain ⟨d0, d1, d2, d3⟩ := HV.out.cells
  go_wp2_with fail
  go_ret2
  exact ⟨rfl, HV.out.below⟩
theorem splice_text {a : Nat} {s : ByteArray} (hs : s.size ≤ 64) : bs (be 1 1 ++ be 1 a ++ (be 1 0 ++ be 1 s.size)) ++ s = bs (be 1 1 ++ be 1 a ++ (be 2 s.data.toList.length ++ s.data.toList)) := by
  have e : be 2 s.data.toList.length = be 1 0 ++ be 1 s.size := by
    rw [← Lib.size_eq, be1, be1, be2, Nat.div_eq_of_lt (by omega)]
    rfl
  rw [e]
  conv => lhs; rw [← list_bs s, bs_append, list_bs s]
  simp only [List.append_assoc]
theorem rput_any (c : Bool) (a n : Int) (s : ByteArray) (hs : s.size ≤ 1099511627776) (w : World) :
    Calls Try.prog 17 #[.agg #[.bool c, .int .i64 a, .int .i64 n, .string s]] w fun e w' => e = .returned (.tuple #[.string (bs (putP c a n s.data.toList)), .int .i64 (ckP c a n s.data.toList : Nat)]) ∧ Below w.heap.size w w' := by
  have H := rmay_any c a n s hs
  cases h : may c a n s.data.toList with
  | false =>
    have e1 : putP c a n s.data.toList = [] := by simp [putP, h]
    have e2 : ckP c a n s.data.toList = 4 := by simp [ckP, h]
    rw [e1, e2]; rw [h] at H
    exact rput_no c a n s w H
  | true =>
    have e1 : putP c a n s.data.toList = textP c a.toNat n.toNat s.data.toList := by simp [putP, h]
    have e2 : ckP c a n s.data.toList = 0 := by simp [ckP, h]
    rw [e1, e2]; rw [h] at H
    cases c with
    | true =>
      obtain ⟨h1, h2, h3, h4⟩ := may_cut.1 h
      subst h3
      obtain ⟨k, rfl⟩ := Int.eq_ofNat_of_zero_le h1
      exact rput_cut k s (by omega) w H
    | false =>
      obtain ⟨h1, h2, h3, h4⟩ := may_splice.1 h
      subst h4
      obtain ⟨k, rfl⟩ := Int.eq_ofNat_of_zero_le h2
      have hl : s.data.toList.length = s.size := (Lib.size_eq s).symm
      have hx := rput_splice k s (by omega) (by omega) w H
      rw [splice_text (by omega)] at hx
      exact hx
end Go.Proofs.Ytadfccgoooafoaa
