/- What bytes are that may be stamped, in the program. Conditions: lengths below 2^30. -/
import Derived.Test.YtlidieffaaicaaaGreatSealD
namespace Go.Proofs.YtlidieffaaicaaaGreat
open Go.ChangeShapes Go.WideShapes Go.RowKit Go.Codec
set_option maxRecDepth 100000
set_option linter.unusedVariables false
theorem results_tmp4 {fn : Func} {t u v x : Tmp} (h : fn.results = #[.tmp t, .tmp u, .tmp v, .tmp x]) (tmps : Array Value) (P : Program) (w : World) :
    (results fn tmps).run P w = .ok (.tuple #[tmps.getD t undef, tmps.getD u undef, tmps.getD v undef, tmps.getD x undef]) w := by
  simp [results, h]
theorem un_few (s : ByteArray) (hs : s.size < 26) (w : World) :
    Calls Tryz.prog 50 #[.string s] w fun e w' => e = .returned (.tuple #[.int .u64 0, .int .u32 0, .string ⟨#[]⟩, .int .i64 10]) ∧ Below w.heap.size w w' := by
  have h : (s.size : Int) < 26 := by omega
  clear hs
  go_enter Tryz.func50, Tryz.ntmps50
  go_wp2
  (try simp only [Exit.inBlock, Exit.then]); refine bodyPost_ret (results_tmp4 rfl _ _ _) rfl ?_
  exact ⟨rfl, Below.refl _ _⟩
theorem un_many (s : ByteArray) (hs : 65536 < s.size) (w : World) :
    Calls Tryz.prog 50 #[.string s] w fun e w' => e = .returned (.tuple #[.int .u64 0, .int .u32 0, .string ⟨#[]⟩, .int .i64 4]) ∧ Below w.heap.size w w' := by
  have h1 : ¬ (s.size : Int) < 26 := by omega
  have h : (65536 : Int) < s.size := by omega
  clear hs
  go_enter Tryz.func50, Tryz.ntmps50
  go_wp2
  (try simp only [Exit.inBlock, Exit.then]); refine bodyPost_ret (results_tmp4 rfl _ _ _) rfl ?_
  exact ⟨rfl, Below.refl _ _⟩
/-- The steps of reading a stamped text. -/
structure Steps (s : ByteArray) (g i g' i' : Nat) (t b : List UInt8) (x1 x2 x3 x4 x5 x6 : R) (mi : Int) : Prop where
  gen : ∀ r w', Rd w' r ⟨s.data.toList, 0⟩ → Calls Tryz.prog 52 #[.pointer (some ⟨r, 0, none⟩)] w' (Got .u64 r g x1 w')
  idx : ∀ r w', Rd w' r x1 → Calls Tryz.prog 78 #[.pointer (some ⟨r, 0, none⟩)] w' (Got .u32 r i x2 w')
  txt : ∀ r w', Rd w' r x2 → Calls Tryz.prog 79 #[.pointer (some ⟨r, 0, none⟩)] w' (Took r t x3 w')
  rst : ∀ r w', Rd w' r x3 → Calls Tryz.prog 81 #[.pointer (some ⟨r, 0, none⟩)] w' fun e w'' => e = .returned (.string (bs x3.rest)) ∧ w' = w''
  fix : ∀ r w', Rd w' r x3 → Calls Tryz.prog 80 #[.pointer (some ⟨r, 0, none⟩), .int .i64 mi] w' (Took r b x4 w')
  idx' : ∀ r w', Rd w' r x4 → Calls Tryz.prog 78 #[.pointer (some ⟨r, 0, none⟩)] w' (Got .u32 r i' x5 w')
  gen' : ∀ r w', Rd w' r x5 → Calls Tryz.prog 52 #[.pointer (some ⟨r, 0, none⟩)] w' (Got .u64 r g' x6 w')
  err : ∀ r w', Rd w' r x6 → Calls Tryz.prog 82 #[.pointer (some ⟨r, 0, none⟩)] w' fun e w'' => e = .returned (.int .i64 x6.er) ∧ w' = w''
set_option maxHeartbeats 2000000 in
theorem un_torn (s : ByteArray) (g i g' i' : Nat) (t b : List UInt8) (x1 x2 x3 x4 x5 x6 : R) (mi : Int) (h26 : ¬ (s.size : Int) < 26) (h65 : ¬ (65536 : Int) < (s.size : Int)) (w : World)
    (H0 : Hid (Calls Tryz.prog 51 #[.string s] w fun e w' => ∃ r, e = .returned (.pointer (some ⟨r, 0, none⟩)) ∧ w.heap.size ≤ r ∧ Rd w' r ⟨s.data.toList, 0⟩ ∧ Below w.heap.size w w'))
    (H : Hid (Steps s g i g' i' t b x1 x2 x3 x4 x5 x6 mi)) (hmi : ((bs x3.rest).size : Int) - 12 = mi) (hx3 : (bs x3.rest).size ≤ 1073741824) (her : x6.er = 10) :
    Calls Tryz.prog 50 #[.string s] w fun e w' => e = .returned (.tuple #[.int .u64 0, .int .u32 0, .string ⟨#[]⟩, .int .i64 4]) ∧ Below w.heap.size w w' := by
  go_enter Tryz.func50, Tryz.ntmps50
  go_wp2_with fail
  refine H0.out.mono ?_; rintro e w0 ⟨r, rfl, hr, h1, b1⟩
  have R0 := Lib.hid hr; have A0 := Lib.hid h1; have B0 := Lib.hid b1; clear hr h1 b1
  go_wp2_with fail
  refine (H.out.gen r _ A0.out).mono ?_; rintro e w1 ⟨rfl, h1, g1⟩
  have A1 := Lib.hid h1; have B1 := Lib.hid (B0.out.trans (below_of_grow g1 B0.out.size R0.out)); clear h1 g1
  go_wp2_with fail
  refine (H.out.idx r _ A1.out).mono ?_; rintro e w2 ⟨rfl, h1, g1⟩
  have A2 := Lib.hid h1; have B2 := Lib.hid (B1.out.trans (below_of_grow g1 B1.out.size R0.out)); clear h1 g1
  go_wp2_with fail
  refine (H.out.txt r _ A2.out).mono ?_; rintro e w3 ⟨rfl, h1, g1⟩
  have A3 := Lib.hid h1; have B3 := Lib.hid (B2.out.trans (below_of_grow g1 B2.out.size R0.out)); clear h1 g1
  go_wp2_with fail
  refine (H.out.rst r _ A3.out).mono ?_; rintro e w4 ⟨rfl, rfl⟩
  go_wp2_with fail
  refine (H.out.fix r _ A3.out).mono ?_; rintro e w4 ⟨rfl, h1, g1⟩
  have A4 := Lib.hid h1; have B4 := Lib.hid (B3.out.trans (below_of_grow g1 B3.out.size R0.out)); clear h1 g1
  clear hmi hx3
  go_wp2_with fail
  refine (H.out.idx' r _ A4.out).mono ?_; rintro e w5 ⟨rfl, h1, g1⟩
  have A5 := Lib.hid h1; have B5 := Lib.hid (B4.out.trans (below_of_grow g1 B4.out.size R0.out)); clear h1 g1
  go_wp2_with fail
  refine (H.out.gen' r _ A5.out).mono ?_; rintro e w6 ⟨rfl, h1, g1⟩
  have A6 := Lib.hid h1; have B6 := Lib.hid (B5.out.trans (below_of_grow g1 B5.out.size R0.out)); clear h1 g1
  go_wp2_with fail
  refine (H.out.err r _ A6.out).mono ?_; rintro e w7 ⟨rfl, rfl⟩
  rw [her]
  go_wp2
  (try simp only [Exit.inBlock, Exit.then]); refine bodyPost_ret (results_tmp4 rfl _ _ _) rfl ?_
  exact ⟨rfl, B6.out⟩
set_option maxHeartbeats 2000000 in
theorem un_idx (s : ByteArray) (g i g' i' : Nat) (t b : List UInt8) (x1 x2 x3 x4 x5 x6 : R) (mi : Int) (h26 : ¬ (s.size : Int) < 26) (h65 : ¬ (65536 : Int) < (s.size : Int)) (w : World)
    (H0 : Hid (Calls Tryz.prog 51 #[.string s] w fun e w' => ∃ r, e = .returned (.pointer (some ⟨r, 0, none⟩)) ∧ w.heap.size ≤ r ∧ Rd w' r ⟨s.data.toList, 0⟩ ∧ Below w.heap.size w w'))
    (H : Hid (Steps s g i g' i' t b x1 x2 x3 x4 x5 x6 mi)) (hmi : ((bs x3.rest).size : Int) - 12 = mi) (hx3 : (bs x3.rest).size ≤ 1073741824) (her : x6.er = 0) (hi : ¬ (i' : Int) = (i : Int)) :
    Calls Tryz.prog 50 #[.string s] w fun e w' => e = .returned (.tuple #[.int .u64 0, .int .u32 0, .string ⟨#[]⟩, .int .i64 4]) ∧ Below w.heap.size w w' := by
  go_enter Tryz.func50, Tryz.ntmps50
  go_wp2_with fail
  refine H0.out.mono ?_; rintro e w0 ⟨r, rfl, hr, h1, b1⟩
  have R0 := Lib.hid hr; have A0 := Lib.hid h1; have B0 := Lib.hid b1; clear hr h1 b1
  go_wp2_with fail
  refine (H.out.gen r _ A0.out).mono ?_; rintro e w1 ⟨rfl, h1, g1⟩
  have A1 := Lib.hid h1; have B1 := Lib.hid (B0.out.trans (below_of_grow g1 B0.out.size R0.out)); clear h1 g1
  go_wp2_with fail
  refine (H.out.idx r _ A1.out).mono ?_; rintro e w2 ⟨rfl, h1, g1⟩
  have A2 := Lib.hid h1; have B2 := Lib.hid (B1.out.trans (below_of_grow g1 B1.out.size R0.out)); clear h1 g1
  go_wp2_with fail
  refine (H.out.txt r _ A2.out).mono ?_; rintro e w3 ⟨rfl, h1, g1⟩
  have A3 := Lib.hid h1; have B3 := Lib.hid (B2.out.trans (below_of_grow g1 B2.out.size R0.out)); clear h1 g1
  go_wp2_with fail
  refine (H.out.rst r _ A3.out).mono ?_; rintro e w4 ⟨rfl, rfl⟩
  go_wp2_with fail
  refine (H.out.fix r _ A3.out).mono ?_; rintro e w4 ⟨rfl, h1, g1⟩
  have A4 := Lib.hid h1; have B4 := Lib.hid (B3.out.trans (below_of_grow g1 B3.out.size R0.out)); clear h1 g1
  clear hmi hx3
  go_wp2_with fail
  refine (H.out.idx' r _ A4.out).mono ?_; rintro e w5 ⟨rfl, h1, g1⟩
  have A5 := Lib.hid h1; have B5 := Lib.hid (B4.out.trans (below_of_grow g1 B4.out.size R0.out)); clear h1 g1
  go_wp2_with fail
  refine (H.out.gen' r _ A5.out).mono ?_; rintro e w6 ⟨rfl, h1, g1⟩
  have A6 := Lib.hid h1; have B6 := Lib.hid (B5.out.trans (below_of_grow g1 B5.out.size R0.out)); clear h1 g1
  go_wp2_with fail
  refine (H.out.err r _ A6.out).mono ?_; rintro e w7 ⟨rfl, rfl⟩
  rw [her]
  go_wp2
  (try simp only [Exit.inBlock, Exit.then]); refine bodyPost_ret (results_tmp4 rfl _ _ _) rfl ?_
  exact ⟨rfl, B6.out⟩
set_option maxHeartbeats 2000000 in
theorem un_gen (s : ByteArray) (g i g' : Nat) (t b : List UInt8) (x1 x2 x3 x4 x5 x6 : R) (mi : Int) (h26 : ¬ (s.size : Int) < 26) (h65 : ¬ (65536 : Int) < (s.size : Int)) (w : World)
    (H0 : Hid (Calls Tryz.prog 51 #[.string s] w fun e w' => ∃ r, e = .returned (.pointer (some ⟨r, 0, none⟩)) ∧ w.heap.size ≤ r ∧ Rd w' r ⟨s.data.toList, 0⟩ ∧ Below w.heap.size w w'))
    (H : Hid (Steps s g i g' i t b x1 x2 x3 x4 x5 x6 mi)) (hmi : ((bs x3.rest).size : Int) - 12 = mi) (hx3 : (bs x3.rest).size ≤ 1073741824) (her : x6.er = 0) (hg : ¬ (g' : Int) = (g : Int)) :
    Calls Tryz.prog 50 #[.string s] w fun e w' => e = .returned (.tuple #[.int .u64 0, .int .u32 0, .string ⟨#[]⟩, .int .i64 4]) ∧ Below w.heap.size w w' := by
  go_enter Tryz.func50, Tryz.ntmps50
  go_wp2_with fail
  refine H0.out.mono ?_; rintro e w0 ⟨r, rfl, hr, h1, b1⟩
  have R0 := Lib.hid hr; have A0 := Lib.hid h1; have B0 := Lib.hid b1; clear hr h1 b1
  go_wp2_with fail
  refine (H.out.gen r _ A0.out).mono ?_; rintro e w1 ⟨rfl, h1, g1⟩
  have A1 := Lib.hid h1; have B1 := Lib.hid (B0.out.trans (below_of_grow g1 B0.out.size R0.out)); clear h1 g1
  go_wp2_with fail
  refine (H.out.idx r _ A1.out).mono ?_; rintro e w2 ⟨rfl, h1, g1⟩
  have A2 := Lib.hid h1; have B2 := Lib.hid (B1.out.trans (below_of_grow g1 B1.out.size R0.out)); clear h1 g1
  go_wp2_with fail
  refine (H.out.txt r _ A2.out).mono ?_; rintro e w3 ⟨rfl, h1, g1⟩
  have A3 := Lib.hid h1; have B3 := Lib.hid (B2.out.trans (below_of_grow g1 B2.out.size R0.out)); clear h1 g1
  go_wp2_with fail
  refine (H.out.rst r _ A3.out).mono ?_; rintro e w4 ⟨rfl, rfl⟩
  go_wp2_with fail
  refine (H.out.fix r _ A3.out).mono ?_; rintro e w4 ⟨rfl, h1, g1⟩
  have A4 := Lib.hid h1; have B4 := Lib.hid (B3.out.trans (below_of_grow g1 B3.out.size R0.out)); clear h1 g1
  clear hmi hx3
  go_wp2_with fail
  refine (H.out.idx' r _ A4.out).mono ?_; rintro e w5 ⟨rfl, h1, g1⟩
  have A5 := Lib.hid h1; have B5 := Lib.hid (B4.out.trans (below_of_grow g1 B4.out.size R0.out)); clear h1 g1
  go_wp2_with fail
  refine (H.out.gen' r _ A5.out).mono ?_; rintro e w6 ⟨rfl, h1, g1⟩
  have A6 := Lib.hid h1; have B6 := Lib.hid (B5.out.trans (below_of_grow g1 B5.out.size R0.out)); clear h1 g1
  go_wp2_with fail
  refine (H.out.err r _ A6.out).mono ?_; rintro e w7 ⟨rfl, rfl⟩
  rw [her]
  go_wp2
  (try simp only [Exit.inBlock, Exit.then]); refine bodyPost_ret (results_tmp4 rfl _ _ _) rfl ?_
  exact ⟨rfl, B6.out⟩
set_option maxHeartbeats 2000000 in
theorem un_other (s : ByteArray) (g i : Nat) (t b : List UInt8) (x1 x2 x3 x4 x5 x6 : R) (mi : Int) (h26 : ¬ (s.size : Int) < 26) (h65 : ¬ (65536 : Int) < (s.size : Int)) (w : World)
    (H0 : Hid (Calls Tryz.prog 51 #[.string s] w fun e w' => ∃ r, e = .returned (.pointer (some ⟨r, 0, none⟩)) ∧ w.heap.size ≤ r ∧ Rd w' r ⟨s.data.toList, 0⟩ ∧ Below w.heap.size w w'))
    (H : Hid (Steps s g i g i t b x1 x2 x3 x4 x5 x6 mi)) (hmi : ((bs x3.rest).size : Int) - 12 = mi) (hx3 : (bs x3.rest).size ≤ 1073741824) (her : x6.er = 0)
    (HA : Hid (∀ w', Calls Tryz.prog 83 #[.string (bs b)] w' fun e w'' => e = .returned (.bool false) ∧ Below w'.heap.size w' w'')) :
    Calls Tryz.prog 50 #[.string s] w fun e w' => e = .returned (.tuple #[.int .u64 0, .int .u32 0, .string ⟨#[]⟩, .int .i64 4]) ∧ Below w.heap.size w w' := by
  go_enter Tryz.func50, Tryz.ntmps50
  go_wp2_with fail
  refine H0.out.mono ?_; rintro e w0 ⟨r, rfl, hr, h1, b1⟩
  have R0 := Lib.hid hr; have A0 := Lib.hid h1; have B0 := Lib.hid b1; clear hr h1 b1
  go_wp2_with fail
  refine (H.out.gen r _ A0.out).mono ?_; rintro e w1 ⟨rfl, h1, g1⟩
  have A1 := Lib.hid h1; have B1 := Lib.hid (B0.out.trans (below_of_grow g1 B0.out.size R0.out)); clear h1 g1
  go_wp2_with fail
  refine (H.out.idx r _ A1.out).mono ?_; rintro e w2 ⟨rfl, h1, g1⟩
  have A2 := Lib.hid h1; have B2 := Lib.hid (B1.out.trans (below_of_grow g1 B1.out.size R0.out)); clear h1 g1
  go_wp2_with fail
  refine (H.out.txt r _ A2.out).mono ?_; rintro e w3 ⟨rfl, h1, g1⟩
  have A3 := Lib.hid h1; have B3 := Lib.hid (B2.out.trans (below_of_grow g1 B2.out.size R0.out)); clear h1 g1
  go_wp2_with fail
  refine (H.out.rst r _ A3.out).mono ?_; rintro e w4 ⟨rfl, rfl⟩
  go_wp2_with fail
  refine (H.out.fix r _ A3.out).mono ?_; rintro e w4 ⟨rfl, h1, g1⟩
  have A4 := Lib.hid h1; have B4 := Lib.hid (B3.out.trans (below_of_grow g1 B3.out.size R0.out)); clear h1 g1
  clear hmi hx3
  go_wp2_with fail
  refine (H.out.idx' r _ A4.out).mono ?_; rintro e w5 ⟨rfl, h1, g1⟩
  have A5 := Lib.hid h1; have B5 := Lib.hid (B4.out.trans (below_of_grow g1 B4.out.size R0.out)); clear h1 g1
  go_wp2_with fail
  refine (H.out.gen' r _ A5.out).mono ?_; rintro e w6 ⟨rfl, h1, g1⟩
  have A6 := Lib.hid h1; have B6 := Lib.hid (B5.out.trans (below_of_grow g1 B5.out.size R0.out)); clear h1 g1
  go_wp2_with fail
  refine (H.out.err r _ A6.out).mono ?_; rintro e w7 ⟨rfl, rfl⟩
  rw [her]
  go_wp2_with fail
  refine (HA.out _).mono ?_; rintro e w7 ⟨rfl, b7⟩
  have B7 := Lib.hid (B6.out.trans (b7.mono B6.out.size)); clear b7
  go_wp2
  (try simp only [Exit.inBlock, Exit.then]); refine bodyPost_ret (results_tmp4 rfl _ _ _) rfl ?_
  exact ⟨rfl, B7.out⟩
set_option maxHeartbeats 2000000 in
theorem un_good (s : ByteArray) (g i : Nat) (t b : List UInt8) (x1 x2 x3 x4 x5 x6 : R) (mi : Int) (h26 : ¬ (s.size : Int) < 26) (h65 : ¬ (65536 : Int) < (s.size : Int)) (w : World)
    (H0 : Hid (Calls Tryz.prog 51 #[.string s] w fun e w' => ∃ r, e = .returned (.pointer (some ⟨r, 0, none⟩)) ∧ w.heap.size ≤ r ∧ Rd w' r ⟨s.data.toList, 0⟩ ∧ Below w.heap.size w w'))
    (H : Hid (Steps s g i g i t b x1 x2 x3 x4 x5 x6 mi)) (hmi : ((bs x3.rest).size : Int) - 12 = mi) (hx3 : (bs x3.rest).size ≤ 1073741824) (her : x6.er = 0)
    (HA : Hid (∀ w', Calls Tryz.prog 83 #[.string (bs b)] w' fun e w'' => e = .returned (.bool true) ∧ Below w'.heap.size w' w'')) :
    Calls Tryz.prog 50 #[.string s] w fun e w' => e = .returned (.tuple #[.int .u64 (g : Nat), .int .u32 (i : Nat), .string (bs t), .int .i64 0]) ∧ Below w.heap.size w w' := by
  go_enter Tryz.func50, Tryz.ntmps50
  go_wp2_with fail
  refine H0.out.mono ?_; rintro e w0 ⟨r, rfl, hr, h1, b1⟩
  have R0 := Lib.hid hr; have A0 := Lib.hid h1; have B0 := Lib.hid b1; clear hr h1 b1
  go_wp2_with fail
  refine (H.out.gen r _ A0.out).mono ?_; rintro e w1 ⟨rfl, h1, g1⟩
  have A1 := Lib.hid h1; have B1 := Lib.hid (B0.out.trans (below_of_grow g1 B0.out.size R0.out)); clear h1 g1
  go_wp2_with fail
  refine (H.out.idx r _ A1.out).mono ?_; rintro e w2 ⟨rfl, h1, g1⟩
  have A2 := Lib.hid h1; have B2 := Lib.hid (B1.out.trans (below_of_grow g1 B1.out.size R0.out)); clear h1 g1
  go_wp2_with fail
  refine (H.out.txt r _ A2.out).mono ?_; rintro e w3 ⟨rfl, h1, g1⟩
  have A3 := Lib.hid h1; have B3 := Lib.hid (B2.out.trans (below_of_grow g1 B2.out.size R0.out)); clear h1 g1
  go_wp2_with fail
  refine (H.out.rst r _ A3.out).mono ?_; rintro e w4 ⟨rfl, rfl⟩
  go_wp2_with fail
  refine (H.out.fix r _ A3.out).mono ?_; rintro e w4 ⟨rfl, h1, g1⟩
  have A4 := Lib.hid h1; have B4 := Lib.hid (B3.out.trans (below_of_grow g1 B3.out.size R0.out)); clear h1 g1
  clear hmi hx3
  go_wp2_with fail
  refine (H.out.idx' r _ A4.out).mono ?_; rintro e w5 ⟨rfl, h1, g1⟩
  have A5 := Lib.hid h1; have B5 := Lib.hid (B4.out.trans (below_of_grow g1 B4.out.size R0.out)); clear h1 g1
  go_wp2_with fail
  refine (H.out.gen' r _ A5.out).mono ?_; rintro e w6 ⟨rfl, h1, g1⟩
  have A6 := Lib.hid h1; have B6 := Lib.hid (B5.out.trans (below_of_grow g1 B5.out.size R0.out)); clear h1 g1
  go_wp2_with fail
  refine (H.out.err r _ A6.out).mono ?_; rintro e w7 ⟨rfl, rfl⟩
  rw [her]
  go_wp2_with fail
  refine (HA.out _).mono ?_; rintro e w7 ⟨rfl, b7⟩
  have B7 := Lib.hid (B6.out.trans (b7.mono B6.out.size)); clear b7
  go_wp2
  (try simp only [Exit.inBlock, Exit.then]); refine bodyPost_ret (results_tmp4 rfl _ _ _) rfl ?_
  exact ⟨rfl, B7.out⟩
end Go.Proofs.YtlidieffaaicaaaGreat
