/- The chapter's superblock, its text, a text that is none, a superblock that may not be. Conditions: lengths below 2^30. -/
import Derived.Test.YtlidieffaaicaaaGreatSuE
namespace Go.Proofs.YtlidieffaaicaaaGreat
open Go.ChangeShapes Go.WideShapes Go.RowKit Go.Codec Go.Super
set_option maxRecDepth 100000
set_option linter.unusedSimpArgs false
/-- The chapter's superblock. -/
def g5 : S := ⟨1, 2, 66, 70, 512⟩
theorem g5_ok : g5.Ok := by decide
set_option maxHeartbeats 4000000 in
theorem given_c (w : World) : Calls Tryz.prog 20 #[] w fun e w' => e = .returned (.agg #[.int .u64 1, .int .u64 2, .int .i64 66, .int .i64 70, .int .i64 512]) ∧ Below w.heap.size w w' := by
  have HF := Lib.hid (Box.new w 28 #[.int .u64 1, .int .u64 2, .int .i64 66, .int .i64 70, .int .i64 512])
  obtain ⟨d0, d1, d2, d3, d4⟩ := HF.out.c5
  have hlt := HF.out.one.lt
  go_enter Tryz.func20, Tryz.ntmps20
  go_wp2_with fail
  exact bodyPost_ret (v := .agg #[.int .u64 1, .int .u64 2, .int .i64 66, .int .i64 70, .int .i64 512]) (by simp [results, Tryz.results20, go_sem, d0, d1, d2, d3, d4, hlt]) rfl ⟨rfl, HF.out.below⟩
set_option maxHeartbeats 1000000 in
theorem text_c (s : S) (w : World) : Calls Tryz.prog 23 #[.agg #[.int .u64 s.gen, .int .u64 s.calls, .int .i64 s.root, .int .i64 s.table, .int .i64 s.secs]] w fun e w' => e = .returned (.string (bs (put s).1)) ∧ Below w.heap.size w w' := by
  have HP := Lib.hid (fun w' => put_c s w')
  obtain ⟨g, c, r, t, n⟩ := s
  simp only at HP ⊢
  generalize put ⟨g, c, r, t, n⟩ = q at *
  have HX := Lib.hid (Box.new w 28 #[.int .u64 g, .int .u64 c, .int .i64 r, .int .i64 t, .int .i64 n])
  obtain ⟨c0, c1, c2, c3, c4⟩ := HX.out.c5
  go_enter Tryz.func23, Tryz.ntmps23
  go_wp2_with fail
  refine (HP.out _).mono ?_; rintro e w1 ⟨rfl, hb⟩
  have HA := Lib.hid (HX.out.later hb)
  clear hb c0 c1 c2 c3 c4
  go_wp2_with fail
  go_ret
  exact ⟨rfl, HA.out.below⟩
set_option maxHeartbeats 1000000 in
theorem fails_true (s : ByteArray) (hs : s.size ≤ 1073741824) (x : Int) (hq : tk s.data.toList = (S.none, x)) (w : World) : Calls Tryz.prog 24 #[.string s, .int .i64 x] w fun e w' => e = .returned (.bool true) ∧ Below w.heap.size w w' := by
  have HP := Lib.hid (fun w' => take_c s hs w')
  rw [hq] at HP
  simp only [S.none] at HP
  clear hq
  go_enter Tryz.func24, Tryz.ntmps24
  go_wp2_with fail
  refine (HP.out _).mono ?_; rintro e w1 ⟨rfl, hb⟩
  obtain ⟨c0, c1, c2, c3, c4⟩ := is5 (Is.new w1 28 #[.int .u64 0, .int .u64 0, .int .i64 0, .int .i64 0, .int .i64 0])
  go_wp2_with fail
  go_ret
  exact ⟨rfl, hb.trans ((below_box w1 _).mono hb.size)⟩
theorem refused_true (s : S) (h : ¬ s.Ok) (w : World) : Calls Tryz.prog 25 #[.agg #[.int .u64 s.gen, .int .u64 s.calls, .int .i64 s.root, .int .i64 s.table, .int .i64 s.secs]] w fun e w' => e = .returned (.bool true) ∧ Below w.heap.size w w' := by
  have HP := Lib.hid (fun w' => put_c s w')
  have e : put s = ([], 4) := if_neg h
  rw [e] at HP
  simp only at HP
  have e1 : bs [] = ⟨#[]⟩ := rfl
  rw [e1] at HP
  clear e e1 h
  obtain ⟨g, c, r, t, n⟩ := s
  simp only at HP ⊢
  have HX := Lib.hid (Box.new w 28 #[.int .u64 g, .int .u64 c, .int .i64 r, .int .i64 t, .int .i64 n])
  obtain ⟨c0, c1, c2, c3, c4⟩ := HX.out.c5
  go_enter Tryz.func25, Tryz.ntmps25
  go_wp2_with fail
  refine (HP.out _).mono ?_; rintro e w1 ⟨rfl, hb⟩
  have HA := Lib.hid (HX.out.later hb)
  clear hb c0 c1 c2 c3 c4
  go_wp2_with fail
  go_ret
  exact ⟨rfl, HA.out.below⟩
end Go.Proofs.YtlidieffaaicaaaGreat
