/- Read, Sure, Write. Conditions: none. -/
import Derived.Test.YtlidieffaaicaaaGreatDvC
namespace Go.Proofs.YtlidieffaaicaaaGreat.Fu
open Go.ChangeShapes Go.WideShapes Go.RowKit Go.Maps
set_option maxRecDepth 100000
theorem copy_text {w : World} {g : Nat} {t : TypeId} {s : ByteArray} (hs : s.size ≤ 128) (h : Is w g t (cl nought)) (ty : TypeId) :
    (Builtin.copy_ #[72, 9] ty #[.slice (some ⟨g, 0, none⟩) 128 128, .string s]).run Tryz.prog w = .ok (.int .i64 (s.size : Nat)) (w.setRow g (cl (full s.data.toList))) := by
  have := Lib.run_copy_row_string (P := Tryz.prog) w 72 9 ty 5 g 0 128 128 s (cl nought) t Tryz.underlying72 info5' h hs (by rw [cl_size, nought_len]; omega)
  rw [this]
  have e : ((cl nought).toList.take 0 ++ Lib.byteCells s.data.toList ++ (cl nought).toList.drop (0 + s.size)).toArray = cl (full s.data.toList) := by
    have hl : s.data.toList.length = s.size := (Lib.size_eq s).symm
    have z : (cl nought).toList = List.replicate 128 (Value.int .u8 0) := by unfold cl Lib.byteCells nought; rw [List.map_replicate]; rfl
    rw [z, List.take_zero, List.drop_replicate, Nat.zero_add, List.nil_append]
    unfold cl full Lib.byteCells
    rw [List.map_append, List.map_replicate, hl]
    rfl
  rw [e]
  rfl
theorem zeroV (w : World) : (zeroValue 71).run Tryz.prog w = .ok (.agg (cl nought)) w := by rw [← zero64]; exact Tryz.zeroValue71 w
/-- What a sector shows, off the map. -/
theorem look_wait {w : World} {B bs bw : Nat} {st : List Cel} (h : Dv w B bs bw st) {i : Nat} {c : Cel} (hc : st[i]? = some c) :
    ∃ l : List UInt8, l.length = 128 ∧ (∀ t, c.t = some t → l = t) ∧ (Instr.lookup 63 (.map (some bw)) (.int .i64 (i : Int)) true).run Tryz.prog w = .ok (.tuple #[.agg (cl l), .bool c.t.isSome]) w := by
  obtain ⟨k, D, ho, hD⟩ := h.wait
  have hi := (List.getElem?_eq_some_iff.1 hc).1
  obtain ⟨v, ps, hrun, hv⟩ := ho.look_ok law Tryz.underlying63 (zeroV w) (R_mk nought_len) (kof i (by omega) (by have := h.hi; omega))
  obtain ⟨l, hl, rfl, e⟩ := R_inv hv
  injection e with e _
  rw [hD.has i c hc] at hrun
  refine ⟨l, hl, fun t ht => ?_, hrun⟩
  rw [hD.at' i c t hc ht] at e
  injection e with e
  injection e with e
  exact e.symm
theorem look_wait1 {w : World} {B bs bw : Nat} {st : List Cel} (h : Dv w B bs bw st) {i : Nat} {c : Cel} {t : List UInt8} (hc : st[i]? = some c) (ht : c.t = some t) :
    (Instr.lookup 63 (.map (some bw)) (.int .i64 (i : Int)) false).run Tryz.prog w = .ok (.agg (cl t)) w := by
  obtain ⟨k, D, ho, hD⟩ := h.wait
  have hi := (List.getElem?_eq_some_iff.1 hc).1
  obtain ⟨v, ps, hrun, hv⟩ := ho.lookup law Tryz.underlying63 (zeroV w) (R_mk nought_len) (kof i (by omega) (by have := h.hi; omega))
  obtain ⟨l, hl, rfl, e⟩ := R_inv hv
  injection e with e _
  rw [hD.at' i c t hc ht] at e
  injection e with e
  injection e with e
  rw [e]
  exact hrun
theorem look_sure {w : World} {B bs bw : Nat} {st : List Cel} (h : Dv w B bs bw st) {i : Nat} {c : Cel} (hc : st[i]? = some c) :
    (Instr.lookup 63 (.map (some bs)) (.int .i64 (i : Int)) false).run Tryz.prog w = .ok (.agg (cl c.s)) w := by
  obtain ⟨k, D, ho, hD⟩ := h.sure
  have hi := (List.getElem?_eq_some_iff.1 hc).1
  obtain ⟨v, ps, hrun, hv⟩ := ho.lookup law Tryz.underlying63 (zeroV w) (R_mk nought_len) (kof i (by omega) (by have := h.hi; omega))
  obtain ⟨l, hl, rfl, e⟩ := R_inv hv
  injection e with e _
  rw [hD.at' i c hc] at e
  injection e with e
  injection e with e
  rw [e]
  exact hrun
theorem read_no {w : World} {v : Value} (h : No w v) (i : Int) : Calls Tryz.prog 77 #[v, .int .i64 i] w fun e w' => e = .returned (.tuple #[.string ⟨#[]⟩, .int .i64 1]) ∧ w = w' := by
  have hm := check_no h i
  clear h
  go_enter Tryz.func77, Tryz.ntmps77
  go_wp2_with (go_at_call 29; refine hm.mono ?_; rintro e w' ⟨rfl, rfl⟩)
  go_ret2
  exact ⟨rfl, rfl⟩
theorem read_out {w : World} {B bs bw : Nat} {st : List Cel} (h : Dv w B bs bw st) (i : Int) (hi : ck st.length i = 2) : Calls Tryz.prog 77 #[.pointer (some ⟨B, 0, none⟩), .int .i64 i] w fun e w' => e = .returned (.tuple #[.string ⟨#[]⟩, .int .i64 2]) ∧ w = w' := by
  have hm := check_yes h i
  rw [hi] at hm
  clear h hi
  go_enter Tryz.func77, Tryz.ntmps77
  go_wp2_with (go_at_call 29; refine hm.mono ?_; rintro e w' ⟨rfl, rfl⟩)
  go_ret2
  exact ⟨rfl, rfl⟩
theorem read_in {w : World} {B bs bw : Nat} {st : List Cel} (h : Dv w B bs bw st) {i : Nat} {c : Cel} (hc : st[i]? = some c) : Calls Tryz.prog 77 #[.pointer (some ⟨B, 0, none⟩), .int .i64 (i : Int)] w fun e w' => e = .returned (.tuple #[.string (Fu.bs c.r), .int .i64 0]) ∧ Below w.heap.size w w' := by
  have hm := check_yes h (i : Int)
  have hi := (List.getElem?_eq_some_iff.1 hc).1
  rw [show ck st.length (i : Int) = 0 from if_neg (by omega)] at hm
  have c1 := h.one.cell 1
  have c2 := h.one.cell 2
  simp at c1 c2
  obtain ⟨l, hl, hlt, hlk⟩ := look_wait h hc
  have hz := zero64
  have j0 := Is.new w 71 (cl nought)
  have e1 : (w.alloc (.cells (cl nought) 71)).setRow w.heap.size (cl l) = w.alloc (.cells (cl l) 71) := World.setRow_alloc_new _ _ _ _
  have j1 := Is.new w 71 (cl l)
  have hb1 := below_alloc (Below.refl w.heap.size w) (.cells (cl l) 71)
  cases ht : c.t with
  | some t =>
    obtain rfl := hlt t ht
    have er : c.r = l := by simp [Cel.r, ht]
    rw [er]
    rw [ht] at hlk
    simp at hlk
    have htx := row_text hl j1
    clear h hc hi hlt er ht
    go_enter Tryz.func77, Tryz.ntmps77
    go_wp2_with (first
      | (go_at_call 29; refine hm.mono ?_; rintro e w' ⟨rfl, rfl⟩)
      | (refine wpList_store_row rfl 71 (Operand.tmp 7) (Operand.tmp 22) rfl w.heap.size (cl l) rfl rfl 71 (cl nought) j0 (info64' hl) (by rw [cl_size, cl_size, hl, nought_len]) (cl_one _) ?_; rw [e1]))
    go_ret2
    exact ⟨rfl, hb1⟩
  | none =>
    have er : c.r = c.s := by simp [Cel.r, ht]
    rw [er]
    rw [ht] at hlk
    simp at hlk
    have hs := (h.ok i c hc).1
    have hls := look_sure (h.below hb1) hc
    have e2 : (w.alloc (.cells (cl l) 71)).setRow w.heap.size (cl c.s) = w.alloc (.cells (cl c.s) 71) := World.setRow_alloc_new _ _ _ _
    have c1' : (w.alloc (.cells (cl l) 71)).cell? ⟨B, 1, none⟩ = some (.map (some bs)) := by have := (h.below hb1).one.cell 1; simpa using this
    have htx := row_text hs (Is.new w 71 (cl c.s))
    have hb2 := below_alloc (Below.refl w.heap.size w) (.cells (cl c.s) 71)
    clear h hc hi hlt er ht
    go_enter Tryz.func77, Tryz.ntmps77
    go_wp2_with (first
      | (go_at_call 29; refine hm.mono ?_; rintro e w' ⟨rfl, rfl⟩)
      | (refine wpList_store_row rfl 71 (Operand.tmp 7) (Operand.tmp 22) rfl w.heap.size (cl l) rfl rfl 71 (cl nought) j0 (info64' hl) (by rw [cl_size, cl_size, hl, nought_len]) (cl_one _) ?_; rw [e1])
      | (refine wpList_store_row rfl 71 (Operand.tmp 7) (Operand.tmp 31) rfl w.heap.size (cl c.s) rfl rfl 71 (cl l) j1 (info64' hs) (by rw [cl_size, cl_size, hl, hs]) (cl_one _) ?_; rw [e2]))
    go_ret2
    exact ⟨rfl, hb2⟩
end Go.Proofs.YtlidieffaaicaaaGreat.Fu
