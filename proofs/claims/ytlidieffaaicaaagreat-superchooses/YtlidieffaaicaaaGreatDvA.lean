/- Words for blocks and for sectors as arrays; the device's torn. Conditions: none. -/
import Derived.Test.YtlidieffaaicaaaGreatRows
import Derived.WalkKit
import Derived.Lib.Hide
import Derived.Lib.BufferWrite
import Derived.Lib.UnsafeStr
import Derived.Laws.MakeOwn
import Derived.Laws.EntriesVeiled
import Derived.Laws.StructEq
import Derived.Laws.CopyRow
import Derived.Deep.OwnRows
import Derived.Deep.WholeRow
import Derived.Deep.RegionHeld3
import Derived.Deep.Cut
import Derived.Laws.IdiomStrings
import Derived.BigQuiet
import Derived.BigRegion
namespace Go.Proofs.YtlidieffaaicaaaGreat.Fu
open Go.ChangeShapes Go.WideShapes Go.RowKit
set_option maxRecDepth 100000
/-- Block g is just these cells, none frozen. -/
def Is (w : World) (g : Nat) (t : TypeId) (cs : Array Value) : Prop := w.heap[g]? = some (.cells cs t (0, 0))
section
variable {w w' : World} {g : Nat} {t : TypeId} {cs : Array Value}
theorem Is.lt (h : Is w g t cs) : g < w.heap.size := (Array.getElem?_eq_some_iff.1 h).1
theorem Is.cell (h : Is w g t cs) (i : Nat) : w.cell? ⟨g, i, none⟩ = cs[i]? := cell_of_row w g i cs t (0, 0) h
theorem Is.frozen (h : Is w g t cs) (i : Nat) : w.frozen? ⟨g, i, none⟩ = false := by
  unfold Is at h
  simp [World.frozen?, h]
theorem Is.new (w : World) (t : TypeId) (cs : Array Value) : Is (w.alloc (.cells cs t)) w.heap.size t cs := heap_alloc_new w _
theorem Is.alloc (h : Is w g t cs) (o : Obj) : Is (w.alloc o) g t cs := (Below.heap_alloc w o g h.lt).trans h
theorem Is.put (h : Is w g t cs) (i : Nat) (u : Value) : Is (w.setCell ⟨g, i, none⟩ u) g t (cs.setIfInBounds i u) := by
  unfold Is at h ⊢
  simp [World.setCell, Array.getElem?_modify, h]
theorem Is.other (h : Is w g t cs) {p : Addr} (hp : g ≠ p.block) (u : Value) : Is (w.setCell p u) g t cs := (Below.heap_setCell w p u g hp).trans h
theorem Is.kept {row : Option Nat} (h : Is w g t cs) (hb : w.grownBy w' row) (hg : some g ≠ row) : Is w' g t cs := (hb.block g h.lt hg).trans h
theorem Is.ne {g' : Nat} {t' : TypeId} {cs' : Array Value} (h : Is w g t cs) (h' : Is w g' t' cs') (hne : t ≠ t') : g ≠ g' := by
  rintro rfl
  unfold Is at h h'
  rw [h] at h'
  injection h' with h'
  injection h' with _ ht
  exact hne ht
end
theorem below_alloc {a b : World} (h : Below a.heap.size a b) (o : Obj) : Below a.heap.size a (b.alloc o) := h.alloc h.size _
theorem below_drewN {B : Nat} {a b : World} (h : Below B a b) (n : Nat) : Below B a (b.drewN n) := by
  refine h.trans ⟨rfl, rfl, rfl, Nat.le_refl _, fun _ _ => rfl⟩
theorem below_row {a b : World} (h : Below a.heap.size a b) {g : Nat} (hg : a.heap.size ≤ g) (c : Array Value) : Below a.heap.size a (b.setRow g c) :=
  h.trans ⟨rfl, rfl, rfl, by simp, fun k hk => setRow_other _ _ _ _ (by omega)⟩
/-- A text of bytes. -/
def bs (l : List UInt8) : ByteArray := ⟨l.toArray⟩
/-- Bytes as cells. -/
def cl (l : List UInt8) : Array Value := (Lib.byteCells l).toArray
theorem cl_size (l : List UInt8) : (cl l).size = l.length := by simp [cl, Lib.byteCells]
theorem cl_get (l : List UInt8) (j : Nat) : (cl l)[j]? = l[j]?.map fun b => Value.int .u8 b.toNat := by simp [cl, Lib.byteCells]
theorem cl_one (l : List UInt8) : (cl l).all (·.oneCell') = true := by
  rw [Array.all_eq_true_iff_forall_mem]
  intro v hv
  exact Lib.byteCells_one l v (by simpa [cl] using hv)
theorem cl_inj {l m : List UInt8} (h : cl l = cl m) : l = m := by
  apply List.ext_getElem?
  intro j
  have e : (cl l)[j]? = (cl m)[j]? := by rw [h]
  rw [cl_get, cl_get] at e
  cases hl : l[j]? <;> cases hm : m[j]? <;> rw [hl, hm] at e <;> simp at e ⊢
  exact UInt8.toNat_inj.1 (by omega)
/-- The bytes 0 of a sector. -/
def nought : List UInt8 := List.replicate 128 0
theorem nought_len : nought.length = 128 := rfl
theorem zero64 : Tryz.zeroCells71 = cl nought := by kernel_rfl
theorem info5 : (Tryz.prog.info? 5).map (fun i => (i.zero, i.size, i.bytes)) = some (some (.int .u8 0), 1, 1) := by kernel_rfl
theorem info5' : (Tryz.prog.info? 5).map (·.size) = some 1 := by kernel_rfl
theorem info64 : (Tryz.prog.info? 71).map (·.size) = some 128 := by kernel_rfl
theorem info64' {l : List UInt8} (h : l.length = 128) : (Tryz.prog.info? 71).map (·.size) = some (cl l).size := by rw [cl_size, h]; exact info64
/-- A sector out of the block that holds it. -/
theorem load_sec {w : World} {g : Nat} {t : TypeId} {l : List UInt8} (hl : l.length = 128) (h : Is w g t (cl l)) : (Instr.loadAt 71 (.pointer (some ⟨g, 0, none⟩))).run Tryz.prog w = .ok (.agg (cl l)) w := by
  simp only [Instr.loadAt, Instr.sureAddr, Sem.run_bind, Sem.run_pure, Result.andThen]
  exact run_loadVar_row w g t 71 (cl l) (0, 0) _ h Tryz.underlying71 rfl (info64' hl)
theorem load_cells {w : World} {g : Nat} {t : TypeId} {l : List UInt8} (hl : l.length = 128) (h : Is w g t (cl l)) : (loadCellsFrom ⟨g, 0, none⟩ 0 128 #[]).run Tryz.prog w = .ok (cl l) w := by
  have := run_loadCells_list (P := Tryz.prog) w ⟨g, 0, none⟩ (cl l).toList (fun j v hv => by
    have hadd : (⟨g, 0, none⟩ : Addr).add j = ⟨g, j, none⟩ := by unfold Addr.add; split <;> simp_all
    rw [hadd, h.cell j]
    simpa using hv)
  simpa [loadCells, cl_size, hl] using this
/-- A sector into a block that holds one. -/
theorem store_sec {w : World} {g : Nat} {t : TypeId} {l m : List UInt8} (hl : l.length = 128) (hm : m.length = 128) (h : Is w g t (cl l)) : (Instr.storeAt 71 (.pointer (some ⟨g, 0, none⟩)) (.agg (cl m))).run Tryz.prog w = .ok () (w.setRow g (cl m)) := by
  simp only [Instr.storeAt, Instr.sureAddr, Sem.run_bind, Sem.run_pure, Result.andThen]
  exact run_storeVar_row w g t 71 (cl l) (cl m) h (info64' hm) (by rw [cl_size, cl_size, hl, hm]) (cl_one m)
theorem store_cells {w : World} {g : Nat} {t : TypeId} {l m : List UInt8} (hl : l.length = 128) (hm : m.length = 128) (h : Is w g t (cl l)) : (storeCells ⟨g, 0, none⟩ (cl m).toList 0).run Tryz.prog w = .ok () (w.setRow g (cl m)) := by
  have := run_storeCells_from (P := Tryz.prog) g t (cl m).toList 0 (cl l) w h (by simp [cl_size, hl, hm]) (fun v hv => (Array.all_eq_true_iff_forall_mem.1 (cl_one m)) v (by simpa using hv))
  simpa using this
theorem Is.row {w : World} {g : Nat} {t : TypeId} {cs cs' : Array Value} (h : Is w g t cs) : Is (w.setRow g cs') g t cs' := setRow_heap _ _ cs _ t (0, 0) h
theorem Is.offrow {w : World} {g g' : Nat} {t : TypeId} {cs cs' : Array Value} (h : Is w g t cs) (hne : g ≠ g') : Is (w.setRow g' cs') g t cs := (setRow_other _ _ _ _ (by omega)).trans h
/-- A row of bytes as a text. -/
theorem row_text {w : World} {g k : Nat} {t : TypeId} {l : List UInt8} (hl : l.length = k) (h : Is w g t (cl l)) : (convert 72 9 (.slice (some ⟨g, 0, none⟩) k k)).run Tryz.prog w = .ok (.string (bs l)) w := by
  subst hl
  exact run_convert_bytes_back (P := Tryz.prog) w 72 9 5 ⟨g, 0, none⟩ l.length l Tryz.underlying72 Tryz.underlying5 Tryz.underlying9 (fun j hj => by
    have e : (⟨g, 0, none⟩ : Addr).add j = ⟨g, j, none⟩ := by unfold Addr.add; split <;> simp_all
    rw [e, h.cell j, cl_get]
    simp [hj])
/-- The first n bytes of the one, the others of the other. -/
def tornL (s t : List UInt8) (n : Nat) : List UInt8 := t.take n ++ s.drop n
theorem tornL_len {s t : List UInt8} {n : Nat} (hs : s.length = 128) (ht : t.length = 128) (hn : n ≤ 128) : (tornL s t n).length = 128 := by
  simp [tornL]; omega
theorem copy_sec {w : World} {g g' : Nat} {t t' : TypeId} {l m : List UInt8} {n : Nat} (hl : l.length = 128) (hm : m.length = 128) (hn : n ≤ 128) (h : Is w g t (cl l)) (h' : Is w g' t' (cl m)) (ty : TypeId) :
    (Builtin.copy_ #[72, 72] ty #[.slice (some ⟨g, 0, none⟩) 128 128, .slice (some ⟨g', 0, none⟩) n 128]).run Tryz.prog w = .ok (.int .i64 n) (w.setRow g (cl (tornL l m n))) := by
  have hk : ((cl m).toList.take n).length = n := by simp [cl_size, hm]; omega
  have := run_copy_row Tryz.prog w 72 72 ty 5 g 0 128 128 ⟨g', 0, none⟩ n 128 (cl l) t ((cl m).toList.take n) Tryz.underlying72 info5' h (by rw [hk]; show n = min n 128; omega)
    (fun j v hv => by
      have hadd : (⟨g', 0, none⟩ : Addr).add j = ⟨g', j, none⟩ := by unfold Addr.add; split <;> simp_all
      rw [hadd, h'.cell j]
      rw [List.getElem?_take] at hv
      split at hv
      · simpa using hv
      · cases hv) (by rw [hk, cl_size, hl]; omega)
    (fun v hv => (Array.all_eq_true_iff_forall_mem.1 (cl_one m)) v (by simpa using List.mem_of_mem_take hv))
  rw [this, hk]
  have e : ((cl l).toList.take 0 ++ (cl m).toList.take n ++ (cl l).toList.drop (0 + n)).toArray = cl (tornL l m n) := by
    simp [cl, tornL, Lib.byteCells]
  rw [e]
  rfl
set_option maxHeartbeats 1000000 in
theorem torn_any (s t : List UInt8) (hs : s.length = 128) (ht : t.length = 128) (n : Nat) (hn : n ≤ 128) (w : World) :
    Calls Tryz.prog 44 #[.agg (cl s), .agg (cl t), .int .i64 n] w fun e w' => e = .returned (.agg (cl (tornL s t n))) ∧ Below w.heap.size w w' := by
  obtain ⟨w1, e1⟩ : ∃ w1, w.alloc (.cells (cl s) 71) = w1 := ⟨_, rfl⟩
  obtain ⟨w2, e2⟩ : ∃ w2, w1.alloc (.cells (cl t) 71) = w2 := ⟨_, rfl⟩
  obtain ⟨w3, e3⟩ : ∃ w3, w2.alloc (.cells (cl nought) 71) = w3 := ⟨_, rfl⟩
  have i1 : Is w3 w.heap.size 71 (cl s) := by rw [← e3, ← e2, ← e1]; exact ((Is.new _ _ _).alloc _).alloc _
  have i2 : Is w3 w1.heap.size 71 (cl t) := by rw [← e3, ← e2]; exact (Is.new _ _ _).alloc _
  have i3 : Is w3 w2.heap.size 71 (cl nought) := by rw [← e3]; exact Is.new _ _ _
  have n12 : w.heap.size < w1.heap.size := by rw [← e1]; simp
  have n23 : w1.heap.size < w2.heap.size := by rw [← e2]; simp
  have b3 : Below w.heap.size w w3 := by rw [← e3, ← e2, ← e1]; exact below_alloc (below_alloc (below_alloc (Below.refl _ _) _) _) _
  have hc := copy_sec hs ht hn (w := w3.drew) i1 i2 3
  have hz := zero64
  have al : Tryz.prog.arrayLen 71 = 128 := by kernel_rfl
  have hsl : ∀ W : World, (Instr.sliceAt 71 (.pointer (some ⟨w1.heap.size, 0, none⟩)) none (some (.int .i64 (n : Int))) none).run Tryz.prog W = .ok (.slice (some ⟨w1.heap.size, 0, none⟩) n 128) W := fun W => by
    have := run_sliceAt_array_h (P := Tryz.prog) W 71 ⟨w1.heap.size, 0, none⟩ (by kernel_rfl) .i64 (n : Int) (by omega) (by rw [al]; omega)
    rw [this]
    simp [go_sem, Result.andThen]
  go_enter Tryz.func44, Tryz.ntmps44
  go_wp2
  go_region
  clear hc hsl
  obtain ⟨w5, e5⟩ : ∃ w5, w3.drew.setRow w.heap.size (cl (tornL s t n)) = w5 := ⟨_, rfl⟩
  have hT := tornL_len hs ht hn
  have j1 : Is w5 w.heap.size 71 (cl (tornL s t n)) := by rw [← e5]; exact Is.row (w := w3.drew) i1
  have j3 : Is w5 w2.heap.size 71 (cl nought) := by rw [← e5]; exact Is.offrow (w := w3.drew) i3 (by omega)
  have b5 : Below w.heap.size w w5 := by rw [← e5]; exact below_row b3.drew (Nat.le_refl _) _
  rw [e5]
  go_wp2_with (first
    | (refine wpList_load_row rfl 71 (Operand.tmp 3) rfl w.heap.size rfl 71 (cl (tornL s t n)) (0, 0) _ j1 Tryz.underlying71 rfl (info64' hT) ?_)
    | (refine wpList_store_row rfl 71 (Operand.tmp 6) (Operand.tmp 11) rfl w2.heap.size (cl (tornL s t n)) rfl rfl 71 (cl nought) j3 (info64' hT) (by rw [cl_size, cl_size, hT, nought_len]) (cl_one _) ?_))
  have j6 := j3.row (cs' := cl (tornL s t n))
  have b6 := below_row b5 (g := w2.heap.size) (by omega) (cl (tornL s t n))
  refine bodyPost_ret (results_cell_row (P := Tryz.prog) (fn := Tryz.f44) (p := 6) (ty := 71) rfl _ _ w2.heap.size 71 (cl (tornL s t n)) (0, 0) _ rfl j6 Tryz.underlying71 rfl (info64' hT)) rfl ?_
  exact ⟨rfl, b6⟩
end Go.Proofs.YtlidieffaaicaaaGreat.Fu
