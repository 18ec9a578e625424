/- Words for blocks; the writer's adding. Conditions: lengths below 2^40. -/
import Derived.Test.YtlidieffaaicaaaGreatRows
import Derived.Test.YtlidieffaaicaaaGreatCodec
import Derived.WalkKit
import Derived.Lib.Hide
import Derived.Lib.BufferWrite
import Derived.Lib.UnsafeStr
import Derived.Laws.MakeOwn
import Derived.Laws.EntriesVeiled
import Derived.Deep.OwnRows
import Derived.Laws.IdiomStrings
import Derived.BigQuiet
import Derived.BigRegion
namespace Go.Proofs.YtlidieffaaicaaaGreat
open Go.ChangeShapes Go.WideShapes Go.RowKit Go.Codec
/-- Block g is just these cells, none frozen. -/
def Is (w : World) (g : Nat) (t : TypeId) (cs : Array Value) : Prop := w.heap[g]? = some (.cells cs t (0, 0))
section
variable {w w' : World} {g : Nat} {t : TypeId} {cs : Array Value}
theorem Is.lt (h : Is w g t cs) : g < w.heap.size := (Array.getElem?_eq_some_iff.1 h).1
theorem Is.cell (h : Is w g t cs) (i : Nat) : w.cell? ⟨g, i, none⟩ = cs[i]? := cell_of_row w g i cs t (0, 0) h
theorem Is.frozen (h : Is w g t cs) (i : Nat) : w.frozen? ⟨g, i, none⟩ = false := by
  unfold Is at h
  simp [World.frozen?, h]
theorem Is.new (w : World) (t : TypeId) (cs : Array Value) : Is (w.alloc (.cells cs t)) w.heap.size t cs := heap_alloc_new w _
theorem Is.alloc (h : Is w g t cs) (o : Obj) : Is (w.alloc o) g t cs := (Below.heap_alloc w o g h.lt).trans h
theorem Is.put (h : Is w g t cs) (i : Nat) (u : Value) : Is (w.setCell ⟨g, i, none⟩ u) g t (cs.setIfInBounds i u) := by
  unfold Is at h ⊢
  simp [World.setCell, Array.getElem?_modify, h]
theorem Is.other (h : Is w g t cs) {p : Addr} (hp : g ≠ p.block) (u : Value) : Is (w.setCell p u) g t cs := (Below.heap_setCell w p u g hp).trans h
theorem Is.kept {row : Option Nat} (h : Is w g t cs) (hb : w.grownBy w' row) (hg : some g ≠ row) : Is w' g t cs := (hb.block g h.lt hg).trans h
theorem Is.ne {g' : Nat} {t' : TypeId} {cs' : Array Value} (h : Is w g t cs) (h' : Is w g' t' cs') (hne : t ≠ t') : g ≠ g' := by
  rintro rfl
  unfold Is at h h'
  rw [h] at h'
  injection h' with h'
  injection h' with _ ht
  exact hne ht
end
theorem grow_trans {a b c : World} {r : Option Nat} (h : a.grownBy b r) (k : b.grownBy c r) : a.grownBy c r :=
  ⟨k.os.trans h.os, k.tape.trans h.tape, k.output.trans h.output, Nat.le_trans h.size k.size, fun i hi hne => (k.block i (Nat.lt_of_lt_of_le hi h.size) hne).trans (h.block i hi hne)⟩
theorem grow_below {a b : World} (h : Below a.heap.size a b) (r : Option Nat) : a.grownBy b r := ⟨h.os, h.tape, h.output, h.size, fun i hi _ => h.block i hi⟩
theorem grow_set {a b : World} {g : Nat} (h : a.grownBy b (some g)) (i : Nat) (u : Value) : a.grownBy (b.setCell ⟨g, i, none⟩ u) (some g) :=
  ⟨h.os, h.tape, h.output, by simpa [World.setCell] using h.size, fun k hk hne => (Below.heap_setCell b ⟨g, i, none⟩ u k (by rintro rfl; exact hne rfl)).trans (h.block k hk hne)⟩
theorem below_of_grow {B g : Nat} {a b : World} (h : a.grownBy b (some g)) (hB : B ≤ a.heap.size) (hg : B ≤ g) : Below B a b :=
  (Below.refl B a).grown h hB (fun k e => by injection e with e; omega)

def addW (w : World) (a : Nat) (last : Option Addr) (sz : Nat) (s : ByteArray) : World :=
  ((w.setCell ⟨a, 0, none⟩ (.pointer (some ⟨w.heap.size, 0, none⟩))).setCell ⟨a, 1, none⟩ (.int .i64 ((sz : Int) + (s.size : Int)))).alloc (.cells #[.pointer last, .string s] 154)
theorem add_new (a : Nat) (last : Option Addr) (sz : Nat) (s : ByteArray) (hs : 0 < s.size) (hb : sz + s.size ≤ 1099511627776) (w : World)
    (hW : Is w a 122 #[.pointer last, .int .i64 sz, .int .i64 0]) :
    Calls Tryz.prog 118 #[.pointer (some ⟨a, 0, none⟩), .string s] w fun e w' => e = .returned (.tuple #[]) ∧ addW w a last sz s = w' := by
  have c0 := hW.cell 0; have c1 := hW.cell 1; have c2 := hW.cell 2
  simp at c0 c1 c2
  have f0 := hW.frozen 0; have f1 := hW.frozen 1
  have hlt := hW.lt
  have hne : s.toList.isEmpty = false := by
    rw [Lib.toList_data]
    rcases h : s.data.toList with _ | ⟨x, l⟩
    · rw [Lib.size_eq, h] at hs; simp at hs
    · rfl
  have HW := Lib.hid hW; clear hW
  go_enter Tryz.func118, Tryz.ntmps118
  go_wp2
  go_end0
  exact ⟨rfl, rfl⟩
theorem empty_of_size {s : ByteArray} (h : s.size = 0) : s = ⟨#[]⟩ := by
  apply ByteArray.ext
  exact Array.eq_empty_of_size_eq_zero h
theorem add_none (a : Nat) (last : Option Addr) (sz : Int) (w : World)
    (hW : Is w a 122 #[.pointer last, .int .i64 sz, .int .i64 0]) :
    Calls Tryz.prog 118 #[.pointer (some ⟨a, 0, none⟩), .string ⟨#[]⟩] w fun e w' => e = .returned (.tuple #[]) ∧ w = w' := by
  have c0 := hW.cell 0; have c1 := hW.cell 1; have c2 := hW.cell 2
  simp at c0 c1 c2
  have HW := Lib.hid hW; clear hW
  go_enter Tryz.func118, Tryz.ntmps118
  go_wp2
  refine bodyPost_ret (results_none rfl _ _ _) rfl ?_
  exact ⟨rfl, rfl⟩
theorem add_bad (a : Nat) (last : Option Addr) (sz : Int) (s : ByteArray) (w : World)
    (hW : Is w a 122 #[.pointer last, .int .i64 sz, .int .i64 3]) :
    Calls Tryz.prog 118 #[.pointer (some ⟨a, 0, none⟩), .string s] w fun e w' => e = .returned (.tuple #[]) ∧ w = w' := by
  have c0 := hW.cell 0; have c1 := hW.cell 1; have c2 := hW.cell 2
  simp at c0 c1 c2
  have HW := Lib.hid hW; clear hW
  go_enter Tryz.func118, Tryz.ntmps118
  go_wp2
  refine bodyPost_ret (results_none rfl _ _ _) rfl ?_
  exact ⟨rfl, rfl⟩
theorem add_nil (s : ByteArray) (w : World) :
    Calls Tryz.prog 118 #[.pointer none, .string s] w fun e w' => e = .returned (.tuple #[]) ∧ w = w' := by
  go_enter Tryz.func118, Tryz.ntmps118
  go_wp2
  refine bodyPost_ret (results_none rfl _ _ _) rfl ?_
  exact ⟨rfl, rfl⟩
theorem fail_some (a : Nat) (last : Value) (sz : Value) (er : Value) (w : World)
    (hW : Is w a 122 #[last, sz, er]) :
    Calls Tryz.prog 120 #[.pointer (some ⟨a, 0, none⟩), .int .i64 3] w fun e w' => e = .returned (.tuple #[]) ∧
      ((w.setCell ⟨a, 0, none⟩ (.pointer none)).setCell ⟨a, 1, none⟩ (.int .i64 0)).setCell ⟨a, 2, none⟩ (.int .i64 3) = w' := by
  have c0 := hW.cell 0; have c1 := hW.cell 1; have c2 := hW.cell 2
  simp at c0 c1 c2
  have f0 := hW.frozen 0; have f1 := hW.frozen 1; have f2 := hW.frozen 2
  have hlt := hW.lt
  have HW := Lib.hid hW; clear hW
  go_enter Tryz.func120, Tryz.ntmps120
  go_wp2
  go_end0
  exact ⟨rfl, rfl⟩
theorem fail_nil (w : World) :
    Calls Tryz.prog 120 #[.pointer none, .int .i64 3] w fun e w' => e = .returned (.tuple #[]) ∧ w = w' := by
  go_enter Tryz.func120, Tryz.ntmps120
  go_wp2
  go_end0
  exact ⟨rfl, rfl⟩
set_option maxRecDepth 100000 in
set_option maxRecDepth 100000 in
theorem len64_16 (w : World) : Calls Tryz.prog 131 #[.int .u64 65535] w fun e w' => e = .returned (.int .i64 16) ∧ w = w' := by
  go_enter Tryz.func131, Tryz.ntmps131
  go_wp2
  go_ret
  exact ⟨by kernel_rfl, rfl⟩
set_option maxRecDepth 100000 in
theorem len64_32 (w : World) : Calls Tryz.prog 131 #[.int .u64 4294967295] w fun e w' => e = .returned (.int .i64 32) ∧ w = w' := by
  go_enter Tryz.func131, Tryz.ntmps131
  go_wp2
  go_ret
  exact ⟨by kernel_rfl, rfl⟩
set_option maxRecDepth 100000 in
theorem len64_64 (w : World) : Calls Tryz.prog 131 #[.int .u64 18446744073709551615] w fun e w' => e = .returned (.int .i64 64) ∧ w = w' := by
  go_enter Tryz.func131, Tryz.ntmps131
  go_wp2
  go_ret
  exact ⟨by kernel_rfl, rfl⟩
theorem width16 (w : World) : Calls Tryz.prog 114 #[] w fun e w' => e = .returned (.int .i64 2) ∧ w = w' := by
  go_enter Tryz.func114, Tryz.ntmps114
  go_wp2_with (go_at_call 131; refine (len64_16 _).mono ?_; rintro e w' ⟨rfl, rfl⟩)
  go_ret
  exact ⟨rfl, rfl⟩
theorem width32 (w : World) : Calls Tryz.prog 132 #[] w fun e w' => e = .returned (.int .i64 4) ∧ w = w' := by
  go_enter Tryz.func132, Tryz.ntmps132
  go_wp2_with (go_at_call 131; refine (len64_32 _).mono ?_; rintro e w' ⟨rfl, rfl⟩)
  go_ret
  exact ⟨rfl, rfl⟩
theorem width64 (w : World) : Calls Tryz.prog 112 #[] w fun e w' => e = .returned (.int .i64 8) ∧ w = w' := by
  go_enter Tryz.func112, Tryz.ntmps112
  go_wp2_with (go_at_call 131; refine (len64_64 _).mono ?_; rintro e w' ⟨rfl, rfl⟩)
  go_ret
  exact ⟨rfl, rfl⟩
theorem behind (n i : Nat) (hi : i < n) (hn : n ≤ 8) (w : World) : Calls Tryz.prog 113 #[.int .i64 n, .int .i64 i] w fun e w' => e = .returned (.int .i64 ((8 * (n - 1 - i) : Nat) : Int)) ∧ w = w' := by
  go_enter Tryz.func113, Tryz.ntmps113
  go_wp2
  go_ret
  refine ⟨?_, rfl⟩
  show Ending.returned (.int .i64 _) = _
  congr 2
  omega
end Go.Proofs.YtlidieffaaicaaaGreat
