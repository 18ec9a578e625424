/- copy, clear and append on rows of spans, as equations; slices.Insert. Conditions: none. -/
import Derived.Test.YtnpjbddannkgfaaSpE
import Derived.Shelf.Spec.SlicesInsert
import Derived.Lib.AppendZerosOnto
namespace Go.Proofs.Ytnpjbddannkgfaa
open Go.ChangeShapes Go.WideShapes Go.RowKit Go.Spans Go.Shelf
set_option maxRecDepth 100000
/-- Cells from place o on, written over. -/
def spl (cur : Array Value) (o : Nat) (cs : List Value) : Array Value := (cur.toList.take o ++ cs ++ cur.toList.drop (o + cs.length)).toArray
theorem spl_size {cur : Array Value} {o : Nat} {cs : List Value} (h : o + cs.length ≤ cur.size) : (spl cur o cs).size = cur.size := by
  simp [spl]
  omega
theorem spl_take {cur : Array Value} {o : Nat} {cs : List Value} (h : o ≤ cur.size) : (spl cur o cs).toList.take (o + cs.length) = cur.toList.take o ++ cs := by
  have hl : o + cs.length = (cur.toList.take o ++ cs).length := by simp; omega
  conv => lhs; rw [hl]
  show ((cur.toList.take o ++ cs) ++ cur.toList.drop (o + cs.length)).take _ = _
  rw [List.take_left]
theorem spl_low {cur : Array Value} {o : Nat} {cs : List Value} {m : Nat} (hm : m ≤ o) (h : o ≤ cur.size) : (spl cur o cs).toList.take m = cur.toList.take m := by
  show ((cur.toList.take o ++ cs) ++ cur.toList.drop (o + cs.length)).take m = _
  rw [List.append_assoc, List.take_append_of_le_length (by simp; omega), List.take_take, Nat.min_eq_left hm]
theorem spl_drop {cur : Array Value} {o : Nat} {cs : List Value} (h : o ≤ cur.size) : (spl cur o cs).toList.drop o = cs ++ cur.toList.drop (o + cs.length) := by
  show ((cur.toList.take o ++ cs) ++ cur.toList.drop (o + cs.length)).drop o = _
  rw [List.append_assoc, List.drop_append_of_le_length (by simp; omega)]
  have : (cur.toList.take o).drop o = [] := by simp
  rw [this, List.nil_append]
theorem hadd (g o j : Nat) : (⟨g, o, none⟩ : Addr).add j = ⟨g, o + j, none⟩ := by unfold Addr.add; split <;> simp_all
theorem src_of {w : World} {g o : Nat} {t : TypeId} {cur : Array Value} {cs : List Value} (hi : Is w g t cur) (h : ∀ j u, cs[j]? = some u → cur[o + j]? = some u) : ∀ j u, cs[j]? = some u → w.cell? ((⟨g, o, none⟩ : Addr).add j) = some u := by
  intro j u hj
  rw [hadd, hi.cell]
  exact h j u hj
theorem info63' : (Try.prog.info? 101).map (·.size) = some 2 := by kernel_rfl
theorem copy2 {w : World} {g : Nat} {cur : Array Value} (hi : Is w g 101 cur) (o dl dc : Nat) (a : Addr) (sl sc : Nat) (cs : List Value) (m : Nat) (hm : min sl dl = m) (hn : cs.length = m * 2)
    (hsrc : ∀ j u, cs[j]? = some u → w.cell? (a.add j) = some u) (hfit : o + cs.length ≤ cur.size) (h1 : ∀ u ∈ cs, u.oneCell' = true) (ty : TypeId) :
    (Builtin.copy_ #[97, 97] ty #[.slice (some ⟨g, o, none⟩) dl dc, .slice (some a) sl sc]).run Try.prog w = .ok (goInt m) (w.setRow g (spl cur o cs)) := by
  have hl := run_loadCells_list (P := Try.prog) w a cs hsrc
  have hst := run_storeCells_at (P := Try.prog) g o 101 cs 0 cur w hi (by simpa using hfit) h1
  simp only [Nat.add_zero] at hst
  have hmin : Nat.min sl dl = m := hm
  cases hq : Try.prog.info? 101 with
  | none => have := info63'; rw [hq] at this; cases this
  | some i =>
    have hs : i.size = 2 := by have := info63'; rw [hq] at this; simpa using this
    rw [hn] at hl
    simp [Builtin.copy_, run_underlying Try.underlying97, Builtin.lenOf, Builtin.firstCells, sizeOf, typeInfo, hq, hs, hmin, hl, hst, spl]
theorem clear0 (w : World) (p : Option Addr) (c : Nat) (ty : TypeId) : (Builtin.clear_ #[97] ty #[.slice p 0 c]).run Try.prog w = .ok (.tuple #[]) w := by
  cases p <;> simp [Builtin.clear_, run_underlying Try.underlying97]
theorem clear2 {w : World} {g : Nat} {cur : Array Value} (hi : Is w g 101 cur) (o m c : Nat) (hm : 0 < m) (hfit : o + m * 2 ≤ cur.size) (ty : TypeId) :
    ∃ zs : List Value, zs.length = m * 2 ∧ (Builtin.clear_ #[97] ty #[.slice (some ⟨g, o, none⟩) m c]).run Try.prog w = .ok (.tuple #[]) (w.setRow g (spl cur o zs)) := by
  have hz : ∀ w, (zeroValue 101).run Try.prog w = .ok (.agg #[.int .i64 0, .int .i64 0]) w := Try.zeroValue101
  obtain ⟨zs, hzs⟩ : ∃ zs, zs = (Builtin.zeroCells (Value.agg #[.int .i64 0, .int .i64 0]).cells m).toList := ⟨_, rfl⟩
  have hlen : zs.length = m * 2 := by rw [hzs]; simp [Builtin.zeroCells, Value.cells]
  have hone : ∀ u ∈ zs, u.oneCell' = true := by
    intro u hu
    rw [hzs] at hu
    simp only [Builtin.zeroCells, Value.cells, Array.toList_map, List.mem_map] at hu
    obtain ⟨i, _, rfl⟩ := hu
    have : i % 2 = 0 ∨ i % 2 = 1 := by omega
    rcases this with e | e <;> simp [e, Value.oneCell']
  have hst := run_storeCells_at (P := Try.prog) g o 101 zs 0 cur w hi (by rw [hlen]; simpa using hfit) hone
  simp only [Nat.add_zero] at hst
  refine ⟨zs, hlen, ?_⟩
  obtain ⟨k, rfl⟩ : ∃ k, m = k + 1 := ⟨m - 1, by omega⟩
  simp [Builtin.clear_, run_underlying Try.underlying97, hz, ← hzs, hst, spl]
/-- append of one span, where there is room. -/
theorem room2 {w : World} {g : Nat} {cur : Array Value} (hi : Is w g 101 cur) (n cap : Nat) (a : Addr) (c : Nat) (x y : Value) (hx : ∀ j u, [x, y][j]? = some u → w.cell? (a.add j) = some u) (h1 : ∀ u ∈ [x, y], u.oneCell' = true) (hroom : n + 1 ≤ cap) (hcs : cur.size = cap * 2) (ty : TypeId) :
    (Builtin.append_ #[97, 97] ty #[.slice (some ⟨g, 0, none⟩) n cap, .slice (some a) 1 c]).run Try.prog w = .ok (.slice (some ⟨g, 0, none⟩) (n + 1) cap) (w.setRow g (spl cur (n * 2) [x, y])) := by
  obtain ⟨i0, hi0, hz0, hz1, hz2⟩ := info_parts info63
  have := run_append_room (P := Try.prog) w 97 ty 101 i0 Try.underlying97 hi0 g n cap cur hi a 1 c [x, y] (by rw [hz1]; rfl) hx h1 hroom (by rw [hz1, hcs]; simp; omega)
  rw [hz1] at this
  exact this
/-- clear as one operation of the walk, its run known. -/
theorem wpList_clear_run (w : World) {P : Program} {ops : Array Oper} {rest : List Oper} {o : Oper} {a : Act} {Q : Exit → Act → World → Prop} (hgd : o.guard = none) (d : Operand) (t : TypeId)
    (ho : o.op = .call { callee := .builtin .clear, args := #[d], argTypes := #[t] }) (v : Value) (hd : a.eval d = v) {v' : Value} {w' : World}
    (hr : (Builtin.clear_ #[t] o.type #[v]).run P w = .ok v' w') (h : wpList P ops Q rest (a.put o.dst v') w') : wpList P ops Q (o :: rest) a w :=
  wpList_plain hgd fun _ hK => by
    unfold Oper.wp execOp
    simp only [ho, resolve, invoke, builtin, Sem.run_bind, Sem.run_pure, Result.andThen_ok, List.map_toArray, List.map_cons, List.map_nil, hd, hr]
    exact hK _ _ h
end Go.Proofs.Ytnpjbddannkgfaa
