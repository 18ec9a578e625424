/- What the listed tables give the walks, a world in which they lie so, and how a call that touches nothing old meets a row. Conditions: none beyond the row's. -/
import Derived.Test.YtfjjeplcnkmjgaaDoorRows
import Derived.Test.YtfjjeplcnkmjgaaDoorWalksB
import Derived.ProofKit
import Derived.LaidMore
import Derived.OpenShut
import Derived.Stop.Joined
import Derived.Lib.LaidTab
namespace Go.Proofs.YtfjjeplcnkmjgaaDoor
open Go.ChangeShapes Go.WideShapes Go.ChangeAt Go.WideMaps Go.WideElems Go.RowKit
theorem own : ownKnob Tryd.prog.godebug = none := by kernel_rfl
theorem g4 : Tryd.prog.globalNamed "rillbed/crc.afterFour" = some 0 := by kernel_rfl
theorem g5 : Tryd.prog.globalNamed "math/bits.deBruijn32tab" = some 1 := by kernel_rfl
theorem tg4 : (Tryd.prog.globals[0]?).map (·.type) = some 50 := by kernel_rfl
theorem tg5 : (Tryd.prog.globals[1]?).map (·.type) = some 63 := by kernel_rfl
def laid2 : List (String × DataW Unit) := [("math/bits.deBruijn32tab", Rows.laid_math_bits_deBruijn32tab), ("rillbed/crc.afterFour", Rows.laid_rillbed_crc_afterFour)]
theorem door_met (os : Os) (args : Array Value) : laidMetH Tryd.prog laid2 ((World.doorLaid Tryd.prog 400 os).forCall (fun _ _ => 0) ⟨#[], args, []⟩).memory :=
  laidMetH_of_parts3 (fuel := 8) (laidMet_of_run' 8 (by kernel_rfl) (by kernel_rfl)) (by kernel_rfl) (by kernel_rfl)
theorem c22 : Tryd.prog.cellsOf 22 = 1 := by kernel_rfl
theorem c5 : Tryd.prog.cellsOf 5 = 1 := by kernel_rfl
theorem c50 : Tryd.prog.cellsOf 50 = 16 := by kernel_rfl
theorem c63 : Tryd.prog.cellsOf 63 = 32 := by kernel_rfl
theorem var_cells {W : World} {name : String} {g : Nat} {cs : Array Value} {zs : List Nat} {k : IntKind} (hg : Tryd.prog.globalNamed name = some g) (hv : W.var? Tryd.prog name = some cs)
    (hc : cs.toList = (zs.map fun z : Nat => (z : Int)).map fun z => Value.int k z) (j : Nat) (hj : j < zs.length) : W.cell? ⟨g, j, none⟩ = some (.int k (zs.getD j 0 : Nat)) := by
  have h := World.var?_cell hg hv j
  have e : cs[j]? = some (.int k (zs.getD j 0 : Nat)) := by
    rw [← Array.getElem?_toList, hc]
    simp [List.getElem?_map, List.getElem?_eq_getElem hj, List.getD]
  rw [h, e]
theorem tabs_of_laid {W : World} (h : laidMetH Tryd.prog laid2 W) : Tab4 W ∧ Tab5 W ∧ 1 < W.heap.size := by
  rw [MakeChecks.laidMetH_plain _ _ _ (by kernel_rfl)] at h
  obtain ⟨ps, ⟨g0, t0, cs0, f0, p0, q0, hg0, ht0, hv0, hd0, ⟨g1, t1, cs1, f1, p1, q1, hg1, ht1, hv1, hd1, _, _⟩, _⟩, _, _⟩ := h
  obtain rfl := Option.some.inj (g5.symm.trans hg0)
  obtain rfl := Option.some.inj (g4.symm.trans hg1)
  obtain rfl := Option.some.inj (tg5.symm.trans ht0)
  obtain rfl := Option.some.inj (tg4.symm.trans ht1)
  have e0 := Lib.cells_of_tab (zs := Lib.deBruijn32tab.map fun z : Nat => (z : Int)) Tryd.underlying63 Tryd.underlying5 c5 c63 hd0
  have e1 := Lib.cells_of_tab (zs := Crc.tab.map fun z : Nat => (z : Int)) Tryd.underlying50 Tryd.underlying22 c22 c50 hd1
  have t5 : Tab5 W := fun j hj => var_cells hg0 hv0 e0 j hj
  refine ⟨fun j hj => var_cells hg1 hv1 e1 j hj, t5, ?_⟩
  have hc := t5 0 (by decide)
  apply Nat.lt_of_not_le
  intro hle
  have hn : W.heap[1]? = none := Array.getElem?_eq_none (by omega)
  simp [World.cell?, hn] at hc
/-- A call whose arguments lie in no memory, and which touches nothing old. -/
theorem post_plain {H : Type} {enc : TypeId × Value → H} {P : Program} {f : Func} {s : ChangeSpec} {apart fresh handsOn again : Bool} {W W' : World} {args : Array Value} {v : Value} {ds gs : List (DataW H)}
    (hW : DataW.Whole enc P f.params.toList s.vars apart W args.toList ds gs [])
    (hres : ∀ (b : Nat) (sp : Nat → Bool) (hd : Bool), DataW.TrodAll enc P W' b sp hd f.resultTypes.toList (v.resultList f.resultTypes.size) (s.fn H (ds ++ gs)).results [])
    (hargs : ∀ sp : Nat → Bool, DataW.TrodAll enc P W' 0 sp true f.params.toList args.toList (s.fn H (ds ++ gs)).args [])
    (hvars : ∀ sp : Nat → Bool, DataW.TrodVars enc P W' sp s.vars (s.fn H (ds ++ gs)).vars [])
    (hk : W.keptBut W' (· ∈ ([] : List MemPlace)))
    (hok : ∀ (j : Nat) (t : TypeId) (r : Value), f.resultTypes[j]? = some t → (v.resultList f.resultTypes.size)[j]? = some r → Value.okWide P W' .any 0 t r) :
    s.post enc P f apart fresh handsOn again W args v W' := by
  refine ⟨ds, gs, [], [], [], [], hW, hres _ _ _, hargs _, hvars _, World.keptBut_mono (fun p hp => by cases hp) hk, fun _ => ?_⟩
  refine ⟨hok, _, _, ([] ++ []) ++ [], ⟨[] ++ [], [], trodAll_append (hargs _) (hres _ _ _), hvars _, rfl, ?_, ?_⟩, ?_⟩
  · intro b off hp; cases hp
  · intro _; simp
  · intro p hp _; cases hp
theorem nat32 {x : Int} (h : (Lit.int .u32 x).wf = true) : ∃ n : Nat, x = (n : Int) ∧ n < 4294967296 := by
  simp only [Lit.wf, Bool.and_eq_true, decide_eq_true_eq] at h
  obtain ⟨h1, h2⟩ := h
  have e1 : IntKind.u32.min = 0 := rfl
  have e2 : IntKind.u32.max = 4294967295 := rfl
  rw [e1] at h1
  rw [e2] at h2
  exact ⟨x.toNat, by omega, by omega⟩
end Go.Proofs.YtfjjeplcnkmjgaaDoor
