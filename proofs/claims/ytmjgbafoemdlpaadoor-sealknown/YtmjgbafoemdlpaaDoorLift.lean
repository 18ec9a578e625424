/- How a law that touches nothing old meets its row: what its arguments say, and what the listed table gives. Conditions: none beyond the row's. -/
import Derived.Test.YtmjgbafoemdlpaaDoorRows
import Derived.Test.YtmjgbafoemdlpaaDoorSealA
import Derived.ProofKit
import Derived.OpenShut
import Derived.ShutString
import Derived.Carry
import Derived.ChangeSame
import Derived.Deep.Slices
import Derived.Deep.Fields
import Derived.LaidMore
import Derived.Stop.Joined
import Derived.Lib.LaidTab
namespace Go.Proofs.YtmjgbafoemdlpaaDoor
open Go.ChangeShapes Go.WideShapes Go.ChangeAt Go.WideMaps Go.WideElems Go.RowKit Go.Deep
set_option maxRecDepth 100000
theorem own : ownKnob Tryd.prog.godebug = none := by kernel_rfl
section
variable {H : Type} {enc : TypeId × Value → H}
theorem trodAll_carry {W W' : World} (hb : Below W.heap.size W W') {sp : Nat → Bool} : ∀ (ts : List TypeId) (vs : List Value) (ds : List (DataW H)) (ps : List MemPlace), (∀ t ∈ ts, Tryd.prog.readableRec t = true ∧ t < Tryd.prog.types.size) →
    (∀ p ∈ ps, p.block < W.heap.size ∧ sp p.block = true) → DataW.TrodAll enc Tryd.prog W 0 (fun _ => true) true ts vs ds ps → DataW.TrodAll enc Tryd.prog W' 0 sp true ts vs ds ps
  | [], vs, ds, ps, _, _, h => by
    obtain ⟨rfl, rfl, rfl⟩ := trodAll_nil h
    exact trodAll_mk0
  | t :: ts, vs, ds, ps, ht, hp, h => by
    obtain ⟨v, vs', d, ds', p, q, rfl, rfl, rfl, h1, h2⟩ := trodAll_cons h
    obtain ⟨hr, hs⟩ := ht t (List.mem_cons_self ..)
    refine trodAll_cons_mk (WideElems.Trod_stays (by kernel_rfl) hr hs h1 (fun x hx => hb.same (hp x (List.mem_append_left _ hx)).1) (fun x hx => (hp x (List.mem_append_left _ hx)).2)) ?_
    exact trodAll_carry hb ts vs' ds' q (fun t' h' => ht t' (List.mem_cons_of_mem _ h')) (fun x hx => hp x (List.mem_append_right _ hx)) h2
/-- A law that returned true, and touched nothing old. -/
theorem law_post {f : Func} {s : ChangeSpec} {apart fresh handsOn again : Bool} {W W' : World} {args : Array Value} {ds gs : List (DataW H)} {before : List MemPlace}
    (hW : DataW.Whole enc Tryd.prog f.params.toList s.vars apart W args.toList ds gs before) (hvars : s.vars = [])
    (hr : (s.fn H (ds ++ gs)).results = [.lit (.bool true)]) (ha : (s.fn H (ds ++ gs)).args = ds) (hv : (s.fn H (ds ++ gs)).vars = []) (hrt : f.resultTypes = #[4])
    (hread : ∀ t ∈ f.params.toList, Tryd.prog.readableRec t = true ∧ t < Tryd.prog.types.size) (hb : Below W.heap.size W W') :
    s.post enc Tryd.prog f apart fresh handsOn again W args (.bool true) W' := by
  have hlt : ∀ p ∈ before, p.block < W.heap.size := fun p hp => hW.lt p hp
  have hW' := hW
  obtain ⟨pa, pv, hA, hV, hps, hz, hn⟩ := hW
  rw [hvars] at hV
  obtain ⟨rfl, rfl⟩ := trodVars_none hV
  rw [List.append_nil] at hps
  subst hps
  have hargs : ∀ sp : Nat → Bool, (∀ p ∈ before, sp p.block = true) → DataW.TrodAll enc Tryd.prog W' 0 sp true f.params.toList args.toList (s.fn H (ds ++ [])).args before := fun sp hs => by
    rw [ha]
    exact trodAll_carry hb _ _ _ _ hread (fun p hp => ⟨hlt p hp, hs p hp⟩) hA
  have hres : ∀ (b : Nat) (sp : Nat → Bool) (hd : Bool), DataW.TrodAll enc Tryd.prog W' b sp hd f.resultTypes.toList ((Value.bool true).resultList f.resultTypes.size) (s.fn H (ds ++ [])).results [] := fun b sp hd => by
    rw [hr, hrt]
    exact trodAll_cons_mk (shut_bool Tryd.underlying4 _) trodAll_mk0
  have hvs : ∀ sp : Nat → Bool, DataW.TrodVars enc Tryd.prog W' sp s.vars (s.fn H (ds ++ [])).vars [] := fun sp => by
    rw [hvars, hv]; rfl
  refine ⟨ds, [], before, [], before, [], hW', hres _ _ _, hargs _ (fun p hp => by simpa using hlt p hp), hvs _, World.keptBut_mono (fun p hp => ⟨hp, .inr (by simpa using hp)⟩) (hb.frame (· ∈ before)), fun _ => ?_⟩
  refine ⟨?_, _, _, ([] ++ before) ++ [], ⟨[] ++ before, [], trodAll_append (hargs _ (fun _ _ => rfl)) (hres _ _ _), hvs _, rfl, ?_, ?_⟩, ?_⟩
  · exact ok_one hrt rfl (okWide_bool_mk Tryd.underlying4 _)
  · intro b off hp
    have hin : MemPlace.cell b off ∈ before := by simpa using hp
    rw [hb.frozen (hlt _ hin)]
    exact hz b off hin
  · intro h
    simpa using hn h
  · intro p hp _
    simpa using hp
theorem reads_of (ts : List TypeId) (h : (ts.all fun t => Tryd.prog.readableRec t && decide (t < Tryd.prog.types.size)) = true) : ∀ t ∈ ts, Tryd.prog.readableRec t = true ∧ t < Tryd.prog.types.size := fun t ht => by
  simpa using List.all_eq_true.1 h t ht
theorem wf_nat8 {x : Int} (h : (Lit.int .u8 x).wf = true) : ∃ n : Nat, x = (n : Int) ∧ n < 256 := by
  have h' : 0 ≤ x ∧ x ≤ 255 := by simpa [Lit.wf, IntKind.min, IntKind.max, IntKind.bits, IntKind.signed] using h
  exact ⟨x.toNat, by omega, by omega⟩
theorem wf_nat16 {x : Int} (h : (Lit.int .u16 x).wf = true) : ∃ n : Nat, x = (n : Int) ∧ n < 65536 := by
  have h' : 0 ≤ x ∧ x ≤ 65535 := by simpa [Lit.wf, IntKind.min, IntKind.max, IntKind.bits, IntKind.signed] using h
  exact ⟨x.toNat, by omega, by omega⟩
theorem wf_nat64 {x : Int} (h : (Lit.int .u64 x).wf = true) : ∃ n : Nat, x = (n : Int) ∧ n < 18446744073709551616 := by
  have h' : 0 ≤ x ∧ x ≤ 18446744073709551615 := by simpa [Lit.wf, IntKind.min, IntKind.max, IntKind.bits, IntKind.signed] using h
  exact ⟨x.toNat, by omega, by omega⟩
theorem wf_i64 {x : Int} (h : (Lit.int .i64 x).wf = true) : -9223372036854775808 ≤ x ∧ x ≤ 9223372036854775807 := by
  simpa [Lit.wf, IntKind.min, IntKind.max, IntKind.bits, IntKind.signed] using h
theorem wf_nat32 {x : Int} (h : (Lit.int .u32 x).wf = true) : ∃ n : Nat, x = (n : Int) ∧ n < 4294967296 := by
  have h' : 0 ≤ x ∧ x ≤ 4294967295 := by simpa [Lit.wf, IntKind.min, IntKind.max, IntKind.bits, IntKind.signed] using h
  exact ⟨x.toNat, by omega, by omega⟩
theorem cells4 : Tryd.prog.cellsOf 4 = 1 := by kernel_rfl
theorem cells9 : Tryd.prog.cellsOf 9 = 1 := by kernel_rfl
theorem cells35 : Tryd.prog.cellsOf 35 = 1 := by kernel_rfl
theorem cells36 : Tryd.prog.cellsOf 36 = 1 := by kernel_rfl
theorem cells38 : Tryd.prog.cellsOf 38 = 2 := by kernel_rfl
theorem cells48 : Tryd.prog.cellsOf 48 = 1 := by kernel_rfl
theorem cells50 : Tryd.prog.cellsOf 50 = 4 := by kernel_rfl
theorem cells57 : Tryd.prog.cellsOf 57 = 4 := by kernel_rfl
theorem cells121 : Tryd.prog.cellsOf 121 = 16 := by kernel_rfl
variable {W : World} {base : Nat}
theorem some_place {cs : List Value} {n : Nat} {x : DataW H × List MemPlace} {sp : Nat → Bool} {hd : Bool} (hl : cs.length = 2) (h : DataW.trod enc Tryd.prog W 0 sp hd n 38 cs = some x) :
    ∃ g i : Nat, g < 18446744073709551616 ∧ i < 4294967296 ∧ cs = [.int .u64 g, .int .u32 i] := by
  obtain ⟨xs, m, _, _, hlen, hxl, hf⟩ := DataW.trod_struct Tryd.underlying38 h
  match cs, hl with
  | [c0, c1], _ =>
    match xs, hxl with
    | [y0, y1], _ =>
      have f0 := hf 0 _ rfl
      have f1 := hf 1 _ rfl
      simp [cells35, cells36] at f0 f1
      obtain ⟨k, hk, _, wk⟩ := DataW.trod_int Tryd.underlying35 f0
      obtain ⟨q, hq, _, wq⟩ := DataW.trod_int Tryd.underlying36 f1
      injection hk with hk; injection hq with hq
      subst hk; subst hq
      obtain ⟨k', rfl, hk'⟩ := wf_nat64 wk
      obtain ⟨q', rfl, hq'⟩ := wf_nat32 wq
      exact ⟨k', q', hk', hq', rfl⟩
theorem place_of {v : Value} {d : DataW H} {ps : List MemPlace} {sp : Nat → Bool} {hd : Bool} {r : Reach} {b0 : Nat} (hval : Value.okWide Tryd.prog W r b0 38 v) (h : DataW.Trod enc Tryd.prog W 0 sp hd 38 v d ps) :
    ∃ g i : Nat, g < 18446744073709551616 ∧ i < 4294967296 ∧ v = .agg #[.int .u64 g, .int .u32 i] := by
  obtain ⟨cs, rfl, hsz⟩ := okWide_struct Tryd.underlying38 hval
  rw [cells38] at hsz
  obtain ⟨fuel, hf⟩ := h
  obtain ⟨g, i, hg, hi, he⟩ := some_place (by simpa [Value.cells] using hsz) hf
  refine ⟨g, i, hg, hi, ?_⟩
  have e : cs = #[.int .u64 g, .int .u32 i] := by
    apply Array.toList_inj.1
    simpa [Value.cells] using he
  rw [e]
theorem spoil_of {v : Value} {d : DataW H} {ps : List MemPlace} {sp : Nat → Bool} {hd : Bool} {r : Reach} {b0 : Nat} (hval : Value.okWide Tryd.prog W r b0 50 v) (h : DataW.Trod enc Tryd.prog W 0 sp hd 50 v d ps) :
    ∃ (c a x : Nat) (s : Bool), c < 65536 ∧ a < 65536 ∧ x < 4294967296 ∧ v = .agg #[.int .u16 c, .int .u16 a, .int .u32 x, .bool s] := by
  obtain ⟨cs, rfl, hsz⟩ := okWide_struct Tryd.underlying50 hval
  rw [cells50] at hsz
  obtain ⟨fuel, h⟩ := h
  obtain ⟨xs, m, _, _, hlen, hxl, hf⟩ := DataW.trod_struct Tryd.underlying50 h
  obtain ⟨L, hL⟩ : ∃ L, L = cs.toList := ⟨_, rfl⟩
  have hLl : L.length = 4 := by rw [hL, Array.length_toList, hsz]
  have hcs : cs = L.toArray := by rw [hL]
  subst hcs
  match L, hLl with
  | [c0, c1, c2, c3], _ =>
    match xs, hxl with
    | [y0, y1, y2, y3], _ =>
      have f0 := hf 0 _ rfl
      have f1 := hf 1 _ rfl
      have f2 := hf 2 _ rfl
      have f3 := hf 3 _ rfl
      simp [Value.cells, cells48, cells36, cells4] at f0 f1 f2 f3
      obtain ⟨k, hk, _, wk⟩ := DataW.trod_int Tryd.underlying48 f0
      obtain ⟨q, hq, _, wq⟩ := DataW.trod_int Tryd.underlying48 f1
      obtain ⟨p, hp, _, wp⟩ := DataW.trod_int Tryd.underlying36 f2
      obtain ⟨b, hb, _⟩ := DataW.trod_bool Tryd.underlying4 f3
      injection hk with hk; injection hq with hq; injection hp with hp; injection hb with hb
      subst hk; subst hq; subst hp; subst hb
      obtain ⟨k', rfl, hk'⟩ := wf_nat16 wk
      obtain ⟨q', rfl, hq'⟩ := wf_nat16 wq
      obtain ⟨p', rfl, hp'⟩ := wf_nat32 wp
      exact ⟨k', q', p', b, hk', hq', hp', rfl⟩
theorem stamped_of {v : Value} {d : DataW H} {ps : List MemPlace} {sp : Nat → Bool} {hd : Bool} {r : Reach} {b0 : Nat} (hval : Value.okWide Tryd.prog W r b0 57 v) (h : DataW.Trod enc Tryd.prog W 0 sp hd 57 v d ps) :
    ∃ (g i m : Nat) (s : ByteArray), g < 18446744073709551616 ∧ i < 4294967296 ∧ m < 256 ∧ s.size ≤ maxLen ∧ v = .agg #[.int .u64 g, .int .u32 i, .string s, .int .u8 m] := by
  obtain ⟨cs, rfl, hsz⟩ := okWide_struct Tryd.underlying57 hval
  rw [cells57] at hsz
  obtain ⟨fuel, h⟩ := h
  obtain ⟨xs, m, _, _, hlen, hxl, hf⟩ := DataW.trod_struct Tryd.underlying57 h
  obtain ⟨L, hL⟩ : ∃ L, L = cs.toList := ⟨_, rfl⟩
  have hLl : L.length = 4 := by rw [hL, Array.length_toList, hsz]
  have hcs : cs = L.toArray := by rw [hL]
  subst hcs
  match L, hLl with
  | [c0, c1, c2, c3], _ =>
    match xs, hxl with
    | [y0, y1, y2], _ =>
      have f0 := hf 0 _ rfl
      have f1 := hf 1 _ rfl
      have f2 := hf 2 _ rfl
      simp [Value.cells, cells38, cells9, cells5] at f0 f1 f2
      obtain ⟨g, i, hg, hi, he⟩ := some_place (by simp) f0
      obtain ⟨s, hs, _, ws⟩ := DataW.trod_string Tryd.underlying9 f1
      obtain ⟨q, hq, _, wq⟩ := DataW.trod_int Tryd.underlying5 f2
      injection hs with hs; injection hq with hq
      subst hs; subst hq
      obtain ⟨q', rfl, hq'⟩ := wf_nat8 wq
      injection he with he0 he
      injection he with he1 he
      subst he0; subst he1
      exact ⟨g, i, q', s, hg, hi, hq', ws, rfl⟩
end
theorem g4 : Tryd.prog.globalNamed "rillbed/crc.afterFour" = some 0 := by kernel_rfl
theorem tg4 : (Tryd.prog.globals[0]?).map (·.type) = some 121 := by kernel_rfl
def laid1 : List (String × DataW Unit) := [("rillbed/crc.afterFour", Rows.laid_rillbed_crc_afterFour)]
theorem door_met (os : Os) (args : Array Value) : laidMetH Tryd.prog laid1 ((World.doorLaid Tryd.prog 400 os).forCall (fun _ _ => 0) ⟨#[], args, []⟩).memory :=
  laidMetH_of_parts3 (fuel := 8) (laidMet_of_run' 8 (by kernel_rfl) (by kernel_rfl)) (by kernel_rfl) (by kernel_rfl)
theorem var_cells {W : World} {name : String} {g : Nat} {cs : Array Value} {zs : List Nat} {k : IntKind} (hg : Tryd.prog.globalNamed name = some g) (hv : W.var? Tryd.prog name = some cs)
    (hc : cs.toList = (zs.map fun z : Nat => (z : Int)).map fun z => Value.int k z) (j : Nat) (hj : j < zs.length) : W.cell? ⟨g, j, none⟩ = some (.int k (zs.getD j 0 : Nat)) := by
  have h := World.var?_cell hg hv j
  have e : cs[j]? = some (.int k (zs.getD j 0 : Nat)) := by
    rw [← Array.getElem?_toList, hc]
    simp [List.getElem?_map, List.getElem?_eq_getElem hj, List.getD]
  rw [h, e]
theorem laid_of {W : World} (h : laidMetH Tryd.prog laid1 W) : Laid W := by
  rw [MakeChecks.laidMetH_plain _ _ _ (by kernel_rfl)] at h
  obtain ⟨ps, ⟨g1, t1, cs1, f1, p1, q1, hg1, ht1, hv1, hd1, _, _⟩, _, _⟩ := h
  obtain rfl := Option.some.inj (g4.symm.trans hg1)
  obtain rfl := Option.some.inj (tg4.symm.trans ht1)
  have e1 := Lib.cells_of_tab (zs := Crc.tab.map fun z : Nat => (z : Int)) Tryd.underlying121 Tryd.underlying36 cells36 cells121 hd1
  have t4 : Tab4 W := fun j hj => var_cells hg1 hv1 e1 j hj
  refine ⟨t4, ?_⟩
  have hc := t4 0 (by decide)
  apply Nat.lt_of_not_le
  intro hle
  have hn : W.heap[0]? = none := Array.getElem?_eq_none (by omega)
  simp [World.cell?, hn] at hc
end Go.Proofs.YtmjgbafoemdlpaaDoor
