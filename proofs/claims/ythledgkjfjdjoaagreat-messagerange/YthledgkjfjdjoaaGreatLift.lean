/- How a call that touches nothing old meets a row: what the arguments say, and that they say it behind the call. Conditions: none. -/
import Derived.Test.YthledgkjfjdjoaaGreatRows
import Derived.ProofKit
import Derived.OpenShut
import Derived.ShutString
import Derived.Carry
import Derived.ChangeSame
import Derived.Deep.Slices
import Derived.Deep.Fields
namespace Go.Proofs.YthledgkjfjdjoaaGreat
open Go.ChangeShapes Go.WideShapes Go.ChangeAt Go.RowKit Go.Deep
set_option maxRecDepth 100000
theorem own : ownKnob Tryz.prog.godebug = none := by kernel_rfl
section
variable {H : Type} {enc : TypeId × Value → H}
theorem trodAll_carry {W W' : World} (hb : Below W.heap.size W W') {sp : Nat → Bool} : ∀ (ts : List TypeId) (vs : List Value) (ds : List (DataW H)) (ps : List MemPlace), (∀ t ∈ ts, Tryz.prog.readableRec t = true ∧ t < Tryz.prog.types.size) →
    (∀ p ∈ ps, p.block < W.heap.size ∧ sp p.block = true) → DataW.TrodAll enc Tryz.prog W 0 (fun _ => true) true ts vs ds ps → DataW.TrodAll enc Tryz.prog W' 0 sp true ts vs ds ps
  | [], vs, ds, ps, _, _, h => by
    obtain ⟨rfl, rfl, rfl⟩ := trodAll_nil h
    exact trodAll_mk0
  | t :: ts, vs, ds, ps, ht, hp, h => by
    obtain ⟨v, vs', d, ds', p, q, rfl, rfl, rfl, h1, h2⟩ := trodAll_cons h
    obtain ⟨hr, hs⟩ := ht t (List.mem_cons_self ..)
    refine trodAll_cons_mk (WideElems.Trod_stays (by kernel_rfl) hr hs h1 (fun x hx => hb.same (hp x (List.mem_append_left _ hx)).1) (fun x hx => (hp x (List.mem_append_left _ hx)).2)) ?_
    exact trodAll_carry hb ts vs' ds' q (fun t' h' => ht t' (List.mem_cons_of_mem _ h')) (fun x hx => hp x (List.mem_append_right _ hx)) h2
/-- A law that returned true, and touched nothing old. -/
theorem law_post {f : Func} {s : ChangeSpec} {apart fresh handsOn again : Bool} {W W' : World} {args : Array Value} {ds gs : List (DataW H)} {before : List MemPlace}
    (hW : DataW.Whole enc Tryz.prog f.params.toList s.vars apart W args.toList ds gs before) (hvars : s.vars = [])
    (hr : (s.fn H (ds ++ gs)).results = [.lit (.bool true)]) (ha : (s.fn H (ds ++ gs)).args = ds) (hv : (s.fn H (ds ++ gs)).vars = []) (hrt : f.resultTypes = #[4])
    (hread : ∀ t ∈ f.params.toList, Tryz.prog.readableRec t = true ∧ t < Tryz.prog.types.size) (hb : Below W.heap.size W W') :
    s.post enc Tryz.prog f apart fresh handsOn again W args (.bool true) W' := by
  have hlt : ∀ p ∈ before, p.block < W.heap.size := fun p hp => hW.lt p hp
  have hW' := hW
  obtain ⟨pa, pv, hA, hV, hps, hz, hn⟩ := hW
  rw [hvars] at hV
  obtain ⟨rfl, rfl⟩ := trodVars_none hV
  rw [List.append_nil] at hps
  subst hps
  have hargs : ∀ sp : Nat → Bool, (∀ p ∈ before, sp p.block = true) → DataW.TrodAll enc Tryz.prog W' 0 sp true f.params.toList args.toList (s.fn H (ds ++ [])).args before := fun sp hs => by
    rw [ha]
    exact trodAll_carry hb _ _ _ _ hread (fun p hp => ⟨hlt p hp, hs p hp⟩) hA
  have hres : ∀ (b : Nat) (sp : Nat → Bool) (hd : Bool), DataW.TrodAll enc Tryz.prog W' b sp hd f.resultTypes.toList ((Value.bool true).resultList f.resultTypes.size) (s.fn H (ds ++ [])).results [] := fun b sp hd => by
    rw [hr, hrt]
    exact trodAll_cons_mk (shut_bool Tryz.underlying4 _) trodAll_mk0
  have hvs : ∀ sp : Nat → Bool, DataW.TrodVars enc Tryz.prog W' sp s.vars (s.fn H (ds ++ [])).vars [] := fun sp => by
    rw [hvars, hv]; rfl
  refine ⟨ds, [], before, [], before, [], hW', hres _ _ _, hargs _ (fun p hp => by simpa using hlt p hp), hvs _, World.keptBut_mono (fun p hp => ⟨hp, .inr (by simpa using hp)⟩) (hb.frame (· ∈ before)), fun _ => ?_⟩
  refine ⟨?_, _, _, ([] ++ before) ++ [], ⟨[] ++ before, [], trodAll_append (hargs _ (fun _ _ => rfl)) (hres _ _ _), hvs _, rfl, ?_, ?_⟩, ?_⟩
  · exact ok_one hrt rfl (okWide_bool_mk Tryz.underlying4 _)
  · intro b off hp
    have hin : MemPlace.cell b off ∈ before := by simpa using hp
    rw [hb.frozen (hlt _ hin)]
    exact hz b off hin
  · intro h
    simpa using hn h
  · intro p hp _
    simpa using hp
theorem reads_of (ts : List TypeId) (h : (ts.all fun t => Tryz.prog.readableRec t && decide (t < Tryz.prog.types.size)) = true) : ∀ t ∈ ts, Tryz.prog.readableRec t = true ∧ t < Tryz.prog.types.size := fun t ht => by
  simpa using List.all_eq_true.1 h t ht
theorem wf_nat8 {x : Int} (h : (Lit.int .u8 x).wf = true) : ∃ n : Nat, x = (n : Int) ∧ n < 256 := by
  have h' : 0 ≤ x ∧ x ≤ 255 := by simpa [Lit.wf, IntKind.min, IntKind.max, IntKind.bits, IntKind.signed] using h
  exact ⟨x.toNat, by omega, by omega⟩
theorem lcells3 : Tryz.prog.cellsOf 3 = 1 := by kernel_rfl
theorem lcells4 : Tryz.prog.cellsOf 4 = 1 := by kernel_rfl
theorem lcells9 : Tryz.prog.cellsOf 9 = 1 := by kernel_rfl
theorem lcells23 : Tryz.prog.cellsOf 23 = 4 := by kernel_rfl
theorem lcells44 : Tryz.prog.cellsOf 44 = 3 := by kernel_rfl
theorem lcells38 : Tryz.prog.cellsOf 38 = 2 := by kernel_rfl
theorem lcells53 : Tryz.prog.cellsOf 53 = 3 := by kernel_rfl
variable {W : World} {base : Nat}
theorem msg_of {v : Value} {d : DataW H} {ps : List MemPlace} {sp : Nat → Bool} {hd : Bool} {r : Reach} {b0 : Nat} (hval : Value.okWide Tryz.prog W r b0 23 v) (h : DataW.Trod enc Tryz.prog W 0 sp hd 23 v d ps) :
    ∃ (o : Int) (k t s : ByteArray), v = .agg #[.int .i64 o, .string k, .string t, .string s] := by
  obtain ⟨cs, rfl, hsz⟩ := okWide_struct Tryz.underlying23 hval
  rw [lcells23] at hsz
  obtain ⟨fuel, h⟩ := h
  obtain ⟨xs, m, _, _, hlen, hxl, hf⟩ := DataW.trod_struct Tryz.underlying23 h
  obtain ⟨L, hL⟩ : ∃ L, L = cs.toList := ⟨_, rfl⟩
  have hLl : L.length = 4 := by rw [hL, Array.length_toList, hsz]
  have hcs : cs = L.toArray := by rw [hL]
  subst hcs
  match L, hLl with
  | [c0, c1, c2, c3], _ =>
    match xs, hxl with
    | [y0, y1, y2, y3], _ =>
      have f0 := hf 0 _ rfl
      have f1 := hf 1 _ rfl
      have f2 := hf 2 _ rfl
      have f3 := hf 3 _ rfl
      simp [Value.cells, lcells3, lcells9] at f0 f1 f2 f3
      obtain ⟨q, hq, _, wq⟩ := DataW.trod_int Tryz.underlying3 f0
      obtain ⟨a, ha, _, wa⟩ := DataW.trod_string Tryz.underlying9 f1
      obtain ⟨b, hb, _, wb⟩ := DataW.trod_string Tryz.underlying9 f2
      obtain ⟨c, hc, _, wc⟩ := DataW.trod_string Tryz.underlying9 f3
      injection hq with hq; injection ha with ha; injection hb with hb; injection hc with hc
      subst hq; subst ha; subst hb; subst hc
      exact ⟨q, a, b, c, rfl⟩
theorem key_of {v : Value} {d : DataW H} {ps : List MemPlace} {sp : Nat → Bool} {hd : Bool} {r : Reach} {b0 : Nat} (hval : Value.okWide Tryz.prog W r b0 44 v) (h : DataW.Trod enc Tryz.prog W 0 sp hd 44 v d ps) :
    ∃ (k x : ByteArray) (c : Bool), v = .agg #[.string k, .string x, .bool c] := by
  obtain ⟨cs, rfl, hsz⟩ := okWide_struct Tryz.underlying44 hval
  rw [lcells44] at hsz
  obtain ⟨fuel, h⟩ := h
  obtain ⟨xs, m, _, _, hlen, hxl, hf⟩ := DataW.trod_struct Tryz.underlying44 h
  obtain ⟨L, hL⟩ : ∃ L, L = cs.toList := ⟨_, rfl⟩
  have hLl : L.length = 3 := by rw [hL, Array.length_toList, hsz]
  have hcs : cs = L.toArray := by rw [hL]
  subst hcs
  match L, hLl with
  | [c0, c1, c2], _ =>
    match xs, hxl with
    | [y0, y1, y2], _ =>
      have f0 := hf 0 _ rfl
      have f1 := hf 1 _ rfl
      have f2 := hf 2 _ rfl
      simp [Value.cells, lcells4, lcells9] at f0 f1 f2
      obtain ⟨a, ha, _, wa⟩ := DataW.trod_string Tryz.underlying9 f0
      obtain ⟨b, hb, _, wb⟩ := DataW.trod_string Tryz.underlying9 f1
      obtain ⟨c, hc, _⟩ := DataW.trod_bool Tryz.underlying4 f2
      injection ha with ha; injection hb with hb; injection hc with hc
      subst ha; subst hb; subst hc
      exact ⟨a, b, c, rfl⟩
theorem okWide_array {P : Program} {w : World} {r : Reach} {base n : Nat} {t e : TypeId} {v : Value} (ht : P.underlying t = some (.array n e)) (h : Value.okWide P w r base t v) : ∃ cs, v = .agg cs ∧ cs.size = P.cellsOf t := by
  simp only [Value.okWide, ht] at h
  obtain ⟨cs, h1, h2, _⟩ := h
  exact ⟨cs, h1, h2⟩
theorem two_of {v : Value} {d : DataW H} {ps : List MemPlace} {sp : Nat → Bool} {hd : Bool} {r : Reach} {b0 : Nat} (hval : Value.okWide Tryz.prog W r b0 38 v) (h : DataW.Trod enc Tryz.prog W 0 sp hd 38 v d ps) :
    ∃ a b : ByteArray, v = .agg #[.string a, .string b] := by
  obtain ⟨cs, rfl, hsz⟩ := okWide_array Tryz.underlying38 hval
  rw [lcells38] at hsz
  obtain ⟨fuel, hf⟩ := h
  obtain ⟨xs, m, _, _, hlen, hxl, he⟩ := DataW.trod_array Tryz.underlying38 hf
  obtain ⟨L, hL⟩ : ∃ L, L = cs.toList := ⟨_, rfl⟩
  have hLl : L.length = 2 := by rw [hL, Array.length_toList, hsz]
  have hcs : cs = L.toArray := by rw [hL]
  subst hcs
  match L, hLl with
  | [c0, c1], _ =>
    match xs, hxl with
    | [y0, y1], _ =>
      have f0 := he 0 (by decide)
      have f1 := he 1 (by decide)
      simp [Value.cells, lcells9] at f0 f1
      obtain ⟨a, ha, _, wa⟩ := DataW.trod_string Tryz.underlying9 f0
      obtain ⟨b, hb, _, wb⟩ := DataW.trod_string Tryz.underlying9 f1
      injection ha with ha; injection hb with hb
      subst ha; subst hb
      exact ⟨a, b, rfl⟩
theorem three_of {v : Value} {d : DataW H} {ps : List MemPlace} {sp : Nat → Bool} {hd : Bool} {r : Reach} {b0 : Nat} (hval : Value.okWide Tryz.prog W r b0 53 v) (h : DataW.Trod enc Tryz.prog W 0 sp hd 53 v d ps) :
    ∃ a b c : ByteArray, v = .agg #[.string a, .string b, .string c] := by
  obtain ⟨cs, rfl, hsz⟩ := okWide_array Tryz.underlying53 hval
  rw [lcells53] at hsz
  obtain ⟨fuel, hf⟩ := h
  obtain ⟨xs, m, _, _, hlen, hxl, he⟩ := DataW.trod_array Tryz.underlying53 hf
  obtain ⟨L, hL⟩ : ∃ L, L = cs.toList := ⟨_, rfl⟩
  have hLl : L.length = 3 := by rw [hL, Array.length_toList, hsz]
  have hcs : cs = L.toArray := by rw [hL]
  subst hcs
  match L, hLl with
  | [c0, c1, c2], _ =>
    match xs, hxl with
    | [y0, y1, y2], _ =>
      have f0 := he 0 (by decide)
      have f1 := he 1 (by decide)
      have f2 := he 2 (by decide)
      simp [Value.cells, lcells9] at f0 f1 f2
      obtain ⟨a, ha, _, wa⟩ := DataW.trod_string Tryz.underlying9 f0
      obtain ⟨b, hb, _, wb⟩ := DataW.trod_string Tryz.underlying9 f1
      obtain ⟨c, hc, _, wc⟩ := DataW.trod_string Tryz.underlying9 f2
      injection ha with ha; injection hb with hb; injection hc with hc
      subst ha; subst hb; subst hc
      exact ⟨a, b, c, rfl⟩
end
end Go.Proofs.YthledgkjfjdjoaaGreat
