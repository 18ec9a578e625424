/- How a call that touches nothing old meets a row: what the arguments say, and that they say it behind the call. Conditions: none. -/
import Derived.Test.YtnpjbddannkgfaaPtA
import Derived.ProofKit
import Derived.OpenShut
import Derived.ShutString
import Derived.Carry
import Derived.ChangeSame
import Derived.Deep.Slices
import Derived.Deep.Fields
namespace Go.Proofs.Ytnpjbddannkgfaa
open Go.ChangeShapes Go.WideShapes Go.ChangeAt Go.RowKit Go.Deep
set_option maxRecDepth 100000
theorem own : ownKnob Try.prog.godebug = none := by kernel_rfl
section
variable {H : Type} {enc : TypeId × Value → H}
theorem trodAll_carry {W W' : World} (hb : Below W.heap.size W W') {sp : Nat → Bool} : ∀ (ts : List TypeId) (vs : List Value) (ds : List (DataW H)) (ps : List MemPlace), (∀ t ∈ ts, Try.prog.readableRec t = true ∧ t < Try.prog.types.size) →
    (∀ p ∈ ps, p.block < W.heap.size ∧ sp p.block = true) → DataW.TrodAll enc Try.prog W 0 (fun _ => true) true ts vs ds ps → DataW.TrodAll enc Try.prog W' 0 sp true ts vs ds ps
  | [], vs, ds, ps, _, _, h => by
    obtain ⟨rfl, rfl, rfl⟩ := trodAll_nil h
    exact trodAll_mk0
  | t :: ts, vs, ds, ps, ht, hp, h => by
    obtain ⟨v, vs', d, ds', p, q, rfl, rfl, rfl, h1, h2⟩ := trodAll_cons h
    obtain ⟨hr, hs⟩ := ht t (List.mem_cons_self ..)
    refine trodAll_cons_mk (WideElems.Trod_stays (by kernel_rfl) hr hs h1 (fun x hx => hb.same (hp x (List.mem_append_left _ hx)).1) (fun x hx => (hp x (List.mem_append_left _ hx)).2)) ?_
    exact trodAll_carry hb ts vs' ds' q (fun t' h' => ht t' (List.mem_cons_of_mem _ h')) (fun x hx => hp x (List.mem_append_right _ hx)) h2
/-- A law that returned true, and touched nothing old. -/
theorem law_post {f : Func} {s : ChangeSpec} {apart fresh handsOn again : Bool} {W W' : World} {args : Array Value} {ds gs : List (DataW H)} {before : List MemPlace}
    (hW : DataW.Whole enc Try.prog f.params.toList s.vars apart W args.toList ds gs before) (hvars : s.vars = [])
    (hr : (s.fn H (ds ++ gs)).results = [.lit (.bool true)]) (ha : (s.fn H (ds ++ gs)).args = ds) (hv : (s.fn H (ds ++ gs)).vars = []) (hrt : f.resultTypes = #[4])
    (hread : ∀ t ∈ f.params.toList, Try.prog.readableRec t = true ∧ t < Try.prog.types.size) (hb : Below W.heap.size W W') :
    s.post enc Try.prog f apart fresh handsOn again W args (.bool true) W' := by
  have hlt : ∀ p ∈ before, p.block < W.heap.size := fun p hp => hW.lt p hp
  have hW' := hW
  obtain ⟨pa, pv, hA, hV, hps, hz, hn⟩ := hW
  rw [hvars] at hV
  obtain ⟨rfl, rfl⟩ := trodVars_none hV
  rw [List.append_nil] at hps
  subst hps
  have hargs : ∀ sp : Nat → Bool, (∀ p ∈ before, sp p.block = true) → DataW.TrodAll enc Try.prog W' 0 sp true f.params.toList args.toList (s.fn H (ds ++ [])).args before := fun sp hs => by
    rw [ha]
    exact trodAll_carry hb _ _ _ _ hread (fun p hp => ⟨hlt p hp, hs p hp⟩) hA
  have hres : ∀ (b : Nat) (sp : Nat → Bool) (hd : Bool), DataW.TrodAll enc Try.prog W' b sp hd f.resultTypes.toList ((Value.bool true).resultList f.resultTypes.size) (s.fn H (ds ++ [])).results [] := fun b sp hd => by
    rw [hr, hrt]
    exact trodAll_cons_mk (shut_bool Try.underlying4 _) trodAll_mk0
  have hvs : ∀ sp : Nat → Bool, DataW.TrodVars enc Try.prog W' sp s.vars (s.fn H (ds ++ [])).vars [] := fun sp => by
    rw [hvars, hv]; rfl
  refine ⟨ds, [], before, [], before, [], hW', hres _ _ _, hargs _ (fun p hp => by simpa using hlt p hp), hvs _, World.keptBut_mono (fun p hp => ⟨hp, .inr (by simpa using hp)⟩) (hb.frame (· ∈ before)), fun _ => ?_⟩
  refine ⟨?_, _, _, ([] ++ before) ++ [], ⟨[] ++ before, [], trodAll_append (hargs _ (fun _ _ => rfl)) (hres _ _ _), hvs _, rfl, ?_, ?_⟩, ?_⟩
  · exact ok_one hrt rfl (okWide_bool_mk Try.underlying4 _)
  · intro b off hp
    have hin : MemPlace.cell b off ∈ before := by simpa using hp
    rw [hb.frozen (hlt _ hin)]
    exact hz b off hin
  · intro h
    simpa using hn h
  · intro p hp _
    simpa using hp
theorem reads_of (ts : List TypeId) (h : (ts.all fun t => Try.prog.readableRec t && decide (t < Try.prog.types.size)) = true) : ∀ t ∈ ts, Try.prog.readableRec t = true ∧ t < Try.prog.types.size := fun t ht => by
  simpa using List.all_eq_true.1 h t ht
theorem wf_nat8 {x : Int} (h : (Lit.int .u8 x).wf = true) : ∃ n : Nat, x = (n : Int) ∧ n < 256 := by
  have h' : 0 ≤ x ∧ x ≤ 255 := by simpa [Lit.wf, IntKind.min, IntKind.max, IntKind.bits, IntKind.signed] using h
  exact ⟨x.toNat, by omega, by omega⟩
theorem wf_nat16 {x : Int} (h : (Lit.int .u16 x).wf = true) : ∃ n : Nat, x = (n : Int) ∧ n < 65536 := by
  have h' : 0 ≤ x ∧ x ≤ 65535 := by simpa [Lit.wf, IntKind.min, IntKind.max, IntKind.bits, IntKind.signed] using h
  exact ⟨x.toNat, by omega, by omega⟩
theorem wf_i64 {x : Int} (h : (Lit.int .i64 x).wf = true) : -9223372036854775808 ≤ x ∧ x ≤ 9223372036854775807 := by
  simpa [Lit.wf, IntKind.min, IntKind.max, IntKind.bits, IntKind.signed] using h
theorem cells3 : Try.prog.cellsOf 3 = 1 := by kernel_rfl
theorem cells5 : Try.prog.cellsOf 5 = 1 := by kernel_rfl
theorem cells30 : Try.prog.cellsOf 30 = 2 := by kernel_rfl
theorem cells46 : Try.prog.cellsOf 46 = 1 := by kernel_rfl
theorem cells55 : Try.prog.cellsOf 55 = 3 := by kernel_rfl
theorem add_zero (p : Addr) : p.add 0 = p := by unfold Addr.add; simp
theorem add_succ (p : Addr) (k : Nat) : p.add (k + 1) = ⟨p.block, p.off + (k + 1), none⟩ := by unfold Addr.add; simp
theorem lt_of_cell {w : World} {p : Addr} {v : Value} (h : w.cell? p = some v) : p.block < w.heap.size := World.block_lt_of_cell? w p h
theorem pick {α : Type} {P : Nat → α → Prop} : ∀ n : Nat, (∀ i, i < n → ∃ y, P i y) → ∃ xs : List α, xs.length = n ∧ ∀ i x, xs[i]? = some x → P i x
  | 0, _ => ⟨[], rfl, fun i x h => by simp at h⟩
  | n + 1, h => by
    obtain ⟨xs, hl, hx⟩ := pick n fun i hi => h i (by omega)
    obtain ⟨y, hy⟩ := h n (by omega)
    refine ⟨xs ++ [y], by simp [hl], fun i x hi => ?_⟩
    by_cases e : i < n
    · rw [List.getElem?_append_left (by omega)] at hi
      exact hx i x hi
    · have hlt := (List.getElem?_eq_some_iff.1 hi).1
      rw [List.length_append, List.length_singleton] at hlt
      obtain rfl : i = n := by omega
      rw [List.getElem?_append_right (by omega), hl, Nat.sub_self] at hi
      simp at hi
      rw [← hi]; exact hy
variable {W : World} {base : Nat}
theorem some_ac {cs : List Value} {n : Nat} {x : DataW H × List MemPlace} {sp : Nat → Bool} {hd : Bool} {p : Addr} (hc : W.cells? 0 p 2 = some cs) (h : DataW.trod enc Try.prog W 0 sp hd n 30 cs = some x) :
    ∃ y : Ac, p.block < W.heap.size ∧ W.cell? p = some (.int .u8 (y.what : Nat)) ∧ W.cell? ⟨p.block, p.off + 1, none⟩ = some (.int .i64 y.n) ∧ i64r y.n := by
  obtain ⟨xs, m, _, _, hlen, hxl, hf⟩ := DataW.trod_struct Try.underlying30 h
  obtain ⟨_, hcl, hat⟩ := World.cells?_some hc
  match cs, hcl with
  | [c0, c1], _ =>
    match xs, hxl with
    | [y0, y1], _ =>
      have f0 := hf 0 _ rfl
      have f1 := hf 1 _ rfl
      simp [cells5, cells3] at f0 f1
      obtain ⟨k, hk, _, wk⟩ := DataW.trod_int Try.underlying5 f0
      obtain ⟨q, hq, _, wq⟩ := DataW.trod_int Try.underlying3 f1
      injection hk with hk; injection hq with hq
      subst hk; subst hq
      obtain ⟨k', rfl, hk'⟩ := wf_nat8 wk
      have a0 := hat 0 (by omega)
      have a1 := hat 1 (by omega)
      rw [add_zero] at a0
      rw [add_succ] at a1
      exact ⟨⟨k', q⟩, lt_of_cell a0, a0, a1, wf_i64 wq⟩
theorem acts_of {v : Value} {d : DataW H} {ps : List MemPlace} {sp : Nat → Bool} {hd : Bool} {r : Reach} {b0 : Nat} (hval : Value.okWide Try.prog W r b0 22 v) (h : DataW.Trod enc Try.prog W 0 sp hd 22 v d ps) :
    ∃ (A : Option Addr) (l : List Ac) (cap : Nat), v = .slice A l.length cap ∧ l.length ≤ maxLen ∧ Acts W W.heap.size A l := by
  obtain ⟨a, len, cap, rfl⟩ := okWide_slice Try.underlying22 hval
  obtain ⟨fuel, hf⟩ := h
  rcases open_slice Try.underlying22 hf with ⟨hcs, _⟩ | ⟨ad, len', cap', m, n, D, Pl, hcs, _, hl, hcap, hm, _, hi⟩
  · simp [Value.cells] at hcs
    obtain ⟨rfl, rfl, rfl⟩ := hcs
    exact ⟨none, [], 0, rfl, by simp, fun i x hx => by simp at hx⟩
  · simp [Value.cells] at hcs
    obtain ⟨rfl, rfl, rfl⟩ := hcs
    have key : ∀ i, i < len → ∃ y : Ac, (ad.add (i * 2)).block < W.heap.size ∧ W.cell? (ad.add (i * 2)) = some (.int .u8 (y.what : Nat)) ∧ W.cell? ⟨(ad.add (i * 2)).block, (ad.add (i * 2)).off + 1, none⟩ = some (.int .i64 y.n) ∧ i64r y.n := fun i hlt => by
      obtain ⟨cs, hc, ht⟩ := hi i (by rw [hm]; split <;> omega)
      rw [cells30] at hc
      exact some_ac hc ht
    obtain ⟨l, rfl, hx⟩ := pick len key
    refine ⟨some ad, l, cap, rfl, by omega, fun i x hi => ?_⟩
    obtain ⟨h2, h3, h4, h5⟩ := hx i x hi
    exact ⟨ad, rfl, h2, h3, h4, h5⟩
theorem ints_in {v : Value} {n : Nat} {x : DataW H × List MemPlace} {sp : Nat → Bool} {hd : Bool} (hf : DataW.trod enc Try.prog W 0 sp hd n 46 [v] = some x) : ∃ (P : Option Addr) (xs : List Int) (c : Nat), v = .slice P xs.length c ∧ Nb W W.heap.size P xs ∧ ∀ y ∈ xs, i64r y := by
  rcases open_slice Try.underlying46 hf with ⟨hcs, _⟩ | ⟨ad, len', cap', m, n, D, Pl, hcs, _, hl, hcap, hm, _, hi⟩
  · simp at hcs
    subst hcs
    exact ⟨none, [], 0, rfl, fun j x hj => by simp at hj, fun y hy => by simp at hy⟩
  · simp at hcs
    subst hcs
    have key : ∀ i, i < len' → ∃ y : Int, (ad.add i).block < W.heap.size ∧ W.cell? (ad.add i) = some (.int .i64 y) ∧ i64r y := fun i hlt => by
      obtain ⟨cs, hc, ht⟩ := hi i (by rw [hm]; split <;> omega)
      rw [cells3, Nat.mul_one] at hc
      obtain ⟨k, rfl, _, wk⟩ := DataW.trod_int Try.underlying3 ht
      obtain ⟨_, _, hat⟩ := World.cells?_some hc
      have a0 := hat 0 (by omega)
      rw [add_zero] at a0
      exact ⟨k, lt_of_cell a0, a0, wf_i64 wk⟩
    obtain ⟨xs, rfl, hx⟩ := pick len' key
    refine ⟨some ad, xs, cap', rfl, fun j x hj => ⟨ad, rfl, (hx j x hj).1, (hx j x hj).2.1⟩, fun y hy => ?_⟩
    obtain ⟨j, hj⟩ := List.getElem?_of_mem hy
    exact (hx j y hj).2.2
theorem some_od {cs : List Value} {n : Nat} {x : DataW H × List MemPlace} {sp : Nat → Bool} {hd : Bool} {p : Addr} (hc : W.cells? 0 p 3 = some cs) (h : DataW.trod enc Try.prog W 0 sp hd n 55 cs = some x) :
    ∃ y : Od, Nb W W.heap.size y.P y.rest ∧ (i64r y.p ∧ i64r y.r ∧ ∀ z ∈ y.rest, i64r z) ∧ p.block < W.heap.size ∧ W.cell? p = some (.int .i64 y.p) ∧ W.cell? ⟨p.block, p.off + 1, none⟩ = some (.int .i64 y.r) ∧ W.cell? ⟨p.block, p.off + 2, none⟩ = some y.v := by
  obtain ⟨xs, m, _, _, hlen, hxl, hf⟩ := DataW.trod_struct Try.underlying55 h
  obtain ⟨_, hcl, hat⟩ := World.cells?_some hc
  match cs, hcl with
  | [c0, c1, c2], _ =>
    match xs, hxl with
    | [y0, y1, y2], _ =>
      have f0 := hf 0 _ rfl
      have f1 := hf 1 _ rfl
      have f2 := hf 2 _ rfl
      simp [cells3, cells46] at f0 f1 f2
      obtain ⟨k, hk, _, wk⟩ := DataW.trod_int Try.underlying3 f0
      obtain ⟨q, hq, _, wq⟩ := DataW.trod_int Try.underlying3 f1
      obtain ⟨P, xs, c, e, hn, hr⟩ := ints_in f2
      injection hk with hk; injection hq with hq
      subst hk; subst hq; subst e
      have a0 := hat 0 (by omega)
      have a1 := hat 1 (by omega)
      have a2 := hat 2 (by omega)
      rw [add_zero] at a0
      rw [add_succ] at a1 a2
      exact ⟨⟨k, q, P, c, xs⟩, hn, ⟨wf_i64 wk, wf_i64 wq, hr⟩, lt_of_cell a0, a0, a1, a2⟩
theorem owned_of {v : Value} {d : DataW H} {ps : List MemPlace} {sp : Nat → Bool} {hd : Bool} {r : Reach} {b0 : Nat} (hval : Value.okWide Try.prog W r b0 31 v) (h : DataW.Trod enc Try.prog W 0 sp hd 31 v d ps) :
    ∃ (A : Option Addr) (l : List Od) (cap : Nat), v = .slice A l.length cap ∧ l.length ≤ maxLen ∧ Ls W W.heap.size A l := by
  obtain ⟨a, len, cap, rfl⟩ := okWide_slice Try.underlying31 hval
  obtain ⟨fuel, hf⟩ := h
  rcases open_slice Try.underlying31 hf with ⟨hcs, _⟩ | ⟨ad, len', cap', m, n, D, Pl, hcs, _, hl, hcap, hm, _, hi⟩
  · simp [Value.cells] at hcs
    obtain ⟨rfl, rfl, rfl⟩ := hcs
    exact ⟨none, [], 0, rfl, by simp, fun i x hx => by simp at hx⟩
  · simp [Value.cells] at hcs
    obtain ⟨rfl, rfl, rfl⟩ := hcs
    have key : ∀ i, i < len → ∃ y : Od, Nb W W.heap.size y.P y.rest ∧ (i64r y.p ∧ i64r y.r ∧ ∀ z ∈ y.rest, i64r z) ∧ (ad.add (i * 3)).block < W.heap.size ∧ W.cell? (ad.add (i * 3)) = some (.int .i64 y.p) ∧ W.cell? ⟨(ad.add (i * 3)).block, (ad.add (i * 3)).off + 1, none⟩ = some (.int .i64 y.r) ∧ W.cell? ⟨(ad.add (i * 3)).block, (ad.add (i * 3)).off + 2, none⟩ = some y.v := fun i hlt => by
      obtain ⟨cs, hc, ht⟩ := hi i (by rw [hm]; split <;> omega)
      rw [cells55] at hc
      exact some_od hc ht
    obtain ⟨l, rfl, hx⟩ := pick len key
    refine ⟨some ad, l, cap, rfl, by omega, fun i x hi => ?_⟩
    obtain ⟨h1, h2, h3, h4, h5, h6⟩ := hx i x hi
    exact ⟨h1, h2, ad, rfl, h3, h4, h5, h6⟩
end
end Go.Proofs.Ytnpjbddannkgfaa
