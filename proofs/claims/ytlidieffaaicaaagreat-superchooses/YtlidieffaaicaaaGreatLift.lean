/- How a call that touches nothing old meets a row: what the arguments say, and that they say it behind the call. Conditions: none. -/
import Derived.Test.YtlidieffaaicaaaGreatRows
import Derived.Test.YtlidieffaaicaaaGreatSuS
import Derived.ProofKit
import Derived.OpenShut
import Derived.ShutString
import Derived.Carry
import Derived.ChangeSame
import Derived.Deep.Slices
import Derived.Deep.Fields
namespace Go.Proofs.YtlidieffaaicaaaGreat
open Go.ChangeShapes Go.WideShapes Go.ChangeAt Go.RowKit Go.Deep
set_option maxRecDepth 100000
theorem own : ownKnob Tryz.prog.godebug = none := by kernel_rfl
section
variable {H : Type} {enc : TypeId × Value → H}
theorem trodAll_carry {W W' : World} (hb : Below W.heap.size W W') {sp : Nat → Bool} : ∀ (ts : List TypeId) (vs : List Value) (ds : List (DataW H)) (ps : List MemPlace), (∀ t ∈ ts, Tryz.prog.readableRec t = true ∧ t < Tryz.prog.types.size) →
    (∀ p ∈ ps, p.block < W.heap.size ∧ sp p.block = true) → DataW.TrodAll enc Tryz.prog W 0 (fun _ => true) true ts vs ds ps → DataW.TrodAll enc Tryz.prog W' 0 sp true ts vs ds ps
  | [], vs, ds, ps, _, _, h => by
    obtain ⟨rfl, rfl, rfl⟩ := trodAll_nil h
    exact trodAll_mk0
  | t :: ts, vs, ds, ps, ht, hp, h => by
    obtain ⟨v, vs', d, ds', p, q, rfl, rfl, rfl, h1, h2⟩ := trodAll_cons h
    obtain ⟨hr, hs⟩ := ht t (List.mem_cons_self ..)
    refine trodAll_cons_mk (WideElems.Trod_stays (by kernel_rfl) hr hs h1 (fun x hx => hb.same (hp x (List.mem_append_left _ hx)).1) (fun x hx => (hp x (List.mem_append_left _ hx)).2)) ?_
    exact trodAll_carry hb ts vs' ds' q (fun t' h' => ht t' (List.mem_cons_of_mem _ h')) (fun x hx => hp x (List.mem_append_right _ hx)) h2
/-- A law that returned true, and touched nothing old. -/
theorem law_post {f : Func} {s : ChangeSpec} {apart fresh handsOn again : Bool} {W W' : World} {args : Array Value} {ds gs : List (DataW H)} {before : List MemPlace}
    (hW : DataW.Whole enc Tryz.prog f.params.toList s.vars apart W args.toList ds gs before) (hvars : s.vars = [])
    (hr : (s.fn H (ds ++ gs)).results = [.lit (.bool true)]) (ha : (s.fn H (ds ++ gs)).args = ds) (hv : (s.fn H (ds ++ gs)).vars = []) (hrt : f.resultTypes = #[4])
    (hread : ∀ t ∈ f.params.toList, Tryz.prog.readableRec t = true ∧ t < Tryz.prog.types.size) (hb : Below W.heap.size W W') :
    s.post enc Tryz.prog f apart fresh handsOn again W args (.bool true) W' := by
  have hlt : ∀ p ∈ before, p.block < W.heap.size := fun p hp => hW.lt p hp
  have hW' := hW
  obtain ⟨pa, pv, hA, hV, hps, hz, hn⟩ := hW
  rw [hvars] at hV
  obtain ⟨rfl, rfl⟩ := trodVars_none hV
  rw [List.append_nil] at hps
  subst hps
  have hargs : ∀ sp : Nat → Bool, (∀ p ∈ before, sp p.block = true) → DataW.TrodAll enc Tryz.prog W' 0 sp true f.params.toList args.toList (s.fn H (ds ++ [])).args before := fun sp hs => by
    rw [ha]
    exact trodAll_carry hb _ _ _ _ hread (fun p hp => ⟨hlt p hp, hs p hp⟩) hA
  have hres : ∀ (b : Nat) (sp : Nat → Bool) (hd : Bool), DataW.TrodAll enc Tryz.prog W' b sp hd f.resultTypes.toList ((Value.bool true).resultList f.resultTypes.size) (s.fn H (ds ++ [])).results [] := fun b sp hd => by
    rw [hr, hrt]
    exact trodAll_cons_mk (shut_bool Tryz.underlying4 _) trodAll_mk0
  have hvs : ∀ sp : Nat → Bool, DataW.TrodVars enc Tryz.prog W' sp s.vars (s.fn H (ds ++ [])).vars [] := fun sp => by
    rw [hvars, hv]; rfl
  refine ⟨ds, [], before, [], before, [], hW', hres _ _ _, hargs _ (fun p hp => by simpa using hlt p hp), hvs _, World.keptBut_mono (fun p hp => ⟨hp, .inr (by simpa using hp)⟩) (hb.frame (· ∈ before)), fun _ => ?_⟩
  refine ⟨?_, _, _, ([] ++ before) ++ [], ⟨[] ++ before, [], trodAll_append (hargs _ (fun _ _ => rfl)) (hres _ _ _), hvs _, rfl, ?_, ?_⟩, ?_⟩
  · exact ok_one hrt rfl (okWide_bool_mk Tryz.underlying4 _)
  · intro b off hp
    have hin : MemPlace.cell b off ∈ before := by simpa using hp
    rw [hb.frozen (hlt _ hin)]
    exact hz b off hin
  · intro h
    simpa using hn h
  · intro p hp _
    simpa using hp
theorem reads_of (ts : List TypeId) (h : (ts.all fun t => Tryz.prog.readableRec t && decide (t < Tryz.prog.types.size)) = true) : ∀ t ∈ ts, Tryz.prog.readableRec t = true ∧ t < Tryz.prog.types.size := fun t ht => by
  simpa using List.all_eq_true.1 h t ht
theorem wf_nat64 {x : Int} (h : (Lit.int .u64 x).wf = true) : ∃ n : Nat, x = (n : Int) ∧ n < 18446744073709551616 := by
  have h' : 0 ≤ x ∧ x ≤ 18446744073709551615 := by simpa [Lit.wf, IntKind.min, IntKind.max, IntKind.bits, IntKind.signed] using h
  exact ⟨x.toNat, by omega, by omega⟩
theorem wf_nat8 {x : Int} (h : (Lit.int .u8 x).wf = true) : ∃ n : Nat, x = (n : Int) ∧ n < 256 := by
  have h' : 0 ≤ x ∧ x ≤ 255 := by simpa [Lit.wf, IntKind.min, IntKind.max, IntKind.bits, IntKind.signed] using h
  exact ⟨x.toNat, by omega, by omega⟩
theorem wf_nat16 {x : Int} (h : (Lit.int .u16 x).wf = true) : ∃ n : Nat, x = (n : Int) ∧ n < 65536 := by
  have h' : 0 ≤ x ∧ x ≤ 65535 := by simpa [Lit.wf, IntKind.min, IntKind.max, IntKind.bits, IntKind.signed] using h
  exact ⟨x.toNat, by omega, by omega⟩
theorem lcells3 : Tryz.prog.cellsOf 3 = 1 := by kernel_rfl
theorem lcells5 : Tryz.prog.cellsOf 5 = 1 := by kernel_rfl
theorem lcells9 : Tryz.prog.cellsOf 9 = 1 := by kernel_rfl
theorem lcells22 : Tryz.prog.cellsOf 22 = 2 := by kernel_rfl
theorem lcells23 : Tryz.prog.cellsOf 23 = 1 := by kernel_rfl
theorem lcells25 : Tryz.prog.cellsOf 25 = 5 := by kernel_rfl
theorem lcells26 : Tryz.prog.cellsOf 26 = 1 := by kernel_rfl
theorem lcells28 : Tryz.prog.cellsOf 28 = 5 := by kernel_rfl
theorem lcells50 : Tryz.prog.cellsOf 50 = 1 := by kernel_rfl
theorem lcells52 : Tryz.prog.cellsOf 52 = 4 := by kernel_rfl
theorem add_zero (p : Addr) : p.add 0 = p := by unfold Addr.add; simp
theorem add_succ (p : Addr) (k : Nat) : p.add (k + 1) = ⟨p.block, p.off + (k + 1), none⟩ := by unfold Addr.add; simp
theorem lt_of_cell {w : World} {p : Addr} {v : Value} (h : w.cell? p = some v) : p.block < w.heap.size := World.block_lt_of_cell? w p h
theorem pick {α : Type} {P : Nat → α → Prop} : ∀ n : Nat, (∀ i, i < n → ∃ y, P i y) → ∃ xs : List α, xs.length = n ∧ ∀ i x, xs[i]? = some x → P i x
  | 0, _ => ⟨[], rfl, fun i x h => by simp at h⟩
  | n + 1, h => by
    obtain ⟨xs, hl, hx⟩ := pick n fun i hi => h i (by omega)
    obtain ⟨y, hy⟩ := h n (by omega)
    refine ⟨xs ++ [y], by simp [hl], fun i x hi => ?_⟩
    by_cases e : i < n
    · rw [List.getElem?_append_left (by omega)] at hi
      exact hx i x hi
    · have hlt := (List.getElem?_eq_some_iff.1 hi).1
      rw [List.length_append, List.length_singleton] at hlt
      obtain rfl : i = n := by omega
      rw [List.getElem?_append_right (by omega), hl, Nat.sub_self] at hi
      simp at hi
      rw [← hi]; exact hy
variable {W : World} {base : Nat}
/-- A superblock that comes in. -/
theorem super_of {v : Value} {d : DataW H} {ps : List MemPlace} {sp : Nat → Bool} {hd : Bool} {r : Reach} {b0 : Nat} (hval : Value.okWide Tryz.prog W r b0 28 v) (h : DataW.Trod enc Tryz.prog W 0 sp hd 28 v d ps) :
    ∃ (g c : Nat) (a i n : Int), v = .agg #[.int .u64 (g : Nat), .int .u64 (c : Nat), .int .i64 a, .int .i64 i, .int .i64 n] ∧ g < 18446744073709551616 ∧ c < 18446744073709551616 := by
  obtain ⟨cs, rfl, hsz⟩ := okWide_struct Tryz.underlying28 hval
  rw [lcells28] at hsz
  obtain ⟨fuel, h⟩ := h
  obtain ⟨xs, m, _, _, hlen, hxl, hf⟩ := DataW.trod_struct Tryz.underlying28 h
  obtain ⟨L, hL⟩ : ∃ L, L = cs.toList := ⟨_, rfl⟩
  have hLl : L.length = 5 := by rw [hL, Array.length_toList, hsz]
  have hcs : cs = L.toArray := by rw [hL]
  subst hcs
  match L, hLl with
  | [c0, c1, c2, c3, c4], _ =>
    match xs, hxl with
    | [y0, y1, y2, y3, y4], _ =>
      have f0 := hf 0 _ rfl
      have f1 := hf 1 _ rfl
      have f2 := hf 2 _ rfl
      have f3 := hf 3 _ rfl
      have f4 := hf 4 _ rfl
      simp [Value.cells, lcells3, lcells26] at f0 f1 f2 f3 f4
      obtain ⟨q0, hq0, _, w0⟩ := DataW.trod_int Tryz.underlying26 f0
      obtain ⟨q1, hq1, _, w1⟩ := DataW.trod_int Tryz.underlying26 f1
      obtain ⟨q2, hq2, _, w2⟩ := DataW.trod_int Tryz.underlying3 f2
      obtain ⟨q3, hq3, _, w3⟩ := DataW.trod_int Tryz.underlying3 f3
      obtain ⟨q4, hq4, _, w4⟩ := DataW.trod_int Tryz.underlying3 f4
      obtain ⟨g, rfl, hg⟩ := wf_nat64 w0
      obtain ⟨c, rfl, hc⟩ := wf_nat64 w1
      injection hq0 with hq0; injection hq1 with hq1; injection hq2 with hq2; injection hq3 with hq3; injection hq4 with hq4
      subst hq0; subst hq1; subst hq2; subst hq3; subst hq4
      exact ⟨g, c, q2, q3, q4, rfl, hg, hc⟩
/-- Numbers that come in. -/
theorem ints_in {v : Value} {n : Nat} {x : DataW H × List MemPlace} {sp : Nat → Bool} {hd : Bool} (hf : DataW.trod enc Tryz.prog W 0 sp hd n 23 [v] = some x) : ∃ xs : List Int, Fu.Sw W W.heap.size v xs := by
  rcases open_slice Tryz.underlying23 hf with ⟨hcs, _⟩ | ⟨ad, len', cap', m, n, D, Pl, hcs, _, hl, hcap, hm, _, hi⟩
  · simp at hcs
    subst hcs
    exact ⟨[], none, 0, rfl, fun j x hj => by simp at hj⟩
  · simp at hcs
    subst hcs
    have key : ∀ i, i < len' → ∃ y : Int, (ad.add i).block < W.heap.size ∧ W.cell? (ad.add i) = some (.int .i64 y) := fun i hlt => by
      obtain ⟨cs, hc, ht⟩ := hi i (by rw [hm]; split <;> omega)
      rw [lcells3, Nat.mul_one] at hc
      obtain ⟨k, rfl, _, wk⟩ := DataW.trod_int Tryz.underlying3 ht
      obtain ⟨_, _, hat⟩ := World.cells?_some hc
      have a0 := hat 0 (by omega)
      rw [add_zero] at a0
      exact ⟨k, lt_of_cell a0, a0⟩
    obtain ⟨xs, rfl, hx⟩ := pick len' key
    exact ⟨xs, some ad, cap', rfl, fun j x hj => ⟨ad, rfl, (hx j x hj).1, (hx j x hj).2⟩⟩
theorem some_ty {cs : List Value} {n : Nat} {x : DataW H × List MemPlace} {sp : Nat → Bool} {hd : Bool} {p : Addr} (hc : W.cells? 0 p 4 = some cs) (h : DataW.trod enc Tryz.prog W 0 sp hd n 52 cs = some x) :
    ∃ y : Ty, p.block < W.heap.size ∧ W.cell? p = some (.int .u64 (y.calls : Nat)) ∧ W.cell? ⟨p.block, p.off + 1, none⟩ = some (.int .u16 (y.root : Nat)) ∧ W.cell? ⟨p.block, p.off + 2, none⟩ = some (.int .u16 (y.table : Nat)) ∧
      W.cell? ⟨p.block, p.off + 3, none⟩ = some y.v ∧ Fu.Sw W W.heap.size y.v y.xs ∧ y.calls < 18446744073709551616 ∧ y.root < 65536 ∧ y.table < 65536 := by
  obtain ⟨xs, m, _, _, hlen, hxl, hf⟩ := DataW.trod_struct Tryz.underlying52 h
  obtain ⟨_, hcl, hat⟩ := World.cells?_some hc
  match cs, hcl with
  | [c0, c1, c2, c3], _ =>
    match xs, hxl with
    | [y0, y1, y2, y3], _ =>
      have f0 := hf 0 _ rfl
      have f1 := hf 1 _ rfl
      have f2 := hf 2 _ rfl
      have f3 := hf 3 _ rfl
      simp [lcells26, lcells50, lcells23] at f0 f1 f2 f3
      obtain ⟨k, hk, _, wk⟩ := DataW.trod_int Tryz.underlying26 f0
      obtain ⟨q, hq, _, wq⟩ := DataW.trod_int Tryz.underlying50 f1
      obtain ⟨s, hs, _, ws⟩ := DataW.trod_int Tryz.underlying50 f2
      obtain ⟨zs, hz⟩ := ints_in f3
      injection hk with hk; injection hq with hq; injection hs with hs
      subst hk; subst hq; subst hs
      obtain ⟨k', rfl, hk'⟩ := wf_nat64 wk
      obtain ⟨q', rfl, hq'⟩ := wf_nat16 wq
      obtain ⟨s', rfl, hs'⟩ := wf_nat16 ws
      have a0 := hat 0 (by omega)
      have a1 := hat 1 (by omega)
      have a2 := hat 2 (by omega)
      have a3 := hat 3 (by omega)
      rw [add_zero] at a0
      rw [add_succ] at a1 a2 a3
      exact ⟨⟨k', q', s', c3, zs⟩, lt_of_cell a0, a0, a1, a2, a3, hz, hk', hq', hs'⟩
/-- Tries that come in. -/
theorem tries_of {v : Value} {d : DataW H} {ps : List MemPlace} {sp : Nat → Bool} {hd : Bool} {r : Reach} {b0 : Nat} (hval : Value.okWide Tryz.prog W r b0 48 v) (h : DataW.Trod enc Tryz.prog W 0 sp hd 48 v d ps) :
    ∃ (A : Option Addr) (l : List Ty) (cap : Nat), v = .slice A l.length cap ∧ l.length ≤ maxLen ∧ Tries W W.heap.size A l := by
  obtain ⟨a, len, cap, rfl⟩ := okWide_slice Tryz.underlying48 hval
  obtain ⟨fuel, hf⟩ := h
  rcases open_slice Tryz.underlying48 hf with ⟨hcs, _⟩ | ⟨ad, len', cap', m, n, D, Pl, hcs, _, hl, hcap, hm, _, hi⟩
  · simp [Value.cells] at hcs
    obtain ⟨rfl, rfl, rfl⟩ := hcs
    exact ⟨none, [], 0, rfl, by simp, fun i x hx => by simp at hx⟩
  · simp [Value.cells] at hcs
    obtain ⟨rfl, rfl, rfl⟩ := hcs
    have key : ∀ i, i < len → ∃ y : Ty, (ad.add (i * 4)).block < W.heap.size ∧ W.cell? (ad.add (i * 4)) = some (.int .u64 (y.calls : Nat)) ∧ W.cell? ⟨(ad.add (i * 4)).block, (ad.add (i * 4)).off + 1, none⟩ = some (.int .u16 (y.root : Nat)) ∧ W.cell? ⟨(ad.add (i * 4)).block, (ad.add (i * 4)).off + 2, none⟩ = some (.int .u16 (y.table : Nat)) ∧
        W.cell? ⟨(ad.add (i * 4)).block, (ad.add (i * 4)).off + 3, none⟩ = some y.v ∧ Fu.Sw W W.heap.size y.v y.xs ∧ y.calls < 18446744073709551616 ∧ y.root < 65536 ∧ y.table < 65536 := fun i hlt => by
      obtain ⟨cs, hc, ht⟩ := hi i (by rw [hm]; split <;> omega)
      rw [lcells52] at hc
      exact some_ty hc ht
    obtain ⟨l, rfl, hx⟩ := pick len key
    refine ⟨some ad, l, cap, rfl, by omega, fun i x hi => ?_⟩
    exact ⟨ad, rfl, hx i x hi⟩
theorem okWide_array {P : Program} {w : World} {r : Reach} {base n : Nat} {t e : TypeId} {v : Value} (ht : P.underlying t = some (.array n e)) (h : Value.okWide P w r base t v) : ∃ cs, v = .agg cs ∧ cs.size = P.cellsOf t := by
  simp only [Value.okWide, ht] at h
  obtain ⟨cs, h1, h2, _⟩ := h
  exact ⟨cs, h1, h2⟩
/-- Two texts in an array, by what their cells say. -/
theorem two_in {c0 c1 : Value} {n : Nat} {x : DataW H × List MemPlace} {sp : Nat → Bool} {hd : Bool} (hf : DataW.trod enc Tryz.prog W 0 sp hd n 22 [c0, c1] = some x) : ∃ a b : ByteArray, c0 = .string a ∧ c1 = .string b := by
  obtain ⟨xs, m, _, _, hlen, hxl, he⟩ := DataW.trod_array Tryz.underlying22 hf
  match xs, hxl with
  | [y0, y1], _ =>
    have f0 := he 0 (by decide)
    have f1 := he 1 (by decide)
    simp [lcells9] at f0 f1
    obtain ⟨a, ha, _, wa⟩ := DataW.trod_string Tryz.underlying9 f0
    obtain ⟨b, hb, _, wb⟩ := DataW.trod_string Tryz.underlying9 f1
    injection ha with ha; injection hb with hb
    exact ⟨a, b, ha, hb⟩
/-- A setup that comes in. -/
theorem setup_of {v : Value} {d : DataW H} {ps : List MemPlace} {sp : Nat → Bool} {hd : Bool} {r : Reach} {b0 : Nat} (hval : Value.okWide Tryz.prog W r b0 25 v) (h : DataW.Trod enc Tryz.prog W 0 sp hd 25 v d ps) :
    ∃ (m : Nat) (s0 s1 : ByteArray) (z : Int) (u : Value) (xs : List Int), v = .agg #[.int .u8 (m : Nat), .string s0, .string s1, .int .i64 z, u] ∧ m < 256 ∧ (Lit.int .i64 z).wf = true ∧ Fu.Sw W W.heap.size u xs := by
  obtain ⟨cs, rfl, hsz⟩ := okWide_struct Tryz.underlying25 hval
  rw [lcells25] at hsz
  obtain ⟨fuel, h⟩ := h
  obtain ⟨xs, m, _, _, hlen, hxl, hf⟩ := DataW.trod_struct Tryz.underlying25 h
  obtain ⟨L, hL⟩ : ∃ L, L = cs.toList := ⟨_, rfl⟩
  have hLl : L.length = 5 := by rw [hL, Array.length_toList, hsz]
  have hcs : cs = L.toArray := by rw [hL]
  subst hcs
  match L, hLl with
  | [c0, c1, c2, c3, c4], _ =>
    match xs, hxl with
    | [y0, y1, y2, y3], _ =>
      have f0 := hf 0 _ rfl
      have f1 := hf 1 _ rfl
      have f2 := hf 2 _ rfl
      have f3 := hf 3 _ rfl
      simp [Value.cells, lcells3, lcells5, lcells22, lcells23] at f0 f1 f2 f3
      obtain ⟨q0, hq0, _, w0⟩ := DataW.trod_int Tryz.underlying5 f0
      obtain ⟨a, b, rfl, rfl⟩ := two_in f1
      obtain ⟨q2, hq2, _, w2⟩ := DataW.trod_int Tryz.underlying3 f2
      obtain ⟨zs, hz⟩ := ints_in f3
      obtain ⟨g, rfl, hg⟩ := wf_nat8 w0
      injection hq0 with hq0; injection hq2 with hq2
      subst hq0; subst hq2
      exact ⟨g, a, b, q2, c4, zs, rfl, hg, w2, hz⟩
end
end Go.Proofs.YtlidieffaaicaaaGreat
