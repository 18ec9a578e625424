/- How a law that touches nothing old meets its row: what its arguments say, what the listed families give, and a world in which the listed variables lie. Conditions: none beyond the row's. -/
import Derived.Test.YtnpgoahdemfkpaaDoorRows
import Derived.Test.YtnpgoahdemfkpaaDoorWalksF
import Derived.ProofKit
import Derived.OpenShut
import Derived.ShutString
import Derived.Carry
import Derived.ChangeSame
import Derived.Deep.Slices
import Derived.Deep.Fields
import Derived.LaidMore
import Derived.Stop.Joined
import Derived.Lib.LaidTab
import Derived.Lib.LaidU8
import Derived.Lay
namespace Go.Proofs.YtnpgoahdemfkpaaDoor
open Go.ChangeShapes Go.WideShapes Go.ChangeAt Go.RowKit Go.Deep Go.Path
set_option maxRecDepth 100000
theorem own : ownKnob Tryd.prog.godebug = none := by kernel_rfl
section
variable {H : Type} {enc : TypeId × Value → H}
theorem trodAll_carry {W W' : World} (hb : Below W.heap.size W W') {sp : Nat → Bool} : ∀ (ts : List TypeId) (vs : List Value) (ds : List (DataW H)) (ps : List MemPlace), (∀ t ∈ ts, Tryd.prog.readableRec t = true ∧ t < Tryd.prog.types.size) →
    (∀ p ∈ ps, p.block < W.heap.size ∧ sp p.block = true) → DataW.TrodAll enc Tryd.prog W 0 (fun _ => true) true ts vs ds ps → DataW.TrodAll enc Tryd.prog W' 0 sp true ts vs ds ps
  | [], vs, ds, ps, _, _, h => by
    obtain ⟨rfl, rfl, rfl⟩ := trodAll_nil h
    exact trodAll_mk0
  | t :: ts, vs, ds, ps, ht, hp, h => by
    obtain ⟨v, vs', d, ds', p, q, rfl, rfl, rfl, h1, h2⟩ := trodAll_cons h
    obtain ⟨hr, hs⟩ := ht t (List.mem_cons_self ..)
    refine trodAll_cons_mk (WideElems.Trod_stays (by kernel_rfl) hr hs h1 (fun x hx => hb.same (hp x (List.mem_append_left _ hx)).1) (fun x hx => (hp x (List.mem_append_left _ hx)).2)) ?_
    exact trodAll_carry hb ts vs' ds' q (fun t' h' => ht t' (List.mem_cons_of_mem _ h')) (fun x hx => hp x (List.mem_append_right _ hx)) h2
/-- A law that returned true, and touched nothing old. -/
theorem law_post {f : Func} {s : ChangeSpec} {apart fresh handsOn again : Bool} {W W' : World} {args : Array Value} {ds gs : List (DataW H)} {before : List MemPlace}
    (hW : DataW.Whole enc Tryd.prog f.params.toList s.vars apart W args.toList ds gs before) (hvars : s.vars = [])
    (hr : (s.fn H (ds ++ gs)).results = [.lit (.bool true)]) (ha : (s.fn H (ds ++ gs)).args = ds) (hv : (s.fn H (ds ++ gs)).vars = []) (hrt : f.resultTypes = #[4])
    (hread : ∀ t ∈ f.params.toList, Tryd.prog.readableRec t = true ∧ t < Tryd.prog.types.size) (hb : Below W.heap.size W W') :
    s.post enc Tryd.prog f apart fresh handsOn again W args (.bool true) W' := by
  have hlt : ∀ p ∈ before, p.block < W.heap.size := fun p hp => hW.lt p hp
  have hW' := hW
  obtain ⟨pa, pv, hA, hV, hps, hz, hn⟩ := hW
  rw [hvars] at hV
  obtain ⟨rfl, rfl⟩ := trodVars_none hV
  rw [List.append_nil] at hps
  subst hps
  have hargs : ∀ sp : Nat → Bool, (∀ p ∈ before, sp p.block = true) → DataW.TrodAll enc Tryd.prog W' 0 sp true f.params.toList args.toList (s.fn H (ds ++ [])).args before := fun sp hs => by
    rw [ha]
    exact trodAll_carry hb _ _ _ _ hread (fun p hp => ⟨hlt p hp, hs p hp⟩) hA
  have hres : ∀ (b : Nat) (sp : Nat → Bool) (hd : Bool), DataW.TrodAll enc Tryd.prog W' b sp hd f.resultTypes.toList ((Value.bool true).resultList f.resultTypes.size) (s.fn H (ds ++ [])).results [] := fun b sp hd => by
    rw [hr, hrt]
    exact trodAll_cons_mk (shut_bool Tryd.underlying4 _) trodAll_mk0
  have hvs : ∀ sp : Nat → Bool, DataW.TrodVars enc Tryd.prog W' sp s.vars (s.fn H (ds ++ [])).vars [] := fun sp => by
    rw [hvars, hv]; rfl
  refine ⟨ds, [], before, [], before, [], hW', hres _ _ _, hargs _ (fun p hp => by simpa using hlt p hp), hvs _, World.keptBut_mono (fun p hp => ⟨hp, .inr (by simpa using hp)⟩) (hb.frame (· ∈ before)), fun _ => ?_⟩
  refine ⟨?_, _, _, ([] ++ before) ++ [], ⟨[] ++ before, [], trodAll_append (hargs _ (fun _ _ => rfl)) (hres _ _ _), hvs _, rfl, ?_, ?_⟩, ?_⟩
  · exact ok_one hrt rfl (okWide_bool_mk Tryd.underlying4 _)
  · intro b off hp
    have hin : MemPlace.cell b off ∈ before := by simpa using hp
    rw [hb.frozen (hlt _ hin)]
    exact hz b off hin
  · intro h
    simpa using hn h
  · intro p hp _
    simpa using hp
theorem reads_of (ts : List TypeId) (h : (ts.all fun t => Tryd.prog.readableRec t && decide (t < Tryd.prog.types.size)) = true) : ∀ t ∈ ts, Tryd.prog.readableRec t = true ∧ t < Tryd.prog.types.size := fun t ht => by
  simpa using List.all_eq_true.1 h t ht
theorem add_zero (p : Addr) : p.add 0 = p := by unfold Addr.add; simp
theorem add_succ (p : Addr) (k : Nat) : p.add (k + 1) = ⟨p.block, p.off + (k + 1), none⟩ := by unfold Addr.add; simp
theorem lt_of_cell {w : World} {p : Addr} {v : Value} (h : w.cell? p = some v) : p.block < w.heap.size := World.block_lt_of_cell? w p h
theorem cells9 : Tryd.prog.cellsOf 9 = 1 := by kernel_rfl
variable {W : World} {base : Nat}
theorem pick {α : Type} {P : Nat → α → Prop} : ∀ n : Nat, (∀ i, i < n → ∃ y, P i y) → ∃ xs : List α, xs.length = n ∧ ∀ i x, xs[i]? = some x → P i x
  | 0, _ => ⟨[], rfl, fun i x h => by simp at h⟩
  | n + 1, h => by
    obtain ⟨xs, hl, hx⟩ := pick n fun i hi => h i (by omega)
    obtain ⟨y, hy⟩ := h n (by omega)
    refine ⟨xs ++ [y], by simp [hl], fun i x hi => ?_⟩
    by_cases e : i < n
    · rw [List.getElem?_append_left (by omega)] at hi
      exact hx i x hi
    · have hlt := (List.getElem?_eq_some_iff.1 hi).1
      rw [List.length_append, List.length_singleton] at hlt
      obtain rfl : i = n := by omega
      rw [List.getElem?_append_right (by omega), hl, Nat.sub_self] at hi
      simp at hi
      rw [← hi]; exact hy
theorem plain_of {w : World} {p : Addr} {v : Value} (h : w.cell? p = some v) : p = ⟨p.block, p.off, none⟩ := by
  obtain ⟨b, o, s⟩ := p
  unfold World.cell? at h
  split at h
  · split at h
    · cases h
    · next hs => cases s
                 · rfl
                 · simp at hs
  · cases h
theorem names_of {v : Value} {d : DataW H} {ps : List MemPlace} {sp : Nat → Bool} {hd : Bool} {r : Reach} {b0 : Nat} (hval : Value.okWide Tryd.prog W r b0 22 v) (h : DataW.Trod enc Tryd.prog W 0 sp hd 22 v d ps) :
    ∃ (A : Option Addr) (xs : List B) (cap : Nat), v = .slice A xs.length cap ∧ xs.length ≤ maxLen ∧ xs.length ≤ cap ∧ (∀ x ∈ xs, x.length ≤ maxLen) ∧ Rs W A xs := by
  obtain ⟨a, len, cap, rfl⟩ := okWide_slice Tryd.underlying22 hval
  obtain ⟨fuel, hf⟩ := h
  rcases open_slice Tryd.underlying22 hf with ⟨hcs, _⟩ | ⟨ad, len', cap', m, n, D, Pl, hcs, _, hl, hcap, hm, _, hi⟩
  · simp [Value.cells] at hcs
    obtain ⟨rfl, rfl, rfl⟩ := hcs
    exact ⟨none, [], 0, rfl, by simp, by simp, by simp, Rs.nil⟩
  · simp [Value.cells] at hcs
    obtain ⟨rfl, rfl, rfl⟩ := hcs
    have hle : len ≤ m := by rw [hm]; split <;> omega
    have key : ∀ i, i < len → ∃ y : B, y.length ≤ maxLen ∧ (ad.add i).block < W.heap.size ∧ W.cell? (ad.add i) = some (.string (bs y)) := fun i hlt => by
      obtain ⟨cs, hc, ht⟩ := hi i (by omega)
      rw [cells9, Nat.mul_one] at hc
      obtain ⟨s, rfl, _, ws⟩ := DataW.trod_string Tryd.underlying9 ht
      obtain ⟨_, _, hat⟩ := World.cells?_some hc
      have a0 := hat 0 (by omega)
      rw [add_zero] at a0
      exact ⟨s.data.toList, by rw [← Lib.size_eq]; exact ws, lt_of_cell a0, by rw [bs_of]; exact a0⟩
    obtain ⟨xs, rfl, hx⟩ := pick len key
    refine ⟨some ad, xs, cap, rfl, by omega, by omega, fun x hx' => ?_, ?_⟩
    · obtain ⟨i, hi⟩ := List.getElem?_of_mem hx'
      exact (hx i x hi).1
    · rcases xs with _ | ⟨y, r⟩
      · exact Rs.nil
      · have h0 := (hx 0 y rfl).2
        rw [add_zero] at h0
        have hp := plain_of h0.2
        refine .inr ⟨ad.block, ad.off, by rw [← hp], h0.1, fun i x hi => ?_⟩
        have := (hx i x hi).2.2
        rcases i with _ | i
        · rw [add_zero, hp] at this; exact this
        · rw [add_succ] at this; exact this
end
def laid4 : List (String × DataW Unit) := [("unicode/utf8.acceptRanges", Rows.laid_unicode_utf8_acceptRanges), ("rillbed/key.metaKeys", Rows.laid_rillbed_key_metaKeys), ("rillbed/key.blockKeys", Rows.laid_rillbed_key_blockKeys), ("unicode/utf8.first", Rows.laid_unicode_utf8_first)]
theorem laid_met (os : Os) (args : Array Value) : laidMetH Tryd.prog laid4 ((World.laidAll Tryd.prog os laid4).forCall (fun _ _ => 0) ⟨#[], args, []⟩).memory := by
  rw [MakeChecks.laidMetH_plain _ _ _ (by kernel_rfl)]
  exact laidMet_laidAll _ (by kernel_rfl) (by kernel_rfl)
theorem g0 : Tryd.prog.globalNamed "rillbed/key.metaKeys" = some 0 := by kernel_rfl
theorem g1 : Tryd.prog.globalNamed "rillbed/key.blockKeys" = some 1 := by kernel_rfl
theorem tg0 : (Tryd.prog.globals[0]?).map (·.type) = some 57 := by kernel_rfl
theorem tg1 : (Tryd.prog.globals[1]?).map (·.type) = some 57 := by kernel_rfl
theorem cells57 : Tryd.prog.cellsOf 57 = 2 := by kernel_rfl
theorem fam_of {W : World} {name : String} {g : Nat} {p q : UInt8} (hg : Tryd.prog.globalNamed name = some g) (ht : (Tryd.prog.globals[g]?).map (·.type) = some 57) (h : Lib.VarReads Tryd.prog W name (.agg [.lit (.string [p]), .lit (.string [q])])) :
    W.cell? ⟨g, 0, none⟩ = some (.string ⟨#[p]⟩) ∧ W.cell? ⟨g, 1, none⟩ = some (.string ⟨#[q]⟩) := by
  obtain ⟨g', t, cs, fuel, ps, hg', ht', hv, hd⟩ := h
  obtain rfl := Option.some.inj (hg.symm.trans hg')
  obtain rfl := Option.some.inj (ht.symm.trans ht')
  obtain ⟨xs, m, _, hx, hlen, hxl, hf⟩ := DataW.trod_struct Tryd.underlying57 hd
  rw [cells57] at hlen
  obtain ⟨L, hL⟩ : ∃ L, L = cs.toList := ⟨_, rfl⟩
  rw [← hL] at hlen hf
  have key : L = [.string ⟨#[p]⟩, .string ⟨#[q]⟩] := by
    match L, hlen with
    | [c0, c1], _ =>
      match xs, hxl with
      | [y0, y1], _ =>
        have f0 := hf 0 _ rfl
        have f1 := hf 1 _ rfl
        simp [cells9] at f0 f1
        obtain ⟨s0, hs0, hx0, _⟩ := DataW.trod_string Tryd.underlying9 f0
        obtain ⟨s1, hs1, hx1, _⟩ := DataW.trod_string Tryd.underlying9 f1
        rw [hx0, hx1] at hx
        simp at hx
        injection hs0 with hs0; injection hs1 with hs1
        rw [hs0, hs1]
        have e0 : s0 = ⟨#[p]⟩ := by rw [← bs_of s0, ← hx.1.1]; rfl
        have e1 : s1 = ⟨#[q]⟩ := by rw [← bs_of s1, ← hx.1.2]; rfl
        rw [e0, e1]
  have h0 := World.var?_cell hg hv 0
  have h1 := World.var?_cell hg hv 1
  rw [← Array.getElem?_toList, ← hL, key] at h0 h1
  exact ⟨h0, h1⟩
theorem laid_of {W : World} (h : laidMetH Tryd.prog laid4 W) : Laid W := by
  rw [MakeChecks.laidMetH_plain _ _ _ (by kernel_rfl)] at h
  have a := fam_of g0 tg0 (Lib.laidMet.reads h (n := "rillbed/key.metaKeys") (d := Rows.laid_rillbed_key_metaKeys) (by simp [laid4]))
  have b := fam_of g1 tg1 (Lib.laidMet.reads h (n := "rillbed/key.blockKeys") (d := Rows.laid_rillbed_key_blockKeys) (by simp [laid4]))
  refine ⟨a, b, ?_⟩
  apply Nat.lt_of_not_le
  intro hle
  have hn : W.heap[1]? = none := Array.getElem?_eq_none (by omega)
  have := b.1
  simp [World.cell?, hn] at this
theorem wf_i64 {x : Int} (h : (Lit.int .i64 x).wf = true) : -9223372036854775808 ≤ x ∧ x ≤ 9223372036854775807 := by
  simpa [Lit.wf, IntKind.min, IntKind.max, IntKind.bits, IntKind.signed] using h
end Go.Proofs.YtnpgoahdemfkpaaDoor
