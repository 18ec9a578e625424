/- isMade, find, Refs, Sure, Free, Waiting; slices of numbers, slices.Clone, Chain. Conditions: none. -/
import Derived.Test.YtnpjbddannkgfaaAlA
import Derived.Test.YtnpjbddannkgfaaShelfS
namespace Go.Proofs.Ytnpjbddannkgfaa
open Go.ChangeShapes Go.WideShapes Go.RowKit Go.Maps Go.Spans Go.Alloc
set_option maxRecDepth 100000
theorem below_alloc {a b : World} (h : Below a.heap.size a b) (o : Obj) : Below a.heap.size a (b.alloc o) := h.alloc h.size o
/-- A slice of numbers. -/
def Sl (w : World) (v : Value) (xs : List Int) : Prop :=
  ∃ a c, v = .slice a xs.length c ∧ ∀ j x, xs[j]? = some x → ∃ ad, a = some ad ∧ w.cell? (ad.add j) = some (.int .i64 x)
/-- Numbers as cells. -/
abbrev zs (l : List Int) : List Value := l.map (Value.int .i64)
/-- .. that are not below 0. -/
abbrev nz (l : List Nat) : List Int := l.map fun k => ((k : Nat) : Int)
theorem ints_zs (l : List Nat) : ints l = zs (nz l) := by simp [ints, zs, nz]
theorem add_at (g o j : Nat) : (⟨g, o, none⟩ : Addr).add j = ⟨g, o + j, none⟩ := by unfold Addr.add; split <;> simp_all
theorem own_sl {w : World} {base : Nat} {v : Value} {xs : List Int} (h : w.ownsRow base 3 1 v xs.length (zs xs)) : Sl w v xs := by
  obtain ⟨_, ⟨h1, h2⟩ | ⟨g, cap, cur, h1, h2, h3, h4, h5, h6, h7⟩⟩ := h
  · subst h1
    have := List.eq_nil_of_length_eq_zero h2
    subst this
    exact ⟨none, 0, rfl, fun j x hj => by simp at hj⟩
  · refine ⟨_, cap, h1, fun j x hj => ⟨_, rfl, ?_⟩⟩
    rw [add_at, cell_of_row w g (0 + j) cur 3 (0, 0) h3]
    have hjl := (List.getElem?_eq_some_iff.1 hj).1
    have : (List.take (xs.length * 1) cur.toList)[j]? = some (.int .i64 x) := by rw [h7, List.getElem?_map, hj]; rfl
    rw [List.getElem?_take, if_pos (by omega)] at this
    rw [Nat.zero_add]
    simpa using this
theorem In.sl {w : World} {v : Value} {l : List Nat} (h : In w v l) : Sl w v (nz l) := by
  have : w.ownsRow 0 3 1 v (nz l).length (zs (nz l)) := by rw [← ints_zs]; simpa [nz] using h
  exact own_sl this
theorem Sl.below {w w' : World} {v : Value} {xs : List Int} (h : Sl w v xs) (hb : Below w.heap.size w w') : Sl w' v xs := by
  obtain ⟨a, c, rfl, hx⟩ := h
  refine ⟨a, c, rfl, fun j x hj => ?_⟩
  obtain ⟨ad, e, hc⟩ := hx j x hj
  refine ⟨ad, e, ?_⟩
  have hlt := World.block_lt_of_cell? w _ hc
  rw [← hc]
  exact World.cell?_of_block (w := w) (hb.block _ hlt)
theorem low_row {w : World} {b b' e size n : Nat} {v : Value} {cs : List Value} (h : w.ownsRow b e size v n cs) (hb : b' ≤ b) : w.ownsRow b' e size v n cs := by
  obtain ⟨h0, h | ⟨g, cap, cur, h1, h2, h3⟩⟩ := h
  · exact ⟨h0, .inl h⟩
  · exact ⟨h0, .inr ⟨g, cap, cur, h1, by omega, h3⟩⟩
theorem clone_any {w : World} {v : Value} {xs : List Int} (h : Sl w v xs) (hl : xs.length ≤ 8192) : Calls Try.prog 36 #[v] w fun e w' => ∃ v', e = .returned v' ∧ w'.ownsRow w.heap.size 3 1 v' xs.length (zs xs) ∧ Below w.heap.size w w' := by
  obtain ⟨a, cp, rfl, hx⟩ := h
  cases a with
  | none =>
    cases xs with
    | nil =>
      refine (Any.slices_Clone_int_nil Try.clone36 0 cp w).mono ?_
      rintro e w' ⟨rfl, rfl⟩
      exact ⟨_, rfl, ⟨rfl, .inl ⟨rfl, rfl⟩⟩, Below.refl _ _⟩
    | cons x l => obtain ⟨ad, e, _⟩ := hx 0 x rfl; cases e
  | some ad =>
    obtain ⟨g, off, spot⟩ := ad
    cases xs with
    | nil =>
      refine (Any.slices_Clone_int_zero Try.clone36 ⟨g, off, spot⟩ cp w).mono ?_
      rintro e w' ⟨v', rfl, hown, hne, hb⟩
      exact ⟨_, rfl, hown, hb⟩
    | cons x l =>
      obtain ⟨ad0, e0, hc⟩ := hx 0 x rfl
      injection e0 with e0
      subst e0
      have hs : spot = none := by
        cases spot with
        | none => rfl
        | some y => exfalso; unfold World.cell? at hc; simp [Addr.add] at hc; split at hc <;> simp at hc
      subst hs
      refine (Any.slices_Clone_int Try.clone36 g off (x :: l).length cp (x :: l) w (Nat.le_refl _) (by omega) (fun j hj => ?_)).mono ?_
      · obtain ⟨ad, e, hc⟩ := hx j _ (List.getElem?_eq_getElem hj)
        injection e with e
        subst e
        rw [add_at] at hc
        rw [hc, List.getD, List.getElem?_eq_getElem hj]
        rfl
      · rintro e w' ⟨v', rfl, hown, hne, hb⟩
        refine ⟨_, rfl, ?_, hb⟩
        have e1 : (List.take (x :: l).length (x :: l)) = x :: l := List.take_length
        simp only [List.take_length] at hown
        exact hown
/-- One that neither New nor Load made. -/
def No (w : World) (v : Value) : Prop := v = .pointer none ∨ ∃ A, v = .pointer (some ⟨A, 0, none⟩) ∧ Is w A 61 #[.pointer none, .map none, .map none]
theorem isMade_nil' (w : World) : Calls Try.prog 33 #[.pointer none] w fun e w' => e = .returned (.bool false) ∧ w = w' := by
  go_enter Try.func33, Try.ntmps33
  go_wp2
  go_ret
  exact ⟨rfl, rfl⟩
theorem made_no {w : World} {v : Value} (h : No w v) : Calls Try.prog 33 #[v] w fun e w' => e = .returned (.bool false) ∧ w = w' := by
  rcases h with rfl | ⟨A, rfl, h⟩
  · exact isMade_nil' w
  · have c0 := h.cell 0
    simp at c0
    clear h
    go_enter Try.func33, Try.ntmps33
    go_wp2
    go_ret
    exact ⟨rfl, rfl⟩
section
variable {w : World} {A S : Nat} {v : Value} {bc bw n : Nat} {xs : List Sp} {L : List Ch} {W : List Nat}
theorem made_yes (h : Am w A S v bc bw n xs L W) : Calls Try.prog 33 #[.pointer (some ⟨A, 0, none⟩)] w fun e w' => e = .returned (.bool true) ∧ w = w' := by
  have c0 := h.one.cell 0
  simp at c0
  clear h
  go_enter Try.func33, Try.ntmps33
  go_wp2
  go_ret
  exact ⟨rfl, rfl⟩
/-- What find tells. -/
def Fd (w : World) (v : Value) (p : Int) (P : Option Addr) (n c : Nat) (r : Int) (s : Bool) (E : Int) : Prop :=
  Calls Try.prog 52 #[v, .int .i64 p] w fun e w' => e = .returned (.tuple #[.agg #[.slice P n c, .int .i64 r, .bool s], .int .i64 E]) ∧ Below w.heap.size w w'
theorem find_no {v : Value} (h : No w v) (p : Int) : Fd w v p none 0 0 0 false 1 := by
  have hm : Calls Try.prog 33 #[v] (w.alloc (.cells #[.slice none 0 0, .int .i64 0, .bool false] 78)) fun e w' => e = .returned (.bool false) ∧ w.alloc (.cells #[.slice none 0 0, .int .i64 0, .bool false] 78) = w' := by
    refine made_no ?_
    rcases h with rfl | ⟨A, rfl, h⟩
    · exact .inl rfl
    · exact .inr ⟨A, rfl, h.alloc _⟩
  clear h
  unfold Fd
  go_enter Try.func52, Try.ntmps52
  go_wp2_with (go_at_call 33; refine hm.mono ?_; rintro e w' ⟨rfl, rfl⟩)
  exact bodyPost_ret (v := .tuple #[.agg #[.slice none 0 0, .int .i64 0, .bool false], .int .i64 1]) (by simp [results, Try.results52, go_sem]) rfl ⟨rfl, below_alloc (Below.refl _ w) _⟩
theorem zero78 (w : World) : (zeroValue 78).run Try.prog w = .ok (.agg #[.slice none 0 0, .int .i64 0, .bool false]) w := by rfl
theorem look {w : World} {k : Nat} {D : DataW Unit} (ho : w.ownsMap Try.prog 3 RC bc k D) (p : Int) (h1 : -9223372036854775808 ≤ p) (h2 : p ≤ 9223372036854775807) :
    ∃ x : Cn, (Instr.lookup 58 (.map (some bc)) (.int .i64 p) true).run Try.prog w = .ok (.tuple #[x.v, .bool (Maps.has D (ky p))]) w ∧ x.d = D.atKey (ky p) (Cn.d ⟨none, 0, 0, 0, false⟩) := by
  obtain ⟨v, ps, hrun, hv⟩ := ho.look_ok law Try.underlying58 (zero78 w) (RC_mk ⟨none, 0, 0, 0, false⟩) (kof p h1 h2)
  obtain ⟨x, rfl, e⟩ := RC_inv hv
  injection e with e _
  exact ⟨x, hrun, e.symm⟩
theorem find_none (h : Am w A S v bc bw n xs L W) (p : Int) (h1 : -9223372036854775808 ≤ p) (h2 : p ≤ 9223372036854775807) (hp : findC L p = none) : Fd w (.pointer (some ⟨A, 0, none⟩)) p none 0 0 0 false 5 := by
  have hA := h.below (below_alloc (Below.refl _ w) (.cells #[.slice none 0 0, .int .i64 0, .bool false] 78))
  have hm := made_yes hA
  have c1 := hA.one.cell 1
  simp at c1
  obtain ⟨k, D, ho, hD⟩ := hA.ch
  obtain ⟨x, hrun, hx⟩ := look ho p h1 h2
  have hh : Maps.has D (ky p) = false := by
    cases hk : Maps.has D (ky p) with
    | false => rfl
    | true =>
      obtain ⟨c, hc, e⟩ := hD.keys _ hk
      injection e with _ e
      exact absurd e.symm (findC_none.1 hp c hc)
  rw [hh] at hrun
  obtain ⟨P, N, C, r, s⟩ := x
  simp only [Cn.v, Cn.sl] at hrun
  generalize (P.map fun g => (⟨g, 0, none⟩ : Addr)) = P' at hrun
  clear h hA ho hD hx hh hp
  unfold Fd
  go_enter Try.func52, Try.ntmps52
  go_wp2_with (go_at_call 33; refine hm.mono ?_; rintro e w' ⟨rfl, rfl⟩)
  have hb := below_alloc (below_alloc (Below.refl _ w) (.cells #[.slice none 0 0, .int .i64 0, .bool false] 78)) (.cells #[.slice P' N C, .int .i64 r, .bool s] 78)
  exact bodyPost_ret (v := .tuple #[.agg #[.slice none 0 0, .int .i64 0, .bool false], .int .i64 5]) (by simp [results, Try.results52, go_sem]) rfl ⟨rfl, hb⟩
theorem find_some (h : Am w A S v bc bw n xs L W) {c : Ch} (hc : c ∈ L) (hn : c.place ≤ 4096) : ∃ P N C, In w (.slice P N C) c.secs ∧ Fd w (.pointer (some ⟨A, 0, none⟩)) (c.place : Nat) P N C (c.refs : Nat) c.sure 0 := by
  have hA := h.below (below_alloc (Below.refl _ w) (.cells #[.slice none 0 0, .int .i64 0, .bool false] 78))
  have hm := made_yes hA
  have c1 := hA.one.cell 1
  simp at c1
  obtain ⟨k, D, ho, hD⟩ := h.ch
  obtain ⟨x, hrun, hx⟩ := look (ho.alloc (.cells #[.slice none 0 0, .int .i64 0, .bool false] 78)) (c.place : Nat) (by omega) (by omega)
  obtain ⟨y, hy, hf⟩ := hD.at' c hc
  rw [hy] at hx
  have e := Cn.d_inj hx
  subst e
  rw [has_true_of_atKey hy] at hrun
  obtain ⟨q, N, C, r, s⟩ := x
  obtain ⟨hr, hs, hrow⟩ := hf
  simp only at hr hs
  subst hr hs
  simp only [Cn.v, Cn.sl] at hrun hrow
  generalize (q.map fun g => (⟨g, 0, none⟩ : Addr)) = P at hrun hrow
  refine ⟨P, N, C, hrow, ?_⟩
  obtain ⟨p, ep⟩ : ∃ p : Int, ((c.place : Nat) : Int) = p := ⟨_, rfl⟩
  obtain ⟨r, er⟩ : ∃ r : Int, ((c.refs : Nat) : Int) = r := ⟨_, rfl⟩
  obtain ⟨s, es⟩ : ∃ s, c.sure = s := ⟨_, rfl⟩
  rw [ep, er, es] at hrun ⊢
  clear h hA ho hD hx hy hrow hc hn ep er es
  unfold Fd
  go_enter Try.func52, Try.ntmps52
  go_wp2_with (go_at_call 33; refine hm.mono ?_; rintro e w' ⟨rfl, rfl⟩)
  have hb := below_alloc (below_alloc (Below.refl _ w) (.cells #[.slice P N C, .int .i64 r, .bool s] 78)) (.cells #[.slice P N C, .int .i64 r, .bool s] 78)
  exact bodyPost_ret (v := .tuple #[.agg #[.slice P N C, .int .i64 r, .bool s], .int .i64 0]) (by simp [results, Try.results52, go_sem]) rfl ⟨rfl, hb⟩
theorem refs_of {v : Value} {p : Int} {P : Option Addr} {n c : Nat} {r : Int} {s : Bool} {E : Int} (hf : Fd w v p P n c r s E) : Calls Try.prog 22 #[v, .int .i64 p] w fun e w' => e = .returned (.int .i64 r) ∧ Below w.heap.size w w' := by
  unfold Fd at hf
  go_enter Try.func22, Try.ntmps22
  go_wp2_with (go_at_call 52; refine hf.mono ?_; rintro e w' ⟨rfl, hb⟩)
  go_ret
  exact ⟨rfl, below_alloc hb _⟩
theorem sure_of {v : Value} {p : Int} {P : Option Addr} {n c : Nat} {r : Int} {s : Bool} {E : Int} (hf : Fd w v p P n c r s E) : Calls Try.prog 25 #[v, .int .i64 p] w fun e w' => e = .returned (.bool s) ∧ Below w.heap.size w w' := by
  unfold Fd at hf
  go_enter Try.func25, Try.ntmps25
  go_wp2_with (go_at_call 52; refine hf.mono ?_; rintro e w' ⟨rfl, hb⟩)
  go_ret
  exact ⟨rfl, below_alloc hb _⟩
theorem chain_of {v : Value} {p : Int} {P : Option Addr} {n c : Nat} {r : Int} {s : Bool} {E : Int} (hf : Fd w v p P n c r s E) {l : List Int} (hl : Sl w (.slice P n c) l) (hln : l.length ≤ 8192) :
    Calls Try.prog 28 #[v, .int .i64 p] w fun e w' => ∃ v', e = .returned v' ∧ w'.ownsRow w.heap.size 3 1 v' l.length (zs l) ∧ Below w.heap.size w w' := by
  unfold Fd at hf
  have HL := Lib.hid hl
  clear hl
  go_enter Try.func28, Try.ntmps28
  go_wp2_with (first
    | (go_at_call 52; refine hf.mono ?_; rintro e w' ⟨rfl, hb⟩)
    | (go_at_call 36; refine (clone_any (HL.out.below (below_alloc hb _)) hln).mono ?_; rintro e w2 ⟨v', rfl, hr, hb2⟩))
  go_ret
  have hb1 := below_alloc hb (.cells #[.slice P n c, .int .i64 r, .bool s] 78)
  exact ⟨v', rfl, low_row hr hb1.size, hb1.trans (hb2.mono hb1.size)⟩
theorem free_no {v : Value} (h : No w v) : Calls Try.prog 24 #[v] w fun e w' => e = .returned (.int .i64 0) ∧ w = w' := by
  have hm := made_no h
  clear h
  go_enter Try.func24, Try.ntmps24
  go_wp2_with (go_at_call 33; refine hm.mono ?_; rintro e w' ⟨rfl, rfl⟩)
  go_ret
  exact ⟨rfl, rfl⟩
theorem waiting_no {v : Value} (h : No w v) : Calls Try.prog 27 #[v] w fun e w' => e = .returned (.int .i64 0) ∧ w = w' := by
  have hm := made_no h
  clear h
  go_enter Try.func27, Try.ntmps27
  go_wp2_with (go_at_call 33; refine hm.mono ?_; rintro e w' ⟨rfl, rfl⟩)
  go_ret
  exact ⟨rfl, rfl⟩
theorem list_no {v : Value} (h : No w v) : Calls Try.prog 12 #[v] w fun e w' => e = .returned (.slice none 0 0) ∧ w = w' := by
  have hm := made_no h
  clear h
  go_enter Try.func12, Try.ntmps12
  go_wp2_with (go_at_call 33; refine hm.mono ?_; rintro e w' ⟨rfl, rfl⟩)
  go_ret
  exact ⟨rfl, rfl⟩
theorem commit_no {v : Value} (h : No w v) : Calls Try.prog 26 #[v] w fun e w' => e = .returned (.tuple #[]) ∧ w = w' := by
  have hm := made_no h
  clear h
  go_enter Try.func26, Try.ntmps26
  go_wp2_with (go_at_call 33; refine hm.mono ?_; rintro e w' ⟨rfl, rfl⟩)
  refine bodyPost_ret (results_none rfl _ _ _) rfl ?_
  exact ⟨rfl, rfl⟩
theorem alloc_no {v : Value} (h : No w v) (k : Int) : Calls Try.prog 20 #[v, .int .i64 k] w fun e w' => e = .returned (.tuple #[.slice none 0 0, .int .i64 1]) ∧ w = w' := by
  have hm := made_no h
  clear h
  go_enter Try.func20, Try.ntmps20
  go_wp2_with (go_at_call 33; refine hm.mono ?_; rintro e w' ⟨rfl, rfl⟩)
  go_ret2
  exact ⟨rfl, rfl⟩
theorem free_c (h : Am w A S v bc bw n xs L W) : Calls Try.prog 24 #[.pointer (some ⟨A, 0, none⟩)] w fun e w' => e = .returned (.int .i64 (cnt xs : Nat)) ∧ Below w.heap.size w w' := by
  have hm := made_yes h
  have hc := count_c h.set
  have c0 := h.one.cell 0
  simp at c0
  clear h
  go_enter Try.func24, Try.ntmps24
  go_wp2_with (first
    | (go_at_call 33; refine hm.mono ?_; rintro e w' ⟨rfl, rfl⟩)
    | (go_at_call 53; refine hc.mono ?_; rintro e w' ⟨rfl, hb⟩))
  go_ret
  exact ⟨rfl, hb⟩
theorem waiting_c (h : Am w A S v bc bw n xs L W) (hW : W.Nodup) : Calls Try.prog 27 #[.pointer (some ⟨A, 0, none⟩)] w fun e w' => e = .returned (.int .i64 (W.length : Nat)) ∧ w = w' := by
  have hm := made_yes h
  obtain ⟨k, D, ho, hD⟩ := h.wt
  have hl := fun ty => ho.len (t := 59) Try.underlying59 ty
  rw [size_of ho hW hD] at hl
  have c2 := h.one.cell 2
  simp at c2
  clear h ho hD hW
  go_enter Try.func27, Try.ntmps27
  go_wp2_with (go_at_call 33; refine hm.mono ?_; rintro e w' ⟨rfl, rfl⟩)
  go_ret
  exact ⟨rfl, rfl⟩
end
end Go.Proofs.Ytnpjbddannkgfaa
