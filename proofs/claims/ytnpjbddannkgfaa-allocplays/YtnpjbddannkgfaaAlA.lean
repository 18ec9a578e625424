/- Words for allocators in memory: the map of chains, the map of those that wait, the struct. Conditions: none. -/
import Derived.Test.YtnpjbddannkgfaaSpM
import Derived.Test.YtnpjbddannkgfaaSpK
import Derived.Test.YtnpjbddannkgfaaAlP
import Derived.Maps.RangeWalk
import Derived.Maps.OwnOps
import Derived.Maps.Ext
import Derived.Test.YtnpjbddannkgfaaShelfS
namespace Go.Proofs.Ytnpjbddannkgfaa
open Go.ChangeShapes Go.WideShapes Go.RowKit Go.Maps Go.Spans Go.Alloc
set_option maxRecDepth 100000
/-- A key. -/
abbrev ky (i : Int) : Lit := .int .i64 i
theorem ky_ne {i j : Int} (h : i ≠ j) : ky i ≠ ky j := by
  intro e
  injection e with _ e
  exact h e
theorem ky_is (i : Int) : WideAt.IsKeyLit (ky i) := trivial
theorem law : Keyed Try.prog 3 := int_keyed Try.underlying3
theorem kof (i : Int) (h0 : -9223372036854775808 ≤ i) (h : i ≤ 9223372036854775807) : keyOf Try.prog 3 (.int .i64 i) = some (ky i) := keyOf_int_mk Try.underlying3 (WalkArith.wf_i64 (by omega))
/-- A chain as the map has it. -/
structure Cn where
  p : Option Nat
  n : Nat
  c : Nat
  r : Int
  s : Bool
def Cn.sl (x : Cn) : Value := .slice (x.p.map fun g => ⟨g, 0, none⟩) x.n x.c
def Cn.v (x : Cn) : Value := .agg #[x.sl, .int .i64 x.r, .bool x.s]
def Cn.d (x : Cn) : DataW Unit := .agg [.lit (.int .i64 (match x.p with | none => -1 | some g => (g : Int))), .lit (.int .i64 x.n), .lit (.int .i64 x.c), .lit (.int .i64 x.r), .lit (.bool x.s)]
theorem Cn.d_inj {x y : Cn} (h : x.d = y.d) : x = y := by
  obtain ⟨p, n, c, r, s⟩ := x
  obtain ⟨p', n', c', r', s'⟩ := y
  simp only [Cn.d, DataW.agg.injEq, List.cons.injEq, DataW.lit.injEq, Lit.int.injEq, Lit.bool.injEq, true_and, and_true] at h
  obtain ⟨h1, h2, h3, h4, h5⟩ := h
  have e1 : p = p' := by
    cases p <;> cases p' <;> simp at h1 ⊢ <;> omega
  have e2 : n = n' := by omega
  have e3 : c = c' := by omega
  rw [e1, e2, e3, h4, h5]
theorem Cn.v_inj {x y : Cn} (h : x.v = y.v) : x = y := by
  obtain ⟨p, n, c, r, s⟩ := x
  obtain ⟨p', n', c', r', s'⟩ := y
  simp only [Cn.v, Cn.sl, Value.agg.injEq, Array.mk.injEq, List.cons.injEq, Value.slice.injEq, Value.int.injEq, Value.bool.injEq, true_and, and_true] at h
  obtain ⟨⟨h1, h2, h3⟩, h4, h5⟩ := h
  have e1 : p = p' := by
    cases p <;> cases p' <;> simp at h1 ⊢ <;> exact h1
  rw [e1, h2, h3, h4, h5]
open Classical in
/-- How a chain reads. -/
noncomputable def RC (v : Value) : Option (DataW Unit × List MemPlace) := if h : ∃ x : Cn, v = x.v then some (h.choose.d, []) else none
theorem RC_mk (x : Cn) : RC x.v = some (x.d, []) := by
  have hx : ∃ y : Cn, x.v = y.v := ⟨x, rfl⟩
  unfold RC
  rw [dif_pos hx, ← Cn.v_inj hx.choose_spec]
theorem RC_inv {v : Value} {y : DataW Unit × List MemPlace} (h : RC v = some y) : ∃ x : Cn, v = x.v ∧ y = (x.d, []) := by
  unfold RC at h
  split at h
  · rename_i hx
    injection h with h
    exact ⟨hx.choose, hx.choose_spec, h.symm⟩
  · cases h
/-- A slice of numbers of the call's own. -/
abbrev In (w : World) (v : Value) (l : List Nat) : Prop := w.ownsRow 0 3 1 v l.length (ints l)
theorem In.cn {w : World} {v : Value} {l : List Nat} (h : In w v l) (r : Int) (s : Bool) : ∃ x : Cn, Value.agg #[v, .int .i64 r, .bool s] = x.v ∧ x.sl = v ∧ x.r = r ∧ x.s = s := by
  rcases h.2 with ⟨h1, _⟩ | ⟨g, cap, cur, h1, _⟩
  · exact ⟨⟨none, 0, 0, r, s⟩, by subst h1; rfl, h1.symm, rfl, rfl⟩
  · exact ⟨⟨some g, l.length, cap, r, s⟩, by subst h1; rfl, h1.symm, rfl, rfl⟩
/-- No block of X is a row of numbers. -/
def NoI (w : World) (X : List Nat) : Prop := ∀ g ∈ X, ∀ cs, ¬ Is w g 3 cs
theorem noI_nil (w : World) : NoI w [] := fun _ h => by cases h
theorem NoI.of_is {w : World} {g : Nat} {t : TypeId} {cs : Array Value} (h : Is w g t cs) (ht : t ≠ 3) : ∀ cs', ¬ Is w g 3 cs' := fun _ h' => h.ne h' ht rfl
theorem NoI.of_map {w : World} {b n : Nat} {k : TypeId} {R : Value → Option (DataW Unit × List MemPlace)} {D : DataW Unit} (h : w.ownsMap Try.prog k R b n D) : ∀ cs t, ¬ Is w b t cs := by
  obtain ⟨es, clock, hb, _⟩ := h
  intro cs t h'
  unfold Is at h'
  rw [hb] at h'
  cases h'
theorem NoI.of_new {w : World} {g : Nat} (h : w.heap.size ≤ g) : ∀ cs, ¬ Is w g 3 cs := fun _ h' => by have := h'.lt; omega
theorem NoI.cons {w : World} {g : Nat} {X : List Nat} (h : ∀ cs, ¬ Is w g 3 cs) (k : NoI w X) : NoI w (g :: X) := fun x hx => by
  rcases List.mem_cons.1 hx with rfl | hx
  · exact h
  · exact k x hx
theorem In.kept {w w' : World} {v : Value} {l : List Nat} {X : List Nat} (h : In w v l) (hk : Kp w w' X) (hX : NoI w X) : In w' v l := by
  obtain ⟨h0, h⟩ := h
  refine ⟨h0, ?_⟩
  rcases h with h | ⟨g, cap, cur, h1, h2, h3, h4⟩
  · exact .inl h
  · exact .inr ⟨g, cap, cur, h1, h2, (hk.is (g := g) h3 (fun hm => hX g hm _ h3)), h4⟩
theorem map_kept {w w' : World} {b n : Nat} {k : TypeId} {R : Value → Option (DataW Unit × List MemPlace)} {D : DataW Unit} {X : List Nat} (ho : w.ownsMap Try.prog k R b n D) (h : Kp w w' X) (hX : b ∉ X) : w'.ownsMap Try.prog k R b n D := by
  have hlt := ho.lt
  obtain ⟨es, clock, hb, r⟩ := ho
  exact ⟨es, clock, (h.block b hlt hX).trans hb, r⟩
theorem tight {w : World} {b n : Nat} {R : Value → Option (DataW Unit × List MemPlace)} {D : DataW Unit} (h : w.ownsMap Try.prog 3 R b n D) : w.ownsMap Try.prog 3 R b (Maps.size D) D := by
  obtain ⟨es, clock, hb, F, hs, rfl⟩ := h
  exact ⟨es, clock, hb, F, by simp [Maps.size, length_sorted], rfl⟩
theorem owns_one {w : World} {b n n' : Nat} {R : Value → Option (DataW Unit × List MemPlace)} {D D' : DataW Unit} (h : w.ownsMap Try.prog 3 R b n D) (h' : w.ownsMap Try.prog 3 R b n' D') : D = D' := by
  obtain ⟨es, clock, hb, _, _, rfl⟩ := h
  obtain ⟨es', clock', hb', _, _, rfl⟩ := h'
  rw [hb] at hb'
  injection hb' with hb'
  injection hb' with e _
  rw [e]
theorem size_keys {D : DataW Unit} : (intKeys D).length = Maps.size D := by
  cases D <;> simp [intKeys, Maps.size]
/-- The keys of a map are just these numbers. -/
theorem keys_perm {w : World} {b k : Nat} {R : Value → Option (DataW Unit × List MemPlace)} {D : DataW Unit} (h : w.ownsMap Try.prog 3 R b k D) {l : List Nat} (hn : l.Nodup) (hk : ∀ kl, Maps.has D kl = true ↔ ∃ i ∈ l, kl = ky (i : Nat)) :
    (l.map fun i : Nat => (i : Int)).Perm (intKeys D) := by
  obtain ⟨es, rfl, hp, hi⟩ := h.entries law
  have hes : ∀ p ∈ es, ∃ i ∈ l, p.1 = ky (i : Nat) := fun p hp' => (hk p.1).1 (by
    rw [has_eq, List.any_eq_true]
    exact ⟨p, hp', WideAt.sameKey_self (hi p hp')⟩)
  refine perm_intKeys hp (fun p hp' => by obtain ⟨i, _, e⟩ := hes p hp'; exact ⟨_, e⟩) ?_ fun x => ?_
  · refine List.pairwise_map.2 (List.Pairwise.imp ?_ hn)
    intro a b hne e
    omega
  · rw [List.mem_map]
    constructor
    · rintro ⟨i, hi', rfl⟩
      exact (hk _).2 ⟨i, hi', rfl⟩
    · intro hx
      obtain ⟨i, hi', e⟩ := (hk _).1 hx
      injection e with _ e
      subst e
      exact ⟨i, hi', rfl⟩
theorem size_of {w : World} {b k : Nat} {R : Value → Option (DataW Unit × List MemPlace)} {D : DataW Unit} (h : w.ownsMap Try.prog 3 R b k D) {l : List Nat} (hn : l.Nodup) (hk : ∀ kl, Maps.has D kl = true ↔ ∃ i ∈ l, kl = ky (i : Nat)) : Maps.size D = l.length := by
  rw [← size_keys, ← (keys_perm h hn hk).length_eq, List.length_map]
/-- A chain, as the map has it. -/
structure Fits (w : World) (x : Cn) (c : Ch) : Prop where
  r : x.r = (c.refs : Nat)
  s : x.s = c.sure
  row : In w x.sl c.secs
/-- What the map of chains reads as. -/
structure MD (w : World) (D : DataW Unit) (L : List Ch) : Prop where
  keys : ∀ kl, Maps.has D kl = true → ∃ c ∈ L, kl = ky (c.place : Nat)
  at' : ∀ c ∈ L, ∃ x : Cn, (∀ z, D.atKey (ky (c.place : Nat)) z = x.d) ∧ Fits w x c
theorem MD.iff {w : World} {D : DataW Unit} {L : List Ch} (h : MD w D L) (kl : Lit) : Maps.has D kl = true ↔ ∃ i ∈ L.map Ch.place, kl = ky (i : Nat) := by
  constructor
  · intro hk
    obtain ⟨c, hc, e⟩ := h.keys kl hk
    exact ⟨c.place, List.mem_map.2 ⟨c, hc, rfl⟩, e⟩
  · rintro ⟨i, hi, rfl⟩
    obtain ⟨c, hc, rfl⟩ := List.mem_map.1 hi
    obtain ⟨x, hx, _⟩ := h.at' c hc
    exact has_true_of_atKey hx
theorem srt_nodup {L : List Ch} (h : Srt L) : (L.map Ch.place).Nodup := List.pairwise_map.2 (h.imp (fun h => Nat.ne_of_lt h))
theorem MD.kept {w w' : World} {D : DataW Unit} {L : List Ch} {X : List Nat} (h : MD w D L) (hk : Kp w w' X) (hX : NoI w X) : MD w' D L :=
  ⟨h.keys, fun c hc => by obtain ⟨x, h1, h2⟩ := h.at' c hc; exact ⟨x, h1, h2.r, h2.s, h2.row.kept hk hX⟩⟩
theorem MD.nil (w : World) : MD w (.map []) [] := ⟨fun _ h => (by cases h), fun _ h => (by cases h)⟩
theorem MD.put {w : World} {D : DataW Unit} {L M : List Ch} (h : MD w D L) (hm : IsMap D) {c : Ch} {x : Cn} (hf : Fits w x c) (hc : c ∈ M) (hM : ∀ y ∈ M, y = c ∨ (y ∈ L ∧ y.place ≠ c.place)) (hL : ∀ y ∈ L, y.place ≠ c.place → y ∈ M) :
    MD w (D.put (ky (c.place : Nat)) x.d) M := by
  refine ⟨fun kl hk => ?_, fun y hy => ?_⟩
  · by_cases e : kl = ky (c.place : Nat)
    · exact ⟨c, hc, e⟩
    · rw [has_put_other e] at hk
      obtain ⟨y, hy, rfl⟩ := h.keys kl hk
      exact ⟨y, hL y hy (fun e' => e (by rw [e'])), rfl⟩
  · rcases hM y hy with rfl | ⟨h1, h2⟩
    · exact ⟨x, fun z => atKey_put_same hm (ky_is _) _ z, hf⟩
    · obtain ⟨x', h3, h4⟩ := h.at' y h1
      exact ⟨x', fun z => by rw [atKey_put_other (ky_ne (by omega))]; exact h3 z, h4⟩
theorem MD.del {w : World} {D : DataW Unit} {L : List Ch} (h : MD w D L) (p : Int) : MD w (D.del (ky p)) (eraC L p) := by
  refine ⟨fun kl hk => ?_, fun y hy => ?_⟩
  · by_cases e : kl = ky p
    · rw [e, has_del_same] at hk; cases hk
    · rw [has_del_other e] at hk
      obtain ⟨y, hy, rfl⟩ := h.keys kl hk
      exact ⟨y, eraC_mem.2 ⟨hy, fun e' => e (by rw [e'])⟩, rfl⟩
  · obtain ⟨h1, h2⟩ := eraC_mem.1 hy
    obtain ⟨x', h3, h4⟩ := h.at' y h1
    exact ⟨x', fun z => by rw [atKey_del_other (ky_ne h2)]; exact h3 z, h4⟩
/-- The map of chains. -/
def MC (w : World) (bc : Nat) (L : List Ch) : Prop := ∃ k D, w.ownsMap Try.prog 3 RC bc k D ∧ MD w D L
/-- The map of those that wait. -/
def MT (w : World) (bw : Nat) (W : List Nat) : Prop := ∃ k D, w.ownsMap Try.prog 3 (unitElem (H := Unit)) bw k D ∧ ∀ kl, Maps.has D kl = true ↔ ∃ i ∈ W, kl = ky (i : Nat)
theorem MC.lt {w : World} {bc : Nat} {L : List Ch} (h : MC w bc L) : bc < w.heap.size := by obtain ⟨k, D, h, _⟩ := h; exact h.lt
theorem MT.lt {w : World} {bw : Nat} {W : List Nat} (h : MT w bw W) : bw < w.heap.size := by obtain ⟨k, D, h, _⟩ := h; exact h.lt
theorem MC.no {w : World} {bc : Nat} {L : List Ch} (h : MC w bc L) : ∀ cs t, ¬ Is w bc t cs := by obtain ⟨k, D, h, _⟩ := h; exact NoI.of_map h
theorem MT.no {w : World} {bw : Nat} {W : List Nat} (h : MT w bw W) : ∀ cs t, ¬ Is w bw t cs := by obtain ⟨k, D, h, _⟩ := h; exact NoI.of_map h
theorem MC.kept {w w' : World} {bc : Nat} {L : List Ch} {X : List Nat} (h : MC w bc L) (hk : Kp w w' X) (h1 : bc ∉ X) (hX : NoI w X) : MC w' bc L := by
  obtain ⟨k, D, h, h2⟩ := h
  exact ⟨k, D, map_kept h hk h1, h2.kept hk hX⟩
theorem MT.kept {w w' : World} {bw : Nat} {W : List Nat} {X : List Nat} (h : MT w bw W) (hk : Kp w w' X) (h1 : bw ∉ X) : MT w' bw W := by
  obtain ⟨k, D, h, h2⟩ := h
  exact ⟨k, D, map_kept h hk h1, h2⟩
/-- An allocator in memory: its struct's block, its set's, that one's list, its maps' blocks. -/
structure Am (w : World) (A S : Nat) (v : Value) (bc bw n : Nat) (xs : List Sp) (L : List Ch) (W : List Nat) : Prop where
  one : Is w A 61 #[.pointer (some ⟨S, 0, none⟩), .map (some bc), .map (some bw)]
  set : St w S v n xs
  ch : MC w bc L
  wt : MT w bw W
  ne : bc ≠ bw
/-- The blocks that its calls turn. -/
def bl (S : Nat) (v : Value) (bc bw : Nat) : List Nat := S :: bc :: bw :: ob v
section
variable {w w' : World} {A S : Nat} {v : Value} {bc bw n : Nat} {xs : List Sp} {L : List Ch} {W : List Nat}
theorem St.vs (h : St w S v n xs) : ∀ g ∈ ob v, ∃ cs, Is w g 101 cs := by
  intro g hg
  rcases h.row.cases with ⟨h1, _⟩ | ⟨g', cap, cur, h1, _, hi, _⟩
  · rw [h1] at hg; cases hg
  · rw [h1] at hg
    simp [ob, Value.ownBlock] at hg
    subst hg
    exact ⟨_, hi⟩
/-- A block that is of none of these types is none of them. -/
theorem Am.off (h : Am w A S v bc bw n xs L W) {g : Nat} {t : TypeId} {cs : Array Value} (hi : Is w g t cs) (h1 : t ≠ 99) (h2 : t ≠ 101) : g ∉ bl S v bc bw := by
  intro hm
  simp only [bl, List.mem_cons] at hm
  rcases hm with rfl | rfl | rfl | hm
  · exact hi.ne h.set.one h1 rfl
  · exact h.ch.no _ _ hi
  · exact h.wt.no _ _ hi
  · obtain ⟨cs', hv⟩ := h.set.vs g hm
    exact hi.ne hv h2 rfl
theorem Am.noI (h : Am w A S v bc bw n xs L W) : NoI w (bl S v bc bw) := fun _ hg _ hi => h.off hi (by decide) (by decide) hg
theorem Am.noS (h : Am w A S v bc bw n xs L W) : NoI w (S :: ob v) := fun g hg cs hi => h.noI g (by simp only [bl, List.mem_cons] at hg ⊢; rcases hg with rfl | hg; exact .inl rfl; exact .inr (.inr (.inr hg))) cs hi
theorem Am.cS (h : Am w A S v bc bw n xs L W) : bc ∉ S :: ob v := by
  intro hm
  rcases List.mem_cons.1 hm with rfl | hm
  · exact h.ch.no _ _ h.set.one
  · obtain ⟨cs', hv⟩ := h.set.vs _ hm
    exact h.ch.no _ _ hv
theorem Am.wS (h : Am w A S v bc bw n xs L W) : bw ∉ S :: ob v := by
  intro hm
  rcases List.mem_cons.1 hm with rfl | hm
  · exact h.wt.no _ _ h.set.one
  · obtain ⟨cs', hv⟩ := h.set.vs _ hm
    exact h.wt.no _ _ hv
theorem Am.aS (h : Am w A S v bc bw n xs L W) : A ∉ S :: ob v := by
  intro hm
  rcases List.mem_cons.1 hm with rfl | hm
  · exact h.one.ne h.set.one (by decide) rfl
  · obtain ⟨cs', hv⟩ := h.set.vs _ hm
    exact h.one.ne hv (by decide) rfl
theorem Am.ac (h : Am w A S v bc bw n xs L W) : A ≠ bc := by rintro rfl; exact h.ch.no _ _ h.one
theorem Am.aw (h : Am w A S v bc bw n xs L W) : A ≠ bw := by rintro rfl; exact h.wt.no _ _ h.one
theorem Am.sc (h : Am w A S v bc bw n xs L W) : S ≠ bc := by rintro rfl; exact h.ch.no _ _ h.set.one
theorem Am.sw (h : Am w A S v bc bw n xs L W) : S ≠ bw := by rintro rfl; exact h.wt.no _ _ h.set.one
theorem Am.vc (h : Am w A S v bc bw n xs L W) : bc ∉ ob v := fun hm => h.cS (by simp [hm])
theorem Am.vw (h : Am w A S v bc bw n xs L W) : bw ∉ ob v := fun hm => h.wS (by simp [hm])
theorem Am.below (h : Am w A S v bc bw n xs L W) (hb : Below w.heap.size w w') : Am w' A S v bc bw n xs L W :=
  have hk := Kp.of_below hb []
  ⟨hk.is h.one (by simp), h.set.below hb, h.ch.kept hk (by simp) (noI_nil w), h.wt.kept hk (by simp), h.ne⟩
theorem Am.lt (h : Am w A S v bc bw n xs L W) : A < w.heap.size := h.one.lt
/-- The set has become another one. -/
theorem Am.to {v' : Value} {ys : List Sp} (h : Am w A S v bc bw n xs L W) (t : To w w' S v v' n ys) : Am w' A S v' bc bw n ys L W :=
  ⟨t.kp.is h.one h.aS, t.st, h.ch.kept t.kp h.cS h.noS, h.wt.kept t.kp h.wS, h.ne⟩
end
end Go.Proofs.Ytnpjbddannkgfaa
