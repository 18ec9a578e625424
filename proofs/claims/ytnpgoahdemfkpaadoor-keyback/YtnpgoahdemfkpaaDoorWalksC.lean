/- Slices of texts: what they read as, what a call owns, append. Conditions: a million texts at most. -/
import Derived.Test.YtnpgoahdemfkpaaDoorWalksA
import Derived.ArgAppend
import Derived.Laws.OwnMore
import Derived.OwnWalk
namespace Go.Proofs.YtnpgoahdemfkpaaDoor
open Go.ChangeShapes Go.WideShapes Go.RowKit Go.Path
set_option maxRecDepth 100000
set_option linter.unusedVariables false
def str (x : B) : Value := .string (bs x)
/-- The texts xs lie from A on. -/
def Rs (w : World) (A : Option Addr) (xs : List B) : Prop :=
  xs = [] ∨ ∃ b o, A = some ⟨b, o, none⟩ ∧ b < w.heap.size ∧ ∀ i x, xs[i]? = some x → w.cell? ⟨b, o + i, none⟩ = some (str x)
section
variable {w w' : World} {A : Option Addr} {xs : List B}
theorem Rs.nil : Rs w A [] := .inl rfl
theorem Rs.kept (h : Rs w A xs) (hb : Below w.heap.size w w') : Rs w' A xs := by
  rcases h with h | ⟨b, o, rfl, hlt, hc⟩
  · exact .inl h
  · exact .inr ⟨b, o, rfl, Nat.lt_of_lt_of_le hlt hb.size, fun i x hx => (hb.cell (p := ⟨b, o + i, none⟩) hlt).trans (hc i x hx)⟩
theorem Rs.at_ (h : Rs w A xs) {k : Nat} {x : B} (hx : xs[k]? = some x) : ∃ b o, A = some ⟨b, o, none⟩ ∧ b < w.heap.size ∧ w.cell? ⟨b, o + k, none⟩ = some (.string (bs x)) := by
  rcases h with rfl | ⟨b, o, rfl, hlt, hc⟩
  · simp at hx
  · exact ⟨b, o, rfl, hlt, hc k x hx⟩
theorem Rs.alloc (h : Rs w A xs) (o : Obj) : Rs (w.alloc o) A xs := h.kept ((Below.refl _ _).alloc (Nat.le_refl _) o)
theorem Rs.drewN (h : Rs w A xs) (n : Nat) : Rs (w.drewN n) A xs := h
theorem Rs.take (h : Rs w A xs) (k : Nat) : Rs w A (xs.take k) := by
  rcases h with rfl | ⟨b, o, rfl, hlt, hc⟩
  · simp [Rs]
  · refine .inr ⟨b, o, rfl, hlt, fun i x hx => hc i x ?_⟩
    rw [List.getElem?_take] at hx
    split at hx
    · exact hx
    · simp at hx
theorem Rs.drop (h : Rs w A xs) (k cap : Nat) (hk : k ≤ xs.length) (hcap : xs.length ≤ cap) : Rs w (if cap = k then A else A.map (·.add (k * 1))) (xs.drop k) := by
  rcases h with rfl | ⟨b, o, rfl, hlt, hc⟩
  · simp [Rs]
  · by_cases e : xs.length = k
    · exact .inl (by rw [← e, List.drop_length])
    · rw [if_neg (by omega)]
      refine .inr ⟨b, o + k, ?_, hlt, fun i x hx => ?_⟩
      · simp [Addr.add]
      · rw [List.getElem?_drop] at hx
        rw [Nat.add_assoc]
        exact hc _ x hx
end
theorem info9 : (Tryd.prog.info? 9).map (fun i => (i.zero, i.size, i.bytes)) = some (some (.string ⟨#[]⟩), 1, 16) := by kernel_rfl
/-- The slice is the call's own: nothing at all, or a row of its own. -/
def Own (w : World) (base : Nat) (A : Option Addr) (n c : Nat) (xs : List B) : Prop :=
  n = xs.length ∧ n ≤ c ∧ ((xs = [] ∧ c = 0) ∨ w.ownsRow base 9 1 (.slice A n c) n (xs.map str))
section
variable {w w' : World} {base n c : Nat} {A : Option Addr} {xs : List B}
theorem Own.nil (w : World) (base : Nat) (A : Option Addr) : Own w base A 0 0 [] := ⟨rfl, Nat.le_refl _, .inl ⟨rfl, rfl⟩⟩
theorem Own.len (h : Own w base A n c xs) : n = xs.length := h.1
theorem Own.rs (h : Own w base A n c xs) : Rs w A xs := by
  obtain ⟨hn, hc, ⟨rfl, _⟩ | h⟩ := h
  · exact .inl rfl
  · rcases h.2 with ⟨_, h0⟩ | ⟨g, cap, cur, hv, _, hh, _⟩
    · exact .inl (List.eq_nil_of_length_eq_zero (by omega))
    · injection hv with hA hn' hc'
      subst hA
      have hlt : g < w.heap.size := (Array.getElem?_eq_some_iff.1 hh).1
      refine .inr ⟨g, 0, rfl, hlt, fun i x hx => ?_⟩
      have hi : i < xs.length := (List.getElem?_eq_some_iff.1 hx).1
      rw [Nat.zero_add]
      have := h.cellAt i (by omega)
      rw [this, List.getElem?_map, hx]; rfl
theorem Own.kept (h : Own w base A n c xs) (hb : Below w.heap.size w w') : Own w' base A n c xs := by
  obtain ⟨hn, hc, h | h⟩ := h
  · exact ⟨hn, hc, .inl h⟩
  · refine ⟨hn, hc, .inr ⟨h.1, ?_⟩⟩
    rcases h.2 with h | ⟨g, cap, cur, hv, h1, hh, h2⟩
    · exact .inl h
    · have hlt : g < w.heap.size := (Array.getElem?_eq_some_iff.1 hh).1
      exact .inr ⟨g, cap, cur, hv, h1, (hb.block g hlt).trans hh, h2⟩
theorem Own.alloc (h : Own w base A n c xs) (o : Obj) : Own (w.alloc o) base A n c xs := h.kept ((Below.refl _ _).alloc (Nat.le_refl _) o)
theorem run_app_none (h : n ≤ c) (hA : A = none → n = 0 ∧ c = 0) (A2 : Option Addr) (c2 : Nat) (ty : TypeId) : (Builtin.append_ #[22, 22] ty #[.slice A n c, .slice A2 0 c2]).run Tryd.prog w = .ok (.slice A n c) w := by
  obtain ⟨i, hi, _⟩ := info_parts info9
  rcases A with _ | a
  · obtain ⟨rfl, rfl⟩ := hA rfl
    rcases A2 with _ | b <;> simp [Builtin.append_, run_underlying Tryd.underlying22, sizeOf, typeInfo, hi, Builtin.lenOf, Builtin.firstCells, loadCells, loadCellsFrom]
  · rcases A2 with _ | b <;> simp [Builtin.append_, run_underlying Tryd.underlying22, sizeOf, typeInfo, hi, Builtin.lenOf, Builtin.firstCells, h, loadCells, loadCellsFrom, storeCells]
theorem own_of {v : Value} {ys : List B} (hne : ys ≠ []) (h : w.ownsRow base 9 1 v ys.length (ys.map str)) : ∃ A c, v = .slice A ys.length c ∧ Own w base A ys.length c ys := by
  have hl : 0 < ys.length := List.length_pos_iff.2 hne
  rcases h.2 with ⟨_, h0⟩ | ⟨g, cap, cur, hv, h1, hh, h2, h3⟩
  · omega
  · subst hv
    exact ⟨_, _, rfl, rfl, h2, .inr h⟩
theorem run_app (h : Own w base A n c xs) (A2 : Option Addr) (m c2 : Nat) (ys : List B) (hm : m = ys.length) (hr : Rs w A2 ys) (hb : xs.length + ys.length ≤ 1000000) (hbase : base ≤ w.heap.size) (ty : TypeId) :
    ∃ A' c' w', (Builtin.append_ #[22, 22] ty #[.slice A n c, .slice A2 m c2]).run Tryd.prog w = .ok (.slice A' (n + m) c') w' ∧ Own w' base A' (n + m) c' (xs ++ ys) ∧ Below base w w' := by
  subst hm
  have hO := h
  obtain ⟨hn, hc, ho⟩ := h
  by_cases hy : ys = []
  · subst hy
    have hA : A = none → n = 0 ∧ c = 0 := by
      rintro rfl
      rcases ho with ⟨rfl, rfl⟩ | ho
      · exact ⟨hn, rfl⟩
      · rcases ho.2 with ⟨hv, _⟩ | ⟨g, cap, cur, hv, _⟩
        · injection hv with _ h1 h2; exact ⟨h1, h2⟩
        · injection hv with h1 _ _; cases h1
    refine ⟨A, c, w, run_app_none hc hA A2 c2 ty, ?_, Below.refl _ _⟩
    rw [List.append_nil]; exact hO
  · obtain ⟨i, hi, hz, hs, hby⟩ := info_parts info9
    rcases hr with hr | ⟨b, o, rfl, hlt, hcell⟩
    · exact absurd hr hy
    have hcells : ∀ (j : Nat) u, (ys.map str)[j]? = some u → w.cell? ((⟨b, o, none⟩ : Addr).add j) = some u := by
      intro j u hu
      rw [List.getElem?_map] at hu
      obtain ⟨x, hx, rfl⟩ := Option.map_eq_some_iff.1 hu
      have := hcell j x hx
      unfold Addr.add
      split
      · next e => subst e; simpa using this
      · exact this
    have hone : ∀ u ∈ ys.map str, u.oneCell' = true := by
      intro u hu
      obtain ⟨x, _, rfl⟩ := List.mem_map.1 hu
      rfl
    have hl : (ys.map str).length = ys.length * 1 := by simp
    have hne : xs ++ ys ≠ [] := by simp [hy]
    have hlen : n + ys.length = (xs ++ ys).length := by rw [List.length_append, hn]
    have hmx : n + ys.length ≤ maxLen := by unfold maxLen; omega
    have hbt : (n + ys.length) * 16 ≤ 140737488355328 := by omega
    rcases ho with ⟨rfl, rfl⟩ | ho
    · obtain rfl : n = 0 := by simpa using hn
      rcases A with _ | a
      · obtain ⟨v', w', hrun, h1, h2, _⟩ := run_append_own (P := Tryd.prog) w base 22 ty 9 i _ 1 16 Tryd.underlying22 hi hz hs hby rfl (by decide) (.slice none 0 0) 0 [] (World.ownsRow_nil w _ 9 1) ⟨b, o, none⟩ ys.length c2 (ys.map str) hl hcells hone hmx hbt hbase
        rw [Nat.zero_add, List.nil_append] at h1
        obtain ⟨A', c', rfl, hO'⟩ := own_of hy h1
        refine ⟨A', c', w', by rw [Nat.zero_add]; exact hrun, by rw [Nat.zero_add, List.nil_append]; exact hO', ?_⟩
        exact (Below.refl _ _).grown h2 hbase (fun k hk => by simp [Value.ownBlock] at hk)
      · obtain ⟨v', w', hrun, h1, h2⟩ := run_append_arg_grows (P := Tryd.prog) w 22 ty 9 i _ 1 16 Tryd.underlying22 hi hz hs hby rfl (by decide) a 0 0 [] rfl (fun j u hu => by simp at hu) ⟨b, o, none⟩ ys.length c2 (ys.map str) hl hcells (by have := List.length_pos_iff.2 hy; omega) hmx hbt
        rw [Nat.zero_add, List.nil_append] at h1
        have h1' : w'.ownsRow base 9 1 v' ys.length (ys.map str) := by
          refine ⟨h1.1, ?_⟩
          rcases h1.2 with h | ⟨g, cap, cur, hv, hg, hh⟩
          · exact .inl h
          · exact .inr ⟨g, cap, cur, hv, Nat.le_trans hbase hg, hh⟩
        obtain ⟨A', c', rfl, hO'⟩ := own_of hy h1'
        refine ⟨A', c', w', by rw [Nat.zero_add]; exact hrun, by rw [Nat.zero_add, List.nil_append]; exact hO', ?_⟩
        exact (Below.refl _ _).grown h2 hbase (fun k hk => by cases hk)
    · obtain ⟨v', w', hrun, h1, h2, _⟩ := run_append_own (P := Tryd.prog) w base 22 ty 9 i _ 1 16 Tryd.underlying22 hi hz hs hby rfl (by decide) _ n _ ho ⟨b, o, none⟩ ys.length c2 (ys.map str) hl hcells hone hmx hbt hbase
      rw [hlen, ← List.map_append] at h1
      obtain ⟨A', c', rfl, hO'⟩ := own_of hne h1
      rw [hlen]
      refine ⟨A', c', w', hrun, hO', ?_⟩
      refine (Below.refl _ _).grown h2 hbase (fun k hk => ?_)
      rcases ho.2 with ⟨hv, _⟩ | ⟨g, cap, cur, hv, hg, _⟩
      · rw [hv] at hk; simp [Value.ownBlock] at hk
      · rw [hv] at hk; simp [Value.ownBlock] at hk; omega
end
/-- append, in a walk. -/
theorem wpList_app {w : World} {ops : Array Oper} {rest : List Oper} {o : Oper} {a : Act} {Q : Exit → Act → World → Prop} (hgd : o.guard = none) (s x : Operand)
    (ho : o.op = .call { callee := .builtin .append, args := #[s, x], argTypes := #[22, 22] })
    (base : Nat) (A : Option Addr) (n c : Nat) (xs : List B) (hs : a.eval s = .slice A n c) (h : Own w base A n c xs)
    (A2 : Option Addr) (m c2 : Nat) (ys : List B) (hx : a.eval x = .slice A2 m c2) (hm : m = ys.length) (hr : Rs w A2 ys) (hb : xs.length + ys.length ≤ 1000000) (hbase : base ≤ w.heap.size)
    (hK : ∀ A' c' w', Own w' base A' (n + m) c' (xs ++ ys) → Below base w w' → wpList Tryd.prog ops Q rest (a.put o.dst (.slice A' (n + m) c')) w') : wpList Tryd.prog ops Q (o :: rest) a w := by
  refine wpList_plain hgd fun K hK' => ?_
  obtain ⟨A', c', w', hrun, h1, h2⟩ := run_app h A2 m c2 ys hm hr hb hbase o.type
  unfold Oper.wp
  simp [execOp, ho, resolve, invoke, builtin, hs, hx, hrun, Result.andThen]
  exact hK' _ _ (hK A' c' w' h1 h2)
end Go.Proofs.YtnpgoahdemfkpaaDoor
