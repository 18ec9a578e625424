/- slices.AppendSeq, slices.Collect, List. Conditions: none. -/
import Derived.Test.YtnpjbddannkgfaaSpD
import Derived.Maps.OwnIn
namespace Go.Proofs.Ytnpjbddannkgfaa
open Go.ChangeShapes Go.WideShapes Go.RowKit Go.Spans Go.Shelf Go.Rounds
attribute [local go_sem] Oper.semAt_some
set_option maxRecDepth 100000
theorem info63 : (Try.prog.info? 101).map (fun i => (i.zero, i.size, i.bytes)) = some (some (.agg #[.int .i64 0, .int .i64 0]), 2, 16) := by kernel_rfl
theorem ecs_take_succ {xs : List Sp} {k : Nat} (h : k < xs.length) : ecs (xs.take (k + 1)) = ecs (xs.take k) ++ [.int .i64 (xs.getD k (0, 0)).1, .int .i64 (xs.getD k (0, 0)).2] := by
  rw [tell_at h, List.take_succ_eq_append_getElem h, ecs_append]
  rfl
theorem own_kept {V V' : World} {B base e size n : Nat} {v : Value} {cs : List Value} {row : Option Nat} (h : V.ownsRow base e size v n cs) (hg : V.grownBy V' row) (hr : ∀ r, row = some r → B ≤ r ∧ ∃ o : Obj, V.heap[r]? = some o ∧ o.isCells = false) : V'.ownsRow base e size v n cs := by
  refine h.kept hg ?_
  rcases h.2 with ⟨rfl, _⟩ | ⟨g, cap, cur, rfl, _, hi, _⟩
  · exact .inl rfl
  · refine .inr fun e => ?_
    obtain ⟨_, o, ho, hc⟩ := hr g (by rw [← e]; rfl)
    rw [hi] at ho
    injection ho with ho
    subst ho
    cases hc
/-- One span in a new block of its own. -/
theorem new_cells (V : World) (a b : Value) : ∀ j u, [a, b][j]? = some u → (V.alloc (.cells #[a, b] 101)).cell? ((⟨V.heap.size, 0, none⟩ : Addr).add j) = some u := by
  intro j u hj
  have hadd : (⟨V.heap.size, 0, none⟩ : Addr).add j = ⟨V.heap.size, j, none⟩ := by unfold Addr.add; split <;> simp_all
  rw [hadd, (Is.new V 101 #[a, b]).cell]
  simpa using hj
theorem grown_put (W : World) (p : Addr) (v : Value) : W.grownBy (W.setCell p v) (some p.block) :=
  ⟨rfl, rfl, rfl, Nat.le_of_eq (by simp), fun k _ hk => Below.heap_setCell W p v k (fun e => hk (by rw [e]))⟩
theorem own_slice {w : World} {base e size n : Nat} {v : Value} {cs : List Value} (h : w.ownsRow base e size v n cs) : ∃ p cap, v = .slice p n cap := by
  rcases h.2 with ⟨rfl, rfl⟩ | ⟨g, cap, cur, rfl, _⟩
  · exact ⟨none, 0, rfl⟩
  · exact ⟨_, _, rfl⟩
theorem own_ge {w : World} {base e size n : Nat} {v : Value} {cs : List Value} (h : w.ownsRow base e size v n cs) {g : Nat} (hg : v.ownBlock = some g) : base ≤ g ∧ g < w.heap.size ∧ ∃ o : Obj, w.heap[g]? = some o ∧ o.isCells = true := by
  rcases h.2 with ⟨rfl, rfl⟩ | ⟨g', cap, cur, rfl, hb, hi, _⟩
  · cases hg
  · simp [Value.ownBlock] at hg
    subst hg
    exact ⟨hb, (Array.getElem?_eq_some_iff.1 hi).1, _, hi, rfl⟩
theorem own_keeps {w w' : World} {base e size n : Nat} {v : Value} {cs : List Value} (h : w.ownsRow base e size v n cs) (hg : w.grownBy w' v.ownBlock) : KeepsOthers w w' :=
  ⟨hg.size, fun k o hk ho => (hg.block k (Array.getElem?_eq_some_iff.1 hk).1 (fun e => by
    obtain ⟨_, _, o', ho', hc⟩ := own_ge h e.symm
    rw [hk] at ho'
    injection ho' with ho'
    subst ho'
    rw [ho] at hc
    cases hc)).trans hk⟩
/-- Between two rounds: a slice of the call's own that holds what has come. -/
def ApI (w : World) (xs : List Sp) (k : Nat) (V : World) : Prop := Below w.heap.size w V ∧ ∃ v, Is V w.heap.size 97 #[v] ∧ V.ownsRow (w.heap.size + 1) 101 2 v (xs.take k).length (ecs (xs.take k)) ∧ (v = .slice none 0 0 ↔ k = 0)
theorem ApI.own (w : World) (xs : List Sp) {B : Nat} (hB : w.heap.size ≤ B) : OwnFrom B (ApI w xs) := by
  rintro k V V' row ⟨h1, v, h2, h3, h4⟩ hg hr
  exact ⟨h1.grown hg h1.size (fun r e => by have := (hr r e).1; omega), v, h2.own hg hr, own_kept h3 hg hr, h4⟩
set_option maxHeartbeats 2000000 in
theorem appendSeq_c (B : Nat) (xs : List Sp) (w : World) (R : Nat → World → Prop) (hit : ∀ n, Tells Fence.wide n Try.prog 76 #[.pointer (some ⟨B, 0, none⟩)] (tell xs) R xs.length)
    (hR : ∀ k V, Below w.heap.size w V → R k V) (hc : xs.length ≤ 4096) :
    Calls Try.prog 92 #[.slice none 0 0, .func (.func 76) #[] #[.pointer (some ⟨B, 0, none⟩)]] w fun e w' => ∃ v, e = .returned v ∧ Rw w' w.heap.size v xs ∧ (v = .slice none 0 0 ↔ xs = []) ∧ Below w.heap.size w w' := by
  obtain ⟨i0, hi, hz0, hz1, hz2⟩ := info_parts info63
  refine callsIn_wide (n := 5).1 (callsIn_of_wp_marks Try.func92 rfl trivial ?_ rfl)
  simp only [Try.ntmps92, List.size_toArray, List.length_cons, List.length_nil, Nat.reduceAdd, Nat.reduceSub, Array.replicate_succ, Array.replicate_zero, List.push_toArray, List.append_toArray, List.nil_append, List.cons_append]
  gi_wp2
  refine loop rfl (by omega) (gf := 76) (lb := #[.pointer (some ⟨B, 0, none⟩)]) rfl trivial (enters_of Try.func76 (by kernel_rfl) rfl) (hit _) (fun _ => rfl)
    (ApI w xs) (fun _ _ _ => False) (ApI.own w xs (by simp)) (fun _ _ _ _ _ hs _ _ => hs)
    (fun k V hs => hR k V hs.1) ⟨(Below.refl _ w).alloc (Nat.le_refl _) _, .slice none 0 0, Is.new _ _ _, ⟨by simp [ecs], .inl ⟨rfl, by simp⟩⟩, by simp⟩
    (fun k a' V => ∃ Bx, w.heap.size < Bx ∧ ApI w xs k V ∧ Is V Bx 101 #[.int .i64 (xs.getD k (0, 0)).1, .int .i64 (xs.getD k (0, 0)).2] ∧
      a' = { tmps := #[.slice none 0 0, .func (.func 76) #[] #[.pointer (some ⟨B, 0, none⟩)], .pointer (some ⟨w.heap.size, 0, none⟩), undef, .slice none 0 0, .pointer (some ⟨Bx, 0, none⟩), .func (.func 76) #[] #[.pointer (some ⟨B, 0, none⟩)], .agg #[.int .i64 (xs.getD k (0, 0)).1, .int .i64 (xs.getD k (0, 0)).2], undef, undef, undef, undef, undef], defers := [] })
    (fun k a' s V V' row hs hg hr => by
      obtain ⟨Bx, h1, hs, h3, h4⟩ := hs
      exact ⟨Bx, h1, ApI.own w xs (by simp) k V V' row hs hg hr, h3.own hg hr, h4⟩) ?assign ?body ?done ?stop
  case assign =>
    intro l k V K hk hs hK
    simp only [tell]
    obtain ⟨h1, v, h2, h3, h4⟩ := hs
    have hlt := h2.lt
    generalize hx1 : (xs.getD k (0, 0)).1 = x1 at hK ⊢
    generalize hx2 : (xs.getD k (0, 0)).2 = x2 at hK ⊢
    gi_wp2
    exact hK _ _ ((KeepsOthers.alloc _ _).from _) ⟨V.heap.size, hlt, ⟨h1.alloc h1.size _, v, h2.alloc _, h3.alloc _, h4⟩, Is.new _ _ _, rfl⟩
  case body =>
    rintro l k a' V hl hk ⟨Bx, hBx, ⟨h1, v, h2, h3, h4⟩, hx, rfl⟩
    have hst := ecs_take_succ hk
    have c0 := h2.cell 0
    have x0 := hx.cell 0
    have x1 := hx.cell 1
    have hlk : (xs.take k).length = k := by rw [List.length_take]; omega
    have hlk1 : (xs.take (k + 1)).length = k + 1 := by rw [List.length_take]; omega
    generalize (xs.getD k (0, 0)).1 = y1 at *
    generalize (xs.getD k (0, 0)).2 = y2 at *
    simp at c0 x0 x1
    have hown := h3.alloc (.cells #[.int .i64 y1, .int .i64 y2] 101)
    have hnew := Is.new V 101 #[.int .i64 y1, .int .i64 y2]
    have h2' := h2.alloc (.cells #[.int .i64 y1, .int .i64 y2] 101)
    have hlt := h2.lt
    rw [hlk] at hown
    have hm1 : k + 1 ≤ maxLen := by unfold maxLen; omega
    have hm2 : (k + 1) * 16 ≤ 140737488355328 := by omega
    have hm3 : w.heap.size + 1 ≤ (V.alloc (.cells #[.int .i64 y1, .int .i64 y2] 101)).heap.size := by simp; omega
    have hns := new_cells V (.int .i64 y1) (.int .i64 y2)
    have hone : ∀ u ∈ [Value.int .i64 y1, Value.int .i64 y2], u.oneCell' = true := by simp [Value.oneCell']
    have hne : some w.heap.size ≠ v.ownBlock := fun e => by
      have := (own_ge h3 e.symm).1
      omega
    gi_wp2_with (gi_at_builtin; refine wpListIn_append_own_at _ rfl _ _ 97 rfl (w.heap.size + 1) 101 i0 _ 2 16 Try.underlying97 hi hz0 hz1 hz2 rfl (by decide) _ _ _ rfl hown ⟨V.heap.size, 0, none⟩ 1 1 [.int .i64 y1, .int .i64 y2] rfl rfl hns hone hm1 hm2 hm3 ?_; intro v' w1 hown' hgrow hnil hat; have h21 := h2'.kept hgrow hne; obtain ⟨p', cap', rfl⟩ := own_slice hown'; have c1 := h21.cell 0; have f1 := h21.frozen 0; simp at c1)
    have hput := h21.put 0 (.slice p' (k + 1) cap')
    refine ⟨((((KeepsOthers.alloc _ _).trans (own_keeps hown hgrow))).trans (KeepsOthers.setCell _ _ _)).from _, ?_, .slice p' (k + 1) cap', hput, ?_, ?_⟩
    · refine ((h1.alloc h1.size _).grown hgrow (by simp; omega) (fun r e => ?_)).setCell (p := ⟨w.heap.size, 0, none⟩) (Nat.le_refl _) _
      have := (own_ge hown e).1
      omega
    · rw [hlk1, hst]
      refine hown'.kept (grown_put w1 ⟨w.heap.size, 0, none⟩ _) (.inr fun e => ?_)
      have := (own_ge hown' e).1
      simp at this
      omega
    · rw [hnil]
      simp
  case done =>
    rintro D V hD ⟨h1, v, h2, h3, h4⟩ hK
    have c0 := h2.cell 0
    rw [List.take_length] at h3
    simp at c0
    gi_wp2
    refine ⟨by simp, .inl ⟨_, _, rfl, run_takeDeferred hK, ?_⟩⟩
    refine ⟨_, results_tmp rfl _ _ _, v, rfl, ?_, ?_, h1.trans (belowK_b (w := w) (Nat.le_refl _) V D _ _ (by simp at hD; omega) hK rfl rfl)⟩
    · exact Rw.low (base := w.heap.size + 1) (ownsRow_putObj h3 _ hK rfl) (by omega)
    · rw [h4]
      exact List.length_eq_zero_iff
  case stop =>
    rintro D c k V _ _ _ h _
    exact h.elim
theorem collect_c (B : Nat) (xs : List Sp) (w : World) (R : Nat → World → Prop) (hit : ∀ n, Tells Fence.wide n Try.prog 76 #[.pointer (some ⟨B, 0, none⟩)] (tell xs) R xs.length)
    (hR : ∀ k V, Below w.heap.size w V → R k V) (hc : xs.length ≤ 4096) :
    Calls Try.prog 75 #[.func (.func 76) #[] #[.pointer (some ⟨B, 0, none⟩)]] w fun e w' => ∃ v, e = .returned v ∧ Rw w' w.heap.size v xs ∧ (v = .slice none 0 0 ↔ xs = []) ∧ Below w.heap.size w w' := by
  have hA := appendSeq_c B xs w R hit hR hc
  clear hit hR
  go_enter Try.func75, Try.ntmps75
  go_wp2_with (go_at_call 92; refine hA.mono ?_; clear hA; rintro e w' ⟨v, rfl, h⟩; obtain ⟨p, cap, rfl⟩ := h.1.len)
  go_ret
  exact ⟨_, rfl, by assumption⟩
theorem list_any (p : Option Addr) (xs : List Sp) (w : World) (R : Nat → Nat → World → Prop) (hit : ∀ n B, Tells Fence.wide n Try.prog 76 #[.pointer (some ⟨B, 0, none⟩)] (tell xs) (R B) xs.length)
    (hR : ∀ B k V, Below w.heap.size w V → V.cell? ⟨B, 0, none⟩ = some (.pointer p) → R B k V) (hc : xs.length ≤ 4096) :
    Calls Try.prog 63 #[.pointer p] w fun e w' => ∃ v, e = .returned v ∧ Rw w' w.heap.size v xs ∧ (v = .slice none 0 0 ↔ xs = []) ∧ Below w.heap.size w w' := by
  have hE := each_c p w
  have hb := Is.new w 57 #[.pointer p]
  have hB : Below w.heap.size w (w.alloc (.cells #[.pointer p] 57)) := (Below.refl _ w).alloc (Nat.le_refl _) _
  have hC := collect_c w.heap.size xs (w.alloc (.cells #[.pointer p] 57)) (R w.heap.size) (fun n => hit n _) (fun k V hV => hR _ k V (hB.trans (hV.mono (by simp))) (by have := ((Kp.of_below hV []).is hb (by simp)).cell 0; simpa using this)) hc
  clear hit hR
  go_enter Try.func63, Try.ntmps63
  go_wp2_with (first
    | (go_at_call 67; refine hE.mono ?_; clear hE; rintro e w' ⟨rfl, rfl⟩)
    | (go_at_call 75; refine hC.mono ?_; clear hC; rintro e w' ⟨v, rfl, h⟩; obtain ⟨p', cap, rfl⟩ := h.1.len))
  go_ret
  exact ⟨_, rfl, h.1.low (by simp), h.2.1, hB.trans (h.2.2.mono (by simp))⟩
theorem list_c {w : World} {S n : Nat} {v : Value} {xs : List Sp} (h : St w S v n xs) : Calls Try.prog 63 #[.pointer (some ⟨S, 0, none⟩)] w fun e w' => ∃ v, e = .returned v ∧ Rw w' w.heap.size v xs ∧ (v = .slice none 0 0 ↔ xs = []) ∧ Below w.heap.size w w' := by
  obtain ⟨R, hit, hR⟩ := h.tells
  have := len_le h.ok
  have := h.hi
  exact list_any _ xs w R hit hR (by omega)
theorem list_nil (w : World) : Calls Try.prog 63 #[.pointer none] w fun e w' => ∃ v, e = .returned v ∧ Rw w' w.heap.size v [] ∧ (v = .slice none 0 0 ↔ ([] : List Sp) = []) ∧ Below w.heap.size w w' :=
  list_any none [] w _ (fun n B => tells_nil n B) (fun B k V _ hc => hc) (by simp)
end Go.Proofs.Ytnpjbddannkgfaa
