/- Count. Conditions: none. -/
import Derived.Test.YtnpjbddannkgfaaSpC
namespace Go.Proofs.Ytnpjbddannkgfaa
open Go.ChangeShapes Go.WideShapes Go.RowKit Go.Spans Go.Shelf Go.Rounds
attribute [local go_sem] Oper.semAt_some
set_option maxRecDepth 100000
theorem Is.own {V V' : World} {B g : Nat} {t : TypeId} {cs : Array Value} {row : Option Nat} (h : Is V g t cs) (hg : V.grownBy V' row) (hr : ∀ r, row = some r → B ≤ r ∧ ∃ o : Obj, V.heap[r]? = some o ∧ o.isCells = false) : Is V' g t cs :=
  h.kept hg fun e => by
    obtain ⟨_, o, ho, hc⟩ := hr _ e.symm
    unfold Is at h
    rw [h] at ho
    injection ho with ho
    subst ho
    cases hc
theorem cnt_take (xs : List Sp) (k : Nat) (h : k < xs.length) : cnt (xs.take (k + 1)) = cnt (xs.take k) + (xs.getD k (0, 0)).2 := by
  rw [tell_at h, List.take_succ_eq_append_getElem h]
  simp only [cnt, List.map_append, List.sum_append, List.map_cons, List.map_nil, List.sum_cons, List.sum_nil, Nat.add_zero]
theorem cnt_take_le (xs : List Sp) (k : Nat) : cnt (xs.take k) ≤ cnt xs := by
  conv => rhs; rw [← List.take_append_drop k xs]
  simp only [cnt, List.map_append, List.sum_append]
  omega
set_option maxHeartbeats 2000000 in
theorem count_any (p : Option Addr) (xs : List Sp) (w : World) (R : Nat → Nat → World → Prop) (hit : ∀ n B, Tells Fence.wide n Try.prog 76 #[.pointer (some ⟨B, 0, none⟩)] (tell xs) (R B) xs.length)
    (hR : ∀ B k V, Below w.heap.size w V → V.cell? ⟨B, 0, none⟩ = some (.pointer p) → R B k V) (hc : cnt xs ≤ 4096) :
    Calls Try.prog 53 #[.pointer p] w fun e w' => e = .returned (.int .i64 (cnt xs : Nat)) ∧ Below w.heap.size w w' := by
  have hF31 : Fence.wide.fn 67 := trivial
  refine callsIn_wide (n := 5).1 (callsIn_of_wp_marks Try.func53 rfl trivial ?_ rfl)
  simp only [Try.ntmps53, List.size_toArray, List.length_cons, List.length_nil, Nat.reduceAdd, Nat.reduceSub, Array.replicate_succ, Array.replicate_zero, List.push_toArray, List.append_toArray, List.nil_append, List.cons_append]
  gi_wp2_with (gi_at_call 67; refine (callsIn_wide.2 (each_c _ _)).mono ?_; rintro e w' ⟨rfl, rfl⟩)
  have hsz : ((w.alloc (.cells #[.int .i64 0] 3)).alloc (.cells #[.pointer p] 57)).heap.size = w.heap.size + 2 := by simp
  have hB0 : Below w.heap.size w ((w.alloc (.cells #[.int .i64 0] 3)).alloc (.cells #[.pointer p] 57)) := ((Below.refl _ w).alloc (Nat.le_refl _) _).alloc (by simp) _
  have hb0 : Is ((w.alloc (.cells #[.int .i64 0] 3)).alloc (.cells #[.pointer p] 57)) w.heap.size 3 #[.int .i64 0] := (Is.new w 3 _).alloc _
  have hb1 : Is ((w.alloc (.cells #[.int .i64 0] 3)).alloc (.cells #[.pointer p] 57)) (w.heap.size + 1) 57 #[.pointer p] := by
    have := Is.new (w.alloc (.cells #[.int .i64 0] 3)) 57 #[.pointer p]
    rwa [World.size_alloc] at this
  generalize ((w.alloc (.cells #[.int .i64 0] 3)).alloc (.cells #[.pointer p] 57)) = w0 at hsz hB0 hb0 hb1 ⊢
  refine loop rfl (by omega) (gf := 76) (lb := #[.pointer (some ⟨w.heap.size + 1, 0, none⟩)]) rfl trivial (enters_of Try.func76 (by kernel_rfl) rfl) (hit _ _) (fun _ => rfl)
    (fun k V => Below w.heap.size w V ∧ Is V w.heap.size 3 #[.int .i64 (cnt (xs.take k) : Nat)] ∧ Is V (w.heap.size + 1) 57 #[.pointer p]) (fun _ _ _ => False)
    (fun k V V' row hs hg hr => ⟨hs.1.grown hg hs.1.size (fun r e => by have := (hr r e).1; omega), hs.2.1.own hg hr, hs.2.2.own hg hr⟩) (fun _ _ _ _ _ hs _ _ => hs)
    (fun k V hs => hR _ k V hs.1 (by have := hs.2.2.cell 0; simpa using this)) ⟨hB0, by simpa [cnt] using hb0, hb1⟩
    (fun k a' V => ∃ Bx, w.heap.size + 1 < Bx ∧ (Below w.heap.size w V ∧ Is V w.heap.size 3 #[.int .i64 (cnt (xs.take k) : Nat)] ∧ Is V (w.heap.size + 1) 57 #[.pointer p]) ∧ Is V Bx 101 #[.int .i64 (xs.getD k (0, 0)).1, .int .i64 (xs.getD k (0, 0)).2] ∧
      a' = { tmps := #[.pointer p, undef, .int .i64 0, .pointer (some ⟨w.heap.size, 0, none⟩), .pointer (some ⟨Bx, 0, none⟩), .pointer p, .func (.func 76) #[] #[.pointer (some ⟨w.heap.size + 1, 0, none⟩)], .agg #[.int .i64 (xs.getD k (0, 0)).1, .int .i64 (xs.getD k (0, 0)).2], undef, undef, undef, undef, undef], defers := [] })
    (fun k a' s V V' row hs hg hr => by
      obtain ⟨Bx, h1, hs, h3, h4⟩ := hs
      exact ⟨Bx, h1, ⟨hs.1.grown hg hs.1.size (fun r e => by have := (hr r e).1; omega), hs.2.1.own hg hr, hs.2.2.own hg hr⟩, h3.own hg hr, h4⟩) ?assign ?body ?done ?stop
  case assign =>
    intro l k V K hk hs hK
    simp only [tell]
    have hlt := hs.2.2.lt
    generalize (xs.getD k (0, 0)).1 = x1 at *
    generalize (xs.getD k (0, 0)).2 = x2 at *
    gi_wp2
    exact hK _ _ ((KeepsOthers.alloc _ _).from _) ⟨V.heap.size, hlt, ⟨hs.1.alloc hs.1.size _, hs.2.1.alloc _, hs.2.2.alloc _⟩, Is.new _ _ _, rfl⟩
  case body =>
    rintro l k a' V hl hk ⟨Bx, hBx, ⟨hs1, hs2, hs3⟩, hx, rfl⟩
    have c0 := hs2.cell 0
    have c1 := hx.cell 1
    have f0 := hs2.frozen 0
    have hcn := cnt_take xs k hk
    have hle := cnt_take_le xs (k + 1)
    have hw : IntKind.i64.wrap ((cnt (xs.take k) : Nat) + ((xs.getD k (0, 0)).2 : Int)) = (cnt (xs.take (k + 1)) : Nat) := by
      rw [wrap_small (by omega) (by omega)]
      omega
    generalize (xs.getD k (0, 0)).1 = x1 at *
    generalize (xs.getD k (0, 0)).2 = x2 at *
    have hput := hs2.put 0 (.int .i64 (cnt (xs.take (k + 1)) : Nat))
    have hoth := hs3.other (p := ⟨w.heap.size, 0, none⟩) (by simp) (.int .i64 (cnt (xs.take (k + 1)) : Nat))
    generalize cnt (xs.take k) = c at *
    generalize cnt (xs.take (k + 1)) = c' at *
    simp at c0 c1
    gi_wp2
    rw [show ((c : Int) + (x2 : Int)) = ((c' : Nat) : Int) by omega]
    refine ⟨(KeepsOthers.setCell _ _ _).from _, ?_, ?_, ?_⟩
    · exact hs1.setCell (p := ⟨w.heap.size, 0, none⟩) (Nat.le_refl _) _
    · exact hput
    · exact hoth
  case done =>
    rintro D V hD ⟨hs1, hs2, hs3⟩ hK
    have c0 := hs2.cell 0
    rw [List.take_length] at c0
    simp at c0
    gi_wp2
    refine ⟨by simp, .inl ⟨_, _, rfl, run_takeDeferred hK, ?_⟩⟩
    refine ⟨_, results_tmp rfl _ _ _, rfl, hs1.trans (belowK_b (w := w) (Nat.le_refl _) V D _ _ (by omega) hK rfl rfl)⟩
  case stop =>
    rintro D c k V _ _ _ h _
    exact h.elim
/-- The iterator of a set in memory, as long as its struct and its row lie as they lay. -/
theorem St.tells {w : World} {S n : Nat} {v : Value} {xs : List Sp} (h : St w S v n xs) : ∃ R : Nat → Nat → World → Prop, (∀ m B, Tells Fence.wide m Try.prog 76 #[.pointer (some ⟨B, 0, none⟩)] (tell xs) (R B) xs.length) ∧
    ∀ B k V, Below w.heap.size w V → V.cell? ⟨B, 0, none⟩ = some (.pointer (some ⟨S, 0, none⟩)) → R B k V := by
  have hl := len_le h.ok
  have hh := h.hi
  rcases h.row.cases with ⟨rfl, rfl⟩ | ⟨g, cap, cur, rfl, hb, hg, h4, h5, h6, h7⟩
  · refine ⟨fun B => Rd B S 0 (.slice none 0 0) [], fun m B => tells_set m B S 0 _ [] (.inr ⟨none, 0, rfl, rfl⟩) (by simp), fun B k V hB hc => ⟨hc, ?_, fun hk => absurd hk (Nat.not_lt_zero _)⟩⟩
    have := (h.below hB).one.cell 1
    simpa using this
  · refine ⟨fun B => Rd B S g (.slice (some ⟨g, 0, none⟩) xs.length cap) xs, fun m B => tells_set m B S g _ xs (.inl ⟨cap, rfl⟩) (by omega), fun B k V hB hc => ⟨hc, ?_, fun hk => ?_⟩⟩
    · have := (h.below hB).one.cell 1
      simpa using this
    · rw [tell_at hk]
      exact row_cells ((Kp.of_below hB []).is hg (by simp)) h7 k hk
theorem zero_tells {w : World} {S : Nat} (h : Is w S 99 #[.int .i64 0, .slice none 0 0]) : ∃ R : Nat → Nat → World → Prop, (∀ m B, Tells Fence.wide m Try.prog 76 #[.pointer (some ⟨B, 0, none⟩)] (tell []) (R B) 0) ∧
    ∀ B k V, Below w.heap.size w V → V.cell? ⟨B, 0, none⟩ = some (.pointer (some ⟨S, 0, none⟩)) → R B k V := by
  refine ⟨fun B => Rd B S 0 (.slice none 0 0) [], fun m B => tells_set m B S 0 _ [] (.inr ⟨none, 0, rfl, rfl⟩) (by simp), fun B k V hB hc => ⟨hc, ?_, fun hk => absurd hk (Nat.not_lt_zero _)⟩⟩
  have := ((Kp.of_below hB []).is h (by simp)).cell 1
  simpa using this
theorem count_c {w : World} {S n : Nat} {v : Value} {xs : List Sp} (h : St w S v n xs) : Calls Try.prog 53 #[.pointer (some ⟨S, 0, none⟩)] w fun e w' => e = .returned (.int .i64 (cnt xs : Nat)) ∧ Below w.heap.size w w' := by
  obtain ⟨R, hit, hR⟩ := h.tells
  have := cnt_le h.ok
  have := h.hi
  exact count_any _ xs w R hit hR (by omega)
theorem count_nil (w : World) : Calls Try.prog 53 #[.pointer none] w fun e w' => e = .returned (.int .i64 0) ∧ Below w.heap.size w w' :=
  count_any none [] w _ (fun n B => tells_nil n B) (fun B k V _ hc => hc) (by simp [cnt])
theorem count_zero {w : World} {S : Nat} (h : Is w S 99 #[.int .i64 0, .slice none 0 0]) : Calls Try.prog 53 #[.pointer (some ⟨S, 0, none⟩)] w fun e w' => e = .returned (.int .i64 0) ∧ Below w.heap.size w w' := by
  obtain ⟨R, hit, hR⟩ := zero_tells h
  exact count_any _ [] w R hit hR (by simp [cnt])
end Go.Proofs.Ytnpjbddannkgfaa
