/- Give; calls of what is no set; slices.Clone, Copy. Conditions: none. -/
import Derived.Test.YtfccdalhmmddlaaSpJ
namespace Go.Proofs.Ytfccdalhmmddlaa
open Go.ChangeShapes Go.WideShapes Go.RowKit Go.Spans Go.Shelf
set_option maxRecDepth 100000
theorem give_c {w : World} {S n : Nat} {v : Value} {xs : List Sp} (h : St w S v n xs) (a : Int) (h1 : -9223372036854775808 ≤ a) (h2 : a ≤ 9223372036854775807) :
    Calls Try.prog 17 #[.pointer (some ⟨S, 0, none⟩), .int .i64 a] w fun e w' => e = .returned (.int .i64 (fillE n xs a (a + 1))) ∧ ∃ v', To w w' S v v' n (fillX n xs a (a + 1)) := by
  have hn := h.hi
  have hF : Calls Try.prog 18 #[.pointer (some ⟨S, 0, none⟩), .int .i64 a, .int .i64 (IntKind.i64.wrap (a + 1))] w fun e w' => e = .returned (.int .i64 (fillE n xs a (a + 1))) ∧ ∃ v', To w w' S v v' n (fillX n xs a (a + 1)) := by
    have := fill_c h a (IntKind.i64.wrap (a + 1))
    by_cases he : a = 9223372036854775807
    · subst he
      have e1 : IntKind.i64.wrap (9223372036854775807 + 1) = -9223372036854775808 := by decide
      rw [e1] at this ⊢
      have c1 : fillE n xs 9223372036854775807 (-9223372036854775808) = 2 := by rw [fillE, if_pos (by omega)]
      have c2 : fillE n xs 9223372036854775807 (9223372036854775807 + 1) = 2 := by rw [fillE, if_pos (by omega)]
      have c3 : fillX n xs 9223372036854775807 (-9223372036854775808) = xs := by rw [fillX, if_pos (.inl (by omega))]
      have c4 : fillX n xs 9223372036854775807 (9223372036854775807 + 1) = xs := by rw [fillX, if_pos (.inl (by omega))]
      rw [c1, c3] at this
      rw [c2, c4]
      exact this
    · rw [wrap_small (by omega) (by omega)] at this ⊢
      exact this
  generalize fillE n xs a (a + 1) = E at *
  generalize fillX n xs a (a + 1) = X at *
  generalize hb : IntKind.i64.wrap (a + 1) = b at *
  clear h
  go_enter Try.func17, Try.ntmps17
  go_wp2_with (go_at_call 18; refine hF.mono ?_; clear hF; rintro e w' ⟨rfl, v', hto⟩)
  go_ret
  exact ⟨rfl, v', hto⟩
theorem give_nil (a : Int) (w : World) : Calls Try.prog 17 #[.pointer none, .int .i64 a] w fun e w' => e = .returned (.int .i64 1) ∧ w' = w := by
  have hM := isMade_nil w
  generalize hb : IntKind.i64.wrap (a + 1) = b
  have hF : Calls Try.prog 18 #[.pointer none, .int .i64 a, .int .i64 b] w fun e w' => e = .returned (.int .i64 1) ∧ w' = w := by
    go_enter Try.func18, Try.ntmps18
    go_wp2_with (go_at_call 29; refine hM.mono ?_; clear hM; rintro e w' ⟨rfl, rfl⟩)
    go_ret
    exact ⟨rfl, rfl⟩
  go_enter Try.func17, Try.ntmps17
  go_wp2_with (go_at_call 18; refine hF.mono ?_; clear hF; rintro e w' ⟨rfl, rfl⟩)
  go_ret
  exact ⟨rfl, rfl⟩
theorem fill_zero {w : World} {S : Nat} {v : Value} (h : Is w S 53 #[.int .i64 0, v]) (a b : Int) : Calls Try.prog 18 #[.pointer (some ⟨S, 0, none⟩), .int .i64 a, .int .i64 b] w fun e w' => e = .returned (.int .i64 1) ∧ w' = w := by
  have hM := isMade_zero h
  clear h
  go_enter Try.func18, Try.ntmps18
  go_wp2_with (go_at_call 29; refine hM.mono ?_; clear hM; rintro e w' ⟨rfl, rfl⟩)
  go_ret
  exact ⟨rfl, rfl⟩
theorem take_nil (a : Int) (w : World) : Calls Try.prog 19 #[.pointer none, .int .i64 a] w fun e w' => e = .returned (.tuple #[.slice none 0 0, .int .i64 1]) ∧ w' = w := by
  have hM := isMade_nil w
  go_enter Try.func19, Try.ntmps19
  go_wp2_with (go_at_call 29; refine hM.mono ?_; clear hM; rintro e w' ⟨rfl, rfl⟩)
  go_ret2
  exact ⟨rfl, rfl⟩
theorem copy_zero {w : World} {S : Nat} {v : Value} (h : Is w S 53 #[.int .i64 0, v]) : Calls Try.prog 20 #[.pointer (some ⟨S, 0, none⟩)] w fun e w' => e = .returned (.pointer none) ∧ w' = w := by
  have hM := isMade_zero h
  clear h
  go_enter Try.func20, Try.ntmps20
  go_wp2_with (go_at_call 29; refine hM.mono ?_; clear hM; rintro e w' ⟨rfl, rfl⟩)
  go_ret
  exact ⟨rfl, rfl⟩
/-- slices.Clone of spans. -/
theorem clone_c {w : World} {v : Value} {xs : List Sp} (h : Rw w 0 v xs) (hlen : xs.length ≤ 4096) : Calls Try.prog 36 #[v] w fun e w' => ∃ v', e = .returned v' ∧ Rw w' w.heap.size v' xs ∧ Below w.heap.size w w' := by
  obtain ⟨i0, hi0, hz0, hz1, hz2⟩ := info_parts info63
  rcases h.cases with ⟨rfl, rfl⟩ | ⟨g, cap, cur, rfl, hb, hg, h4, h5, h6, h7⟩
  · have hq : ∀ W, (binOp .eql 35 (.slice none 0 0) (.slice none 0 0)).run Try.prog W = .ok (.bool true) W := fun W => Go.Lib.run_eql_slice_nil W 35 63 none 0 0 0 0 Try.underlying35
    clear h
    go_enter Try.func36, Try.ntmps36
    go_wp2
    go_ret
    exact ⟨_, rfl, Rw.nil _ _, Below.refl _ _⟩
  · have hsrc : ∀ (W : World), Below w.heap.size w W → ∀ j u, (ecs xs)[j]? = some u → W.cell? ((⟨g, 0, none⟩ : Addr).add j) = some u := fun W hW => src_of ((Kp.of_below hW []).is hg (by simp)) (fun j u hj => by
      rw [Nat.zero_add]
      exact cur_get h7 hj)
    have hm1 : xs.length ≤ maxLen := by unfold maxLen; omega
    have hB1 : Below w.heap.size w (w.alloc (.cells #[] 63)) := (Below.refl _ w).alloc (Nat.le_refl _) _
    have hemp : (w.alloc (.cells #[] 63)).ownsRow w.heap.size 63 2 (.slice (some ⟨w.heap.size, 0, none⟩) 0 0) 0 [] := ⟨rfl, .inr ⟨w.heap.size, 0, #[], rfl, Nat.le_refl _, Is.new w 63 #[], Nat.le_refl _, by simp [maxLen], rfl, rfl⟩⟩
    obtain ⟨v', w', hr, h2, h3, h4', h5'⟩ := run_append_own_at (P := Try.prog) (w.alloc (.cells #[] 63)) w.heap.size 35 35 63 i0 _ 2 16 Try.underlying35 hi0 hz0 hz1 hz2 rfl (by decide) _ 0 [] hemp ⟨g, 0, none⟩ xs.length cap (ecs xs) (ecs_len xs) (hsrc _ hB1) (ecs_one xs) (by omega) (by omega) (by simp)
    have hres : Rw w' w.heap.size v' xs ∧ Below w.heap.size w w' := by
      simp only [Nat.zero_add, List.nil_append] at h2
      exact ⟨h2, hB1.grown h3 (by simp) (fun r e => by simp [Value.ownBlock] at e; omega)⟩
    obtain ⟨p', cap', rfl⟩ := own_slice h2
    simp only [Nat.zero_add] at hr hres
    clear h hg h2 h3 h4' h5' h6 h7 hsrc hemp
    generalize xs.length = k at *
    have hq : ∀ W, (binOp .eql 35 (.slice (some ⟨g, 0, none⟩) k cap) (.slice none 0 0)).run Try.prog W = .ok (.bool false) W := fun W => Go.Lib.run_eql_slice_nil W 35 63 (some ⟨g, 0, none⟩) k cap 0 0 Try.underlying35
    go_enter Try.func36, Try.ntmps36
    go_wp2_with (at_builtin; refine Lib.wpList_append_run _ rfl _ _ _ _ rfl _ _ rfl rfl _ _ hr ?_)
    go_ret
    exact ⟨_, rfl, hres⟩
theorem copy_c {w : World} {S n : Nat} {v : Value} {xs : List Sp} (h : St w S v n xs) :
    Calls Try.prog 20 #[.pointer (some ⟨S, 0, none⟩)] w fun e w' => ∃ S' v', e = .returned (.pointer (some ⟨S', 0, none⟩)) ∧ St w' S' v' n xs ∧ w.heap.size ≤ S' ∧ (∀ g ∈ ob v', w.heap.size ≤ g) ∧ Below w.heap.size w w' := by
  have hM := isMade_st h
  have hlen := len_le h.ok
  have hhi := h.hi
  have hf : ∀ W, Below w.heap.size w W → W.cell? ⟨S, 0, none⟩ = some (.int .i64 n) ∧ W.cell? ⟨S, 1, none⟩ = some v := fun W hW => by
    have h0 := (h.below hW).one.cell 0
    have h1 := (h.below hW).one.cell 1
    simp at h0 h1
    exact ⟨h0, h1⟩
  have hC : ∀ W, Below w.heap.size w W → Calls Try.prog 36 #[v] W fun e w' => ∃ p cap, e = .returned (.slice p xs.length cap) ∧ Rw w' w.heap.size (.slice p xs.length cap) xs ∧ Below w.heap.size w w' := fun W hW =>
    (clone_c (h.below hW).row (by omega)).mono fun e w' ⟨v', he, hr, hb⟩ => by
      obtain ⟨p, cap, rfl⟩ := hr.len
      exact ⟨p, cap, he, hr.low hW.size, hW.trans (hb.mono hW.size)⟩
  have hfin : ∀ W p cap, Below w.heap.size w W → Rw W w.heap.size (.slice p xs.length cap) xs → ∃ S' v', Ending.returned (.pointer (some ⟨W.heap.size, 0, none⟩)) = .returned (.pointer (some ⟨S', 0, none⟩)) ∧ St (W.alloc (.cells #[.int .i64 n, .slice p xs.length cap] 53)) S' v' n xs ∧ w.heap.size ≤ S' ∧ (∀ g ∈ ob v', w.heap.size ≤ g) ∧ Below w.heap.size w (W.alloc (.cells #[.int .i64 n, .slice p xs.length cap] 53)) := fun W p cap hW hr =>
    ⟨W.heap.size, _, rfl, ⟨Is.new _ _ _, (hr.kept ((Kp.refl W []).alloc _) (by simp)).low (Nat.zero_le _), h.ok, h.lo, h.hi⟩, hW.size, fun g hg => (hr.lt g hg).1, hW.alloc hW.size _⟩
  have hb0 : Below w.heap.size w w.drew := ⟨rfl, rfl, rfl, Nat.le_refl _, fun _ _ => rfl⟩
  obtain ⟨s0, s1⟩ := hf _ (Below.refl _ w)
  obtain ⟨p0, cap0, rfl⟩ := h.row.len
  clear h
  generalize xs.length = k at *
  go_enter Try.func20, Try.ntmps20
  go_wp2_with (go_at_call 29; refine hM.mono ?_; clear hM; rintro e w' ⟨rfl, rfl⟩)
  go_region_with (go_at_call 36; refine (hC _ hb0).mono ?_; rintro e w1 ⟨p, cap, rfl, hr, hb1⟩; obtain ⟨t0, t1⟩ := hf w1 hb1)
  all_goals go_wp2
  all_goals go_ret
  all_goals exact hfin _ _ _ hb1 hr
end Go.Proofs.Ytfccdalhmmddlaa
