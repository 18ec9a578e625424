/- Give; calls of what is no set; slices.Clone, Copy. Conditions: none. -/
import Derived.Test.YtnpjbddannkgfaaSpJ
namespace Go.Proofs.Ytnpjbddannkgfaa
open Go.ChangeShapes Go.WideShapes Go.RowKit Go.Spans Go.Shelf
set_option maxRecDepth 100000
theorem give_c {w : World} {S n : Nat} {v : Value} {xs : List Sp} (h : St w S v n xs) (a : Int) (h1 : -9223372036854775808 ≤ a) (h2 : a ≤ 9223372036854775807) :
    Calls Try.prog 54 #[.pointer (some ⟨S, 0, none⟩), .int .i64 a] w fun e w' => e = .returned (.int .i64 (fillE n xs a (a + 1))) ∧ ∃ v', To w w' S v v' n (fillX n xs a (a + 1)) := by
  have hn := h.hi
  have hF : Calls Try.prog 32 #[.pointer (some ⟨S, 0, none⟩), .int .i64 a, .int .i64 (IntKind.i64.wrap (a + 1))] w fun e w' => e = .returned (.int .i64 (fillE n xs a (a + 1))) ∧ ∃ v', To w w' S v v' n (fillX n xs a (a + 1)) := by
    have := fill_c h a (IntKind.i64.wrap (a + 1))
    by_cases he : a = 9223372036854775807
    · subst he
      have e1 : IntKind.i64.wrap (9223372036854775807 + 1) = -9223372036854775808 := by decide
      rw [e1] at this ⊢
      have c1 : fillE n xs 9223372036854775807 (-9223372036854775808) = 2 := by rw [fillE, if_pos (by omega)]
      have c2 : fillE n xs 9223372036854775807 (9223372036854775807 + 1) = 2 := by rw [fillE, if_pos (by omega)]
      have c3 : fillX n xs 9223372036854775807 (-9223372036854775808) = xs := by rw [fillX, if_pos (.inl (by omega))]
      have c4 : fillX n xs 9223372036854775807 (9223372036854775807 + 1) = xs := by rw [fillX, if_pos (.inl (by omega))]
      rw [c1, c3] at this
      rw [c2, c4]
      exact this
    · rw [wrap_small (by omega) (by omega)] at this ⊢
      exact this
  generalize fillE n xs a (a + 1) = E at *
  generalize fillX n xs a (a + 1) = X at *
  generalize hb : IntKind.i64.wrap (a + 1) = b at *
  clear h
  go_enter Try.func54, Try.ntmps54
  go_wp2_with (go_at_call 32; refine hF.mono ?_; clear hF; rintro e w' ⟨rfl, v', hto⟩)
  go_ret
  exact ⟨rfl, v', hto⟩
theorem give_nil (a : Int) (w : World) : Calls Try.prog 54 #[.pointer none, .int .i64 a] w fun e w' => e = .returned (.int .i64 1) ∧ w' = w := by
  have hM := isMade_nil w
  generalize hb : IntKind.i64.wrap (a + 1) = b
  have hF : Calls Try.prog 32 #[.pointer none, .int .i64 a, .int .i64 b] w fun e w' => e = .returned (.int .i64 1) ∧ w' = w := by
    go_enter Try.func32, Try.ntmps32
    go_wp2_with (go_at_call 56; refine hM.mono ?_; clear hM; rintro e w' ⟨rfl, rfl⟩)
    go_ret
    exact ⟨rfl, rfl⟩
  go_enter Try.func54, Try.ntmps54
  go_wp2_with (go_at_call 32; refine hF.mono ?_; clear hF; rintro e w' ⟨rfl, rfl⟩)
  go_ret
  exact ⟨rfl, rfl⟩
theorem fill_zero {w : World} {S : Nat} {v : Value} (h : Is w S 99 #[.int .i64 0, v]) (a b : Int) : Calls Try.prog 32 #[.pointer (some ⟨S, 0, none⟩), .int .i64 a, .int .i64 b] w fun e w' => e = .returned (.int .i64 1) ∧ w' = w := by
  have hM := isMade_zero h
  clear h
  go_enter Try.func32, Try.ntmps32
  go_wp2_with (go_at_call 56; refine hM.mono ?_; clear hM; rintro e w' ⟨rfl, rfl⟩)
  go_ret
  exact ⟨rfl, rfl⟩
theorem take_nil (a : Int) (w : World) : Calls Try.prog 51 #[.pointer none, .int .i64 a] w fun e w' => e = .returned (.tuple #[.slice none 0 0, .int .i64 1]) ∧ w' = w := by
  have hM := isMade_nil w
  go_enter Try.func51, Try.ntmps51
  go_wp2_with (go_at_call 56; refine hM.mono ?_; clear hM; rintro e w' ⟨rfl, rfl⟩)
  go_ret2
  exact ⟨rfl, rfl⟩
end Go.Proofs.Ytnpjbddannkgfaa
