/- The document's keys of blocks. Conditions: a hundred thousand names at most. -/
import Derived.Test.YtnpgoahdemfkpaaDoorWalksJ
namespace Go.Proofs.YtnpgoahdemfkpaaDoor
open Go.ChangeShapes Go.WideShapes Go.RowKit Go.Path
set_option maxRecDepth 100000
set_option linter.unusedVariables false
set_option linter.unusedSimpArgs false
set_option maxHeartbeats 4000000 in
theorem rblock_core (A : Option Addr) (n c : Nat) (i : Nat) (hi : i < 32) (J : ByteArray) (hT : J.size ≤ 1000) (hn : ¬ (n : Int) = 0) (w : World)
    (R : Hid (∀ wx, Below w.heap.size w wx → Calls Tryd.prog 38 #[.slice A n c] wx fun e w' => e = .returned (.bool true) ∧ wx = w'))
    (K : Hid (∀ wx, Below w.heap.size w wx → Calls Tryd.prog 39 #[.slice A n c] wx fun e w' => e = .returned (.string J) ∧ wx = w')) :
    Calls Tryd.prog 18 #[.slice A n c, .int .i64 i] w fun e w' => e = .returned (.string (⟨#[100]⟩ ++ J ++ ⟨#[0, 0]⟩ ++ ⟨#[0, i.toUInt8]⟩)) ∧ Below w.heap.size w w' := by
  have hn' : ((n : Int) == 0) = false := by simpa using hn
  obtain ⟨z, hz⟩ : ∃ z, z = i.toUInt8 := ⟨_, rfl⟩
  have hzi : z.toNat = i := by rw [hz]; exact toNat_small hi
  have CV := Lib.hid (fun (wx : World) (g : Nat) (h0 : wx.cell? ⟨g, 0, none⟩ = some (.int .u8 0)) (h1 : wx.cell? ⟨g, 1, none⟩ = some (.int .u8 (i : Int))) => two_text (w := wx) (g := g) (x := 0) (y := z) h0 (by rw [hzi]; exact h1))
  rw [← hz]
  clear hz hzi
  have s0 : (⟨#[100]⟩ : ByteArray).size = 1 := rfl
  have s1 : (⟨#[0, 0]⟩ : ByteArray).size = 2 := rfl
  have s2 : (⟨#[0, z]⟩ : ByteArray).size = 2 := rfl
  have o1 : ¬ 9223372036854775807 < (⟨#[100]⟩ : ByteArray).size + J.size := by omega
  have o2 : ¬ 9223372036854775807 < 1 + J.size := by omega
  have o3 : ¬ 9223372036854775807 < ((⟨#[100]⟩ : ByteArray) ++ J).size + (⟨#[0, 0]⟩ : ByteArray).size := by rw [ByteArray.size_append]; omega
  have o4 : ¬ 9223372036854775807 < ((⟨#[100]⟩ : ByteArray) ++ J).size + 2 := by rw [ByteArray.size_append]; omega
  have o5 : ¬ 9223372036854775807 < ((⟨#[100]⟩ : ByteArray) ++ J ++ (⟨#[0, 0]⟩ : ByteArray)).size + (⟨#[0, z]⟩ : ByteArray).size := by rw [ByteArray.size_append, ByteArray.size_append]; omega
  have o6 : ¬ 9223372036854775807 < ((⟨#[100]⟩ : ByteArray) ++ J ++ (⟨#[0, 0]⟩ : ByteArray)).size + 2 := by rw [ByteArray.size_append, ByteArray.size_append]; omega
  have o7 : ¬ 9223372036854775807 < 1 + J.size + 2 := by omega
  have o8 : ¬ 9223372036854775807 < 1 + J.size + 2 + 2 := by omega
  clear s0 s1 s2
  have hq : (i : Int) / 256 = 0 := by omega
  have hq2 : (i : Int).tdiv 256 = 0 := by rw [Int.tdiv_eq_ediv_of_nonneg (by omega)]; omega
  have hr : (i : Int) % 256 = i := by omega
  have hr2 : (i : Int).tmod 256 = i := by rw [Int.tmod_eq_emod_of_nonneg (by omega)]; omega
  have hw : IntKind.u8.wrap (i : Int) = i := by rw [IntKind.wrap_u8]; omega
  have hw0 : IntKind.u8.wrap (0 : Int) = 0 := by decide
  have hw1 : IntKind.i64.wrap (i : Int) = i := by rw [IntKind.wrap_i64]; omega
  have hw2 : IntKind.i64.wrap (0 : Int) = 0 := by decide
  go_enter Tryd.func18, Tryd.ntmps18
  go_wp2_with fail
  refine (R.out _ (Below.refl _ _)).mono ?_; rintro e w1 ⟨rfl, rfl⟩
  go_upto_region 3 with fail
  have hBd := Lib.hid (show Below w.heap.size w w.drew from ⟨rfl, rfl, rfl, Nat.le_refl _, fun _ _ => rfl⟩)
  have cv := CV.out
  go_region_with (first
    | (go_at_call 39; refine (K.out _ hBd.out).mono ?_; rintro e w1 ⟨rfl, rfl⟩)
    | (go_at_call 39; refine (K.out _ (hBd.out.alloc (Nat.le_refl _) _)).mono ?_; rintro e w1 ⟨rfl, rfl⟩))
  all_goals
    go_wp2
    go_ret
    exact ⟨rfl, hBd.out.alloc (Nat.le_refl _) _⟩
theorem rblock_no (A : Option Addr) (n c : Nat) (i : Int) (b : Bool) (w : World) (hi : -9223372036854775808 ≤ i ∧ i ≤ 9223372036854775807) (h : b = false ∨ (n : Int) = 0 ∨ i < 0 ∨ 31 < i)
    (R : Hid (Calls Tryd.prog 38 #[.slice A n c] w fun e w' => e = .returned (.bool b) ∧ w = w')) :
    Calls Tryd.prog 18 #[.slice A n c, .int .i64 i] w fun e w' => e = .returned (.string ⟨#[]⟩) ∧ Below w.heap.size w w' := by
  obtain ⟨hi1, hi2⟩ := hi
  cases b
  · go_enter Tryd.func18, Tryd.ntmps18
    go_wp2_with fail
    refine R.out.mono ?_; rintro e w1 ⟨rfl, rfl⟩
    go_wp2
    go_ret
    exact ⟨rfl, Below.refl _ _⟩
  · by_cases h0 : (n : Int) = 0
    · obtain rfl : n = 0 := by omega
      go_enter Tryd.func18, Tryd.ntmps18
      go_wp2_with fail
      refine R.out.mono ?_; rintro e w1 ⟨rfl, rfl⟩
      go_wp2
      go_ret
      exact ⟨rfl, Below.refl _ _⟩
    · have h0' : ((n : Int) == 0) = false := by simpa using h0
      have h' : i < 0 ∨ 31 < i := by
        rcases h with h | h | h
        · cases h
        · exact absurd h h0
        · exact h
      clear h
      by_cases h1 : i < 0
      · have h2 : ¬ 31 < i := by omega
        clear h'
        go_enter Tryd.func18, Tryd.ntmps18
        go_wp2_with fail
        refine R.out.mono ?_; rintro e w1 ⟨rfl, rfl⟩
        go_wp2
        go_ret
        exact ⟨rfl, Below.refl _ _⟩
      · have h2 : 31 < i := by omega
        clear h'
        go_enter Tryd.func18, Tryd.ntmps18
        go_wp2_with fail
        refine R.out.mono ?_; rintro e w1 ⟨rfl, rfl⟩
        go_wp2
        go_ret
        exact ⟨rfl, Below.refl _ _⟩
theorem rblock_any (A : Option Addr) (xs : List B) (c : Nat) (i : Int) (hi : -9223372036854775808 ≤ i ∧ i ≤ 9223372036854775807) (w : World) (h : In w A xs c) :
    Calls Tryd.prog 18 #[.slice A xs.length c, .int .i64 i] w fun e w' => e = .returned (.string (bs (blockK xs i))) ∧ Below w.heap.size w w' := by
  cases hb : hasBlock xs i
  · rw [show blockK xs i = [] from if_neg (by rw [hb]; decide)]
    refine rblock_no A xs.length c i (right xs) w hi ?_ (Lib.hid h.rright)
    simp [hasBlock] at hb
    cases hr : right xs
    · exact .inl rfl
    · refine .inr ?_
      by_cases hx : xs = []
      · exact .inl (by rw [hx]; rfl)
      · refine .inr ?_
        by_cases h0 : i < 0
        · exact .inl h0
        · exact .inr (by have := hb hr hx (by omega); omega)
  · obtain ⟨hr, hx, h0, h1⟩ := hasBlock_of hb
    obtain ⟨k, rfl⟩ : ∃ k : Nat, i = (k : Int) := ⟨i.toNat, by omega⟩
    rw [show blockK xs k = blockB xs k from by unfold blockK; rw [if_pos hb]; rfl]
    have := rblock_core A xs.length c k (by omega) (bs (joint xs)) (by rw [bs_size]; have := right_len hr; omega) (by have := List.length_pos_iff.2 hx; omega) w
      (Lib.hid fun wx hb => by have := (h.kept hb).rright; rw [hr] at this; exact this) (Lib.hid fun wx hb => (h.kept hb).rjoint hr)
    rw [bs_cons, bs4] at this
    exact this
end Go.Proofs.YtnpgoahdemfkpaaDoor
