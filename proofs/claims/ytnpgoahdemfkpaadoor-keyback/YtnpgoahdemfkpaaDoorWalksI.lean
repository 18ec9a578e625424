/- The keys of blocks, in the program. Conditions: the listed families as the program's text lays them; a hundred thousand names at most. -/
import Derived.Test.YtnpgoahdemfkpaaDoorWalksG
import Derived.Deep.Cut
namespace Go.Proofs.YtnpgoahdemfkpaaDoor
open Go.ChangeShapes Go.WideShapes Go.RowKit Go.Path
set_option maxRecDepth 100000
set_option linter.unusedVariables false
set_option linter.unusedSimpArgs false
theorem two_text {w : World} {g : Nat} {x y : UInt8} (h0 : w.cell? ⟨g, 0, none⟩ = some (.int .u8 (x.toNat : Int))) (h1 : w.cell? ⟨g, 1, none⟩ = some (.int .u8 (y.toNat : Int))) :
    (convert 59 9 (.slice (some ⟨g, 0, none⟩) 2 2)).run Tryd.prog w = .ok (.string ⟨#[x, y]⟩) w := by
  have h := run_convert_bytes_back (P := Tryd.prog) w 59 9 5 ⟨g, 0, none⟩ 2 [x, y] Tryd.underlying59 Tryd.underlying5 Tryd.underlying9 (fun j hj => by
    simp at hj
    have e : (⟨g, 0, none⟩ : Addr).add j = ⟨g, j, none⟩ := by unfold Addr.add; split <;> simp_all
    rw [e]
    rcases j with _ | _ | j
    · exact h0
    · exact h1
    · omega)
  exact h
set_option maxHeartbeats 4000000 in
theorem block_core (A : Option Addr) (n c : Nat) (i : Nat) (hi : i < 32) (T : ByteArray) (hT : T.size ≤ 1000) (hn : ¬ (n : Int) = 0) (w : World) (hL : Laid w)
    (R : Hid (∀ wx, Below w.heap.size w wx → Calls Tryd.prog 36 #[.slice A n c] wx fun e w' => e = .returned (.bool true) ∧ wx = w'))
    (K : Hid (∀ wx, Below w.heap.size w wx → Calls Tryd.prog 40 #[.agg #[.string ⟨#[100]⟩, .string ⟨#[101]⟩], .slice A n c] wx fun e w' => e = .returned (.string T) ∧ Below wx.heap.size wx w')) :
    Calls Tryd.prog 17 #[.slice A n c, .int .i64 i] w fun e w' => e = .returned (.string (T ++ ⟨#[0, 0]⟩ ++ ⟨#[0, i.toUInt8]⟩)) ∧ Below w.heap.size w w' := by
  have hn' : ((n : Int) == 0) = false := by simpa using hn
  obtain ⟨z, hz⟩ : ∃ z, z = i.toUInt8 := ⟨_, rfl⟩
  have hzi : z.toNat = i := by rw [hz]; exact toNat_small hi
  have CV := Lib.hid (fun (wx : World) (g : Nat) (h0 : wx.cell? ⟨g, 0, none⟩ = some (.int .u8 0)) (h1 : wx.cell? ⟨g, 1, none⟩ = some (.int .u8 (i : Int))) => two_text (w := wx) (g := g) (x := 0) (y := z) h0 (by rw [hzi]; exact h1))
  rw [← hz]
  clear hz hzi
  have hov : ¬ 9223372036854775807 < T.size + (⟨#[0, 0]⟩ : ByteArray).size := by
    have : (⟨#[0, 0]⟩ : ByteArray).size = 2 := rfl
    omega
  have hov1 : ¬ 9223372036854775807 < T.size + 2 := by omega
  have hov2 : ¬ 9223372036854775807 < (T ++ (⟨#[0, 0]⟩ : ByteArray)).size + (⟨#[0, z]⟩ : ByteArray).size := by
    have : (⟨#[0, 0]⟩ : ByteArray).size = 2 := rfl
    have : (⟨#[0, z]⟩ : ByteArray).size = 2 := rfl
    rw [ByteArray.size_append]; omega
  have hov3 : ¬ 9223372036854775807 < (T ++ (⟨#[0, 0]⟩ : ByteArray)).size + 2 := by
    have : (⟨#[0, 0]⟩ : ByteArray).size = 2 := rfl
    rw [ByteArray.size_append]; omega
  have hov4 : ¬ 9223372036854775807 < T.size + 2 + 2 := by omega
  have hq : (i : Int) / 256 = 0 := by omega
  have hw : IntKind.u8.wrap (i : Int) = i := by rw [IntKind.wrap_u8]; omega
  have hw0 : IntKind.u8.wrap (0 : Int) = 0 := by decide
  go_enter Tryd.func17, Tryd.ntmps17
  go_wp2_with fail
  refine (R.out _ (Below.refl _ _)).mono ?_; rintro e w1 ⟨rfl, rfl⟩
  go_upto_region 3 with fail
  obtain ⟨⟨a0, a1⟩, ⟨a2, a3⟩, hlt⟩ := hL
  have hBd := Lib.hid (show Below w.heap.size w w.drew from ⟨rfl, rfl, rfl, Nat.le_refl _, fun _ _ => rfl⟩)
  have cv := CV.out
  go_region_with (first
    | (go_at_call 40; refine (K.out _ hBd.out).mono ?_; rintro e w1 ⟨rfl, hb⟩; have BB := Lib.hid (hBd.out.trans hb); clear hb)
    | (go_at_call 40; refine (K.out _ (hBd.out.alloc (Nat.le_refl _) _)).mono ?_; rintro e w1 ⟨rfl, hb⟩; have I1 := (Is.new w.drew 5 #[.int .u8 0, .int .u8 (i : Int)]).kept hb; have g0 : w1.cell? ⟨w.heap.size, 0, none⟩ = some (.int .u8 0) := I1.cell 0; have g1 : w1.cell? ⟨w.heap.size, 1, none⟩ = some (.int .u8 (i : Int)) := I1.cell 1; have BC := Lib.hid ((hBd.out.alloc (Nat.le_refl _) (.cells #[.int .u8 0, .int .u8 (i : Int)] 5)).trans (hb.mono (by simp))); clear I1 hb))
  all_goals
    go_wp2
    go_ret
    first
    | exact ⟨rfl, BC.out⟩
    | exact ⟨rfl, BB.out.alloc BB.out.size _⟩
theorem block_no (F : Nat) (A : Option Addr) (n c : Nat) (i : Int) (b : Bool) (w : World) (hi : -9223372036854775808 ≤ i ∧ i ≤ 9223372036854775807) (h : b = false ∨ (n : Int) = 0 ∨ i < 0 ∨ 31 < i)
    (R : Hid (Calls Tryd.prog 36 #[.slice A n c] w fun e w' => e = .returned (.bool b) ∧ w = w')) :
    Calls Tryd.prog 17 #[.slice A n c, .int .i64 i] w fun e w' => e = .returned (.string ⟨#[]⟩) ∧ Below w.heap.size w w' := by
  obtain ⟨hi1, hi2⟩ := hi
  cases b
  · go_enter Tryd.func17, Tryd.ntmps17
    go_wp2_with fail
    refine R.out.mono ?_; rintro e w1 ⟨rfl, rfl⟩
    go_wp2
    go_ret
    exact ⟨rfl, Below.refl _ _⟩
  · by_cases h0 : (n : Int) = 0
    · obtain rfl : n = 0 := by omega
      go_enter Tryd.func17, Tryd.ntmps17
      go_wp2_with fail
      refine R.out.mono ?_; rintro e w1 ⟨rfl, rfl⟩
      go_wp2
      go_ret
      exact ⟨rfl, Below.refl _ _⟩
    · have h0' : ((n : Int) == 0) = false := by simpa using h0
      have h' : i < 0 ∨ 31 < i := by
        rcases h with h | h | h
        · cases h
        · exact absurd h h0
        · exact h
      clear h
      by_cases h1 : i < 0
      · have h2 : ¬ 32 ≤ i := by omega
        clear h'
        go_enter Tryd.func17, Tryd.ntmps17
        go_wp2_with fail
        refine R.out.mono ?_; rintro e w1 ⟨rfl, rfl⟩
        go_wp2
        go_ret
        exact ⟨rfl, Below.refl _ _⟩
      · have h2 : 32 ≤ i := by omega
        clear h'
        go_enter Tryd.func17, Tryd.ntmps17
        go_wp2_with fail
        refine R.out.mono ?_; rintro e w1 ⟨rfl, rfl⟩
        go_wp2
        go_ret
        exact ⟨rfl, Below.refl _ _⟩
theorem bs4 (T : B) (i : Nat) : bs T ++ ⟨#[0, 0]⟩ ++ ⟨#[0, i.toUInt8]⟩ = bs (T ++ [0, 0, 0, i.toUInt8]) := by
  have : bs T ++ bs [0, 0] ++ bs [0, i.toUInt8] = bs (T ++ [0, 0] ++ [0, i.toUInt8]) := by rw [bs_app, bs_app]
  rw [show T ++ [0, 0] ++ [0, i.toUInt8] = T ++ [0, 0, 0, i.toUInt8] by simp] at this
  exact this
theorem block_any (A : Option Addr) (xs : List B) (c : Nat) (i : Int) (hi : -9223372036854775808 ≤ i ∧ i ≤ 9223372036854775807) (w : World) (h : In w A xs c) (hL : Laid w) :
    Calls Tryd.prog 17 #[.slice A xs.length c, .int .i64 i] w fun e w' => e = .returned (.string (bs (blockK xs i))) ∧ Below w.heap.size w w' := by
  cases hb : hasBlock xs i
  · rw [show blockK xs i = [] from if_neg (by rw [hb]; decide)]
    refine block_no 0 A xs.length c i (right xs) w hi ?_ (Lib.hid h.right)
    simp [hasBlock] at hb
    cases hr : right xs
    · exact .inl rfl
    · refine .inr ?_
      by_cases hx : xs = []
      · exact .inl (by rw [hx]; rfl)
      · refine .inr ?_
        by_cases h0 : i < 0
        · exact .inl h0
        · exact .inr (by have := hb hr hx (by omega); omega)
  · obtain ⟨hr, hx, h0, h1⟩ := hasBlock_of hb
    obtain ⟨k, rfl⟩ : ∃ k : Nat, i = (k : Int) := ⟨i.toNat, by omega⟩
    rw [show blockK xs k = blockB xs k from by unfold blockK; rw [if_pos hb]; rfl]
    have := block_core A xs.length c k (by omega) (bs (100 :: joint xs)) (by rw [bs_size]; have := right_len hr; simp; omega) (by have := List.length_pos_iff.2 hx; omega) w hL
      (Lib.hid fun wx hb => by have := (h.kept hb).right; rw [hr] at this; exact this) (Lib.hid fun wx hb => (h.kept hb).head hr 100 101)
    rw [bs4] at this
    exact this
end Go.Proofs.YtnpgoahdemfkpaaDoor
