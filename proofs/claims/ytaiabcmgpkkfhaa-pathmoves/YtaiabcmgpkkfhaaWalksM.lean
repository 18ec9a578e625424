/- The laws' helpers: is, fails, awake. Conditions: none that the laws do not keep. -/
import Derived.Test.YtaiabcmgpkkfhaaWalksL
namespace Go.Proofs.Ytaiabcmgpkkfhaa
open Go.ChangeShapes Go.WideShapes Go.RowKit Go.Path
set_option maxRecDepth 100000
set_option linter.unusedVariables false
set_option linter.unusedSimpArgs false
theorem parseL_few (p : B) : (parseL p).length ≤ 6 ∧ ∀ x ∈ parseL p, x.length ≤ 16 := by
  rcases parseE_or p with h | h | h
  · obtain ⟨h1, h2⟩ := text_parse h
    have hT : textE (parseS p) (parseL p) = 0 := h1
    unfold textE at hT
    by_cases g1 : snapB (parseS p) = true
    · rw [if_pos g1] at hT; simp at hT
    rw [if_neg g1] at hT
    by_cases g2 : (parseL p).all name = false
    · rw [if_pos g2] at hT; simp at hT
    rw [if_neg g2] at hT
    by_cases g3 : 6 < (parseL p).length
    · rw [if_pos g3] at hT; simp at hT
    refine ⟨by omega, fun x hx => ?_⟩
    have := List.all_eq_true.1 (show (parseL p).all name = true by simpa using g2) x hx
    exact (name_no this).2.2
  all_goals
    have : parseL p = [] := if_neg (by omega)
    rw [this]; simp
theorem parseS_few (p : B) : (parseS p).length ≤ 16 := by
  rcases parseE_or p with h | h | h
  · have hT := (text_parse h).1
    unfold textE at hT
    by_cases g1 : snapB (parseS p) = true
    · rw [if_pos g1] at hT; simp at hT
    rcases snap_of (show snapB (parseS p) = false by simpa using g1) with h | ⟨h, _⟩
    · rw [h]; simp
    · exact (name_no h).2.2
  all_goals
    have : parseS p = [] := if_neg (by omega)
    rw [this]; simp
theorem join_len_bar : ∀ (xs : List B), (∀ x ∈ xs, x.length ≤ 16) → (Lib.join xs [124]).length ≤ 17 * xs.length
  | [], _ => by simp [Lib.join_nil]
  | [x], h => by rw [Lib.join_one]; have := h x (List.mem_cons_self ..); simp; omega
  | x :: y :: r, h => by
    have h1 := h x (List.mem_cons_self ..)
    have h2 := join_len_bar (y :: r) (fun z hz => h z (List.mem_cons_of_mem _ hz))
    rw [Lib.join_cons] at h2 ⊢
    simp [Lib.joinTail] at h2 ⊢
    omega
theorem is_true (p sn nm : ByteArray) (hp : p.size ≤ 1000) (hE : parseE p.data.toList = 0) (hS : bs (parseS p.data.toList) = sn) (hJ : bs (Lib.join (parseL p.data.toList) [124]) = nm) (w : World) :
    Calls Try.prog 24 #[.string p, .string sn, .string nm] w fun e w' => e = .returned (.bool true) ∧ Below w.heap.size w w' := by
  have P := Lib.hid (parse_any p (by omega))
  obtain ⟨h6, h16⟩ := parseL_few p.data.toList
  have hjl := join_len_bar _ h16
  have J := Lib.hid (fun A c hc w h => join_any A (parseL p.data.toList) c 124 (by omega) hc (by omega) w h)
  unfold GivesParse at P
  rw [hE, hS] at P
  rw [hJ] at J
  generalize parseL p.data.toList = L at *
  clear hE hS hJ hjl h16
  go_enter Try.func24, Try.ntmps24
  go_wp2_with fail
  refine (P.out _).mono ?_; rintro e w1 ⟨A, c, rfl, o1, b1⟩
  have HR := Lib.hid o1.rs
  have hc := o1.2.1
  have B1 := Lib.hid b1; clear o1 b1
  have HC := Lib.hid hc; clear hc
  go_wp2_with fail
  refine (J.out _ _ HC.out _ HR.out).mono ?_; rintro e w2 ⟨rfl, b2⟩
  have B2 := Lib.hid b2; clear b2
  go_wp2
  go_ret
  exact ⟨rfl, B1.out.trans (B2.out.mono B1.out.size)⟩
theorem fails_true (p : ByteArray) (hp : p.size ≤ 1000) (k : Nat) (hE : parseE p.data.toList = k) (hk : k ≠ 0) (w : World) :
    Calls Try.prog 25 #[.string p, .int .i64 k] w fun e w' => e = .returned (.bool true) ∧ Below w.heap.size w w' := by
  have P := Lib.hid (parse_any p (by omega))
  unfold GivesParse at P
  have h1 : parseS p.data.toList = [] := if_neg (by omega)
  have h2 : parseL p.data.toList = [] := if_neg (by omega)
  rw [hE, h1, h2, show bs [] = ⟨#[]⟩ from rfl, List.length_nil] at P
  clear h1 h2 hE
  go_enter Try.func25, Try.ntmps25
  go_wp2_with fail
  refine (P.out _).mono ?_; rintro e w1 ⟨A, c, rfl, o1, b1⟩
  have B1 := Lib.hid b1; clear o1 b1
  go_wp2
  go_ret
  exact ⟨rfl, B1.out⟩
theorem Rs.lit (w : World) (xs : List B) : Rs (w.alloc (.cells (xs.map str).toArray 9)) (some ⟨w.heap.size, 0, none⟩) xs := by
  refine .inr ⟨w.heap.size, 0, rfl, by simp, fun i y hy => ?_⟩
  have := heap_alloc_new w (.cells (xs.map str).toArray 9)
  rw [cell_of_row _ _ _ _ _ _ this, Nat.zero_add]
  simp [hy]
theorem awake_any (w : World) : Calls Try.prog 9 #[] w fun e w' => e = .returned (.bool true) ∧ Below w.heap.size w w' := by
  have T := Lib.hid (fun A w h => text_any A [[97], [98]] 2 ⟨#[115]⟩ (by simp) (by simp) (by simp) (by decide) w h)
  have hT : GivesText (⟨#[115]⟩ : ByteArray).data.toList [[97], [98]] = fun w e w' => e = .returned (.tuple #[.string ⟨#[115, 58, 47, 97, 47, 98]⟩, .int .i64 (0 : Nat)]) ∧ Below w.heap.size w w' := rfl
  rw [hT] at T
  have L := Lib.hid (Rs.lit w [[97], [98]])
  have I1 := Lib.hid (is_true ⟨#[47]⟩ ⟨#[]⟩ ⟨#[]⟩ (by decide) (by rfl) (by rfl) (by rfl))
  have I2 := Lib.hid (is_true ⟨#[115, 58, 47, 97]⟩ ⟨#[115]⟩ ⟨#[97]⟩ (by decide) (by rfl) (by rfl) (by rfl))
  have F := Lib.hid (fails_true ⟨#[]⟩ (by decide) 4 (by rfl) (by decide))
  go_enter Try.func9, Try.ntmps9
  go_wp2_with fail
  refine (T.out _ _ L.out).mono ?_; rintro e w1 ⟨rfl, b1⟩
  have B0 := Lib.hid (((Below.refl w.heap.size w).alloc (Nat.le_refl _) (.cells #[.string ⟨#[97]⟩, .string ⟨#[98]⟩] 9)).trans (b1.mono (by simp))); clear b1
  go_wp2_with fail
  refine (I1.out _).mono ?_; rintro e w2 ⟨rfl, b2⟩
  have B2 := Lib.hid (B0.out.trans (b2.mono B0.out.size)); clear b2
  go_wp2_with fail
  refine (I2.out _).mono ?_; rintro e w3 ⟨rfl, b3⟩
  have B3 := Lib.hid (B2.out.trans (b3.mono B2.out.size)); clear b3
  go_wp2_with fail
  refine (F.out _).mono ?_; rintro e w4 ⟨rfl, b4⟩
  have B4 := Lib.hid (B3.out.trans (b4.mono B3.out.size)); clear b4
  go_wp2
  go_ret
  exact ⟨rfl, B4.out⟩
end Go.Proofs.Ytaiabcmgpkkfhaa
