/- Moves, in the program, of any key. Conditions: the listed families as the program's text lays them; keys of a thousand bytes at most. -/
import Derived.Test.YtnpgoahdemfkpaaDoorWalksL
namespace Go.Proofs.YtnpgoahdemfkpaaDoor
open Go.ChangeShapes Go.WideShapes Go.RowKit Go.Path
set_option maxRecDepth 100000
set_option linter.unusedVariables false
set_option linter.unusedSimpArgs false
/-- Is k of this family, and under the joint j? -/
def mt (c : UInt8) (j k : B) : Bool := match k with
  | [] => false
  | x :: s => (x == c) && under j s
theorem mt_iff (c : UInt8) (j k : B) : mt c j k = true ↔ ∃ s, k = c :: (j ++ s) ∧ Tail s := by
  rcases k with _ | ⟨x, s⟩
  · simp [mt]
  · simp only [mt, Bool.and_eq_true, beq_iff_eq, under_iff, List.cons.injEq]
    constructor
    · rintro ⟨rfl, t, rfl, h⟩; exact ⟨t, ⟨rfl, rfl⟩, h⟩
    · rintro ⟨t, ⟨rfl, rfl⟩, h⟩; exact ⟨rfl, t, rfl, h⟩
theorem pre_iff (k p : B) : Lib.hasPrefix k p = true ↔ ∃ s, k = p ++ s := by
  unfold Lib.hasPrefix
  rw [List.isPrefixOf_iff_prefix]
  exact ⟨fun ⟨s, h⟩ => ⟨s, h.symm⟩, fun ⟨s, h⟩ => ⟨s, h.symm⟩⟩
theorem trim_at (p s : B) : Lib.trimPrefix (p ++ s) p = s := by
  unfold Lib.trimPrefix
  rw [if_pos ((pre_iff _ _).2 ⟨s, rfl⟩), List.drop_left]
theorem pre0 (s : B) : Lib.hasPrefix s [0] = true ↔ s.head? = some 0 := by
  rcases s with _ | ⟨x, s⟩
  · simp [Lib.hasPrefix]
  · simp [Lib.hasPrefix]; exact ⟨fun h => h.symm, fun h => h.symm⟩
theorem mt_yes {c : UInt8} {j k : B} (hf : Lib.hasPrefix k (c :: j) = true) (h : Lib.trimPrefix k (c :: j) = [] ∨ Lib.hasPrefix (Lib.trimPrefix k (c :: j)) [0] = true) : mt c j k = true := by
  obtain ⟨s, rfl⟩ := (pre_iff _ _).1 hf
  rw [trim_at] at h
  exact (mt_iff _ _ _).2 ⟨s, rfl, h.imp id (pre0 s).1⟩
theorem mt_no {c : UInt8} {j k : B} (h : Lib.hasPrefix k (c :: j) = false ∨ ¬ Lib.trimPrefix k (c :: j) = [] ∧ Lib.hasPrefix (Lib.trimPrefix k (c :: j)) [0] = false) : mt c j k = false := by
  rw [Bool.eq_false_iff]
  intro hm
  obtain ⟨s, rfl, ht⟩ := (mt_iff _ _ _).1 hm
  rw [show c :: (j ++ s) = c :: j ++ s from rfl] at h
  rw [trim_at] at h
  rcases h with h | ⟨h1, h2⟩
  · rw [(pre_iff _ _).2 ⟨s, rfl⟩] at h; cases h
  · rcases ht with rfl | ht
    · exact h1 rfl
    · rw [(pre0 s).2 ht] at h2; cases h2
theorem move_one {c : UInt8} (hc : c = 109 ∨ c = 100) {f t : List B} {k : B} (hm : moves f t = true) (h : mt c (joint f) k = true) : moveK k f t = c :: joint t ++ Lib.trimPrefix k (c :: joint f) := by
  obtain ⟨s, rfl, ht⟩ := (mt_iff _ _ _).1 h
  rw [show c :: (joint f ++ s) = c :: joint f ++ s from rfl, trim_at]
  unfold moveK
  rw [if_pos hm]
  simp only [List.cons_append]
  rw [if_pos ⟨hc, (under_iff _ _).2 ⟨s, rfl, ht⟩⟩, List.drop_left]
theorem move_none {f t : List B} {k : B} (hm : moves f t = true) (h : mt 109 (joint f) k = false) (h' : mt 100 (joint f) k = false) : moveK k f t = k := by
  unfold moveK
  rw [if_pos hm]
  rcases k with _ | ⟨x, s⟩
  · rfl
  · simp only
    rw [if_neg]
    rintro ⟨hx, hu⟩
    obtain ⟨s', rfl, hs⟩ := (under_iff _ _).1 hu
    rcases hx with rfl | rfl
    · rw [(mt_iff _ _ _).2 ⟨s', rfl, hs⟩] at h; cases h
    · rw [(mt_iff _ _ _).2 ⟨s', rfl, hs⟩] at h'; cases h'
theorem move_stay (A C : Option Addr) (n c m d : Nat) (k : ByteArray) (bf bt : Bool) (w : World) (h : bf = false ∨ bf = true ∧ (bt = false ∨ bt = true ∧ ((n : Int) = 0 ∨ ¬ (n : Int) = 0 ∧ (m : Int) = 0)))
    (RF : Hid (Calls Tryd.prog 36 #[.slice A n c] w fun e w' => e = .returned (.bool bf) ∧ w = w'))
    (RT : Hid (Calls Tryd.prog 36 #[.slice C m d] w fun e w' => e = .returned (.bool bt) ∧ w = w')) :
    Calls Tryd.prog 24 #[.string k, .slice A n c, .slice C m d] w fun e w' => e = .returned (.string k) ∧ Below w.heap.size w w' := by
  rcases h with rfl | ⟨rfl, rfl | ⟨rfl, h⟩⟩
  · go_enter Tryd.func24, Tryd.ntmps24
    go_wp2_with fail
    refine RF.out.mono ?_; rintro e w1 ⟨rfl, rfl⟩
    go_wp2
    go_ret
    exact ⟨rfl, Below.refl _ _⟩
  · go_enter Tryd.func24, Tryd.ntmps24
    go_wp2_with fail
    refine RF.out.mono ?_; rintro e w1 ⟨rfl, rfl⟩
    go_wp2_with fail
    refine RT.out.mono ?_; rintro e w1 ⟨rfl, rfl⟩
    go_wp2
    go_ret
    exact ⟨rfl, Below.refl _ _⟩
  · rcases h with h | ⟨h, h'⟩
    · obtain rfl : n = 0 := by omega
      clear h
      go_enter Tryd.func24, Tryd.ntmps24
      go_wp2_with fail
      refine RF.out.mono ?_; rintro e w1 ⟨rfl, rfl⟩
      go_wp2_with fail
      refine RT.out.mono ?_; rintro e w1 ⟨rfl, rfl⟩
      go_wp2
      go_ret
      exact ⟨rfl, Below.refl _ _⟩
    · obtain rfl : m = 0 := by omega
      have hn' : ((n : Int) == 0) = false := by simpa using h
      clear h'
      go_enter Tryd.func24, Tryd.ntmps24
      go_wp2_with fail
      refine RF.out.mono ?_; rintro e w1 ⟨rfl, rfl⟩
      go_wp2_with fail
      refine RT.out.mono ?_; rintro e w1 ⟨rfl, rfl⟩
      go_wp2
      go_ret
      exact ⟨rfl, Below.refl _ _⟩
theorem not_moves {f t : List B} (h : moves f t = false) : right f = false ∨ right f = true ∧ (right t = false ∨ right t = true ∧ ((f.length : Int) = 0 ∨ ¬ (f.length : Int) = 0 ∧ (t.length : Int) = 0)) := by
  simp [moves] at h
  cases hf : right f
  · exact .inl rfl
  · refine .inr ⟨rfl, ?_⟩
    cases ht : right t
    · exact .inl rfl
    · refine .inr ⟨rfl, ?_⟩
      by_cases e : f = []
      · exact .inl (by rw [e]; rfl)
      · exact .inr ⟨by have := List.length_pos_iff.2 e; omega, by rw [h hf ht e]; rfl⟩
theorem cutp_any (k : ByteArray) (p : B) (wx : World) : Calls Tryd.prog 41 #[.string k, .string (bs p)] wx fun e w' => e = .returned (.tuple #[.string (bs (Lib.trimPrefix k.data.toList p)), .bool (Lib.hasPrefix k.data.toList p)]) ∧ wx = w' := by
  refine (Tryd.strings_CutPrefix k (bs p) wx).mono ?_
  rintro e w' ⟨rfl, rfl⟩
  rw [bs_data]
  exact ⟨rfl, rfl⟩
theorem hasp_any (s p : B) (wx : World) : Calls Tryd.prog 42 #[.string (bs s), .string (bs p)] wx fun e w' => e = .returned (.bool (Lib.hasPrefix s p)) ∧ wx = w' := by
  refine (Tryd.strings_HasPrefix (bs s) (bs p) wx).mono ?_
  rintro e w' ⟨rfl, rfl⟩
  rw [bs_data, bs_data]
  exact ⟨rfl, rfl⟩
theorem trim_len (k p : B) : (Lib.trimPrefix k p).length ≤ k.length := by
  unfold Lib.trimPrefix
  split
  · simp
  · exact Nat.le_refl _
theorem ways (f z : Bool) (s : B) : f = false ∨ f = true ∧ (bs s = ⟨#[]⟩ ∨ ¬ (bs s).toList = [] ∧ ((bs s).toList == []) = false ∧ (bs s).toList.isEmpty = false ∧ (z = true ∨ z = false)) := by
  cases f
  · exact .inl rfl
  · refine .inr ⟨rfl, ?_⟩
    rw [text_list, bs_data]
    rcases s with _ | ⟨x, s⟩
    · exact .inl rfl
    · refine .inr ⟨by simp, by simp, rfl, ?_⟩
      cases z <;> simp
theorem bs_nil_iff (s : B) : bs s = ⟨#[]⟩ ↔ s = [] := ⟨fun h => bs_inj (b := []) h, fun h => by rw [h]; rfl⟩
theorem move_any (k : ByteArray) (hk : k.size ≤ 900) (A C : Option Addr) (fr tt : List B) (c d : Nat) (w : World) (h : In w A fr c) (h' : In w C tt d) (hL : Laid w) :
    Calls Tryd.prog 24 #[.string k, .slice A fr.length c, .slice C tt.length d] w fun e w' => e = .returned (.string (bs (moveK k.data.toList fr tt))) ∧ Below w.heap.size w w' := by
  cases hm : moves fr tt
  · have e : moveK k.data.toList fr tt = k.data.toList := if_neg (by rw [hm]; decide)
    rw [e, bs_of]
    exact move_stay A C fr.length c tt.length d k _ _ w (not_moves hm) (Lib.hid h.right) (Lib.hid h'.right)
  · have hmm := hm
    simp [moves] at hmm
    obtain ⟨⟨⟨hf, ht⟩, hf0⟩, ht0⟩ := hmm
    have hz : k.data.toList.length = k.size := (Lib.size_eq k).symm
    have lf := right_len hf; have lt := right_len ht
    have hRF := h.right; rw [hf] at hRF
    have hRT := h'.right; rw [ht] at hRT
    refine move_core A C fr.length c tt.length d k (bs (109 :: joint fr)) (bs (100 :: joint fr)) (bs (Lib.trimPrefix k.data.toList (109 :: joint fr))) (bs (Lib.trimPrefix k.data.toList (100 :: joint fr))) (bs (109 :: joint tt)) (bs (100 :: joint tt)) _
      (Lib.hasPrefix k.data.toList (109 :: joint fr)) (Lib.hasPrefix k.data.toList (100 :: joint fr)) (Lib.hasPrefix (Lib.trimPrefix k.data.toList (109 :: joint fr)) [0]) (Lib.hasPrefix (Lib.trimPrefix k.data.toList (100 :: joint fr)) [0]) (mt 109 (joint fr) k.data.toList) (mt 100 (joint fr) k.data.toList)
      (by have := List.length_pos_iff.2 hf0; omega) (by have := List.length_pos_iff.2 ht0; omega) (by rw [bs_size]; have := trim_len k.data.toList (109 :: joint fr); omega) (by rw [bs_size]; have := trim_len k.data.toList (100 :: joint fr); omega) (by rw [bs_size]; simp; omega) (by rw [bs_size]; simp; omega) w hL
      (Lib.hid hRF) (Lib.hid hRT) (Lib.hid fun wx hb => (h.kept hb).head hf 109 110) (Lib.hid fun wx hb => (h.kept hb).head hf 100 101) (Lib.hid fun wx hb => (h'.kept hb).head ht 109 110) (Lib.hid fun wx hb => (h'.kept hb).head ht 100 101)
      (Lib.hid fun wx => cutp_any k _ wx) (Lib.hid fun wx => cutp_any k _ wx) (Lib.hid fun wx => hasp_any _ [0] wx) (Lib.hid fun wx => hasp_any _ [0] wx) (Lib.hid (ways _ _ _)) (Lib.hid (ways _ _ _))
      (Lib.hid fun hh => mt_yes (hh.elim (fun a => a.1) (fun a => a.1)) (hh.elim (fun a => .inl ((bs_nil_iff _).1 a.2)) (fun a => .inr a.2)))
      (Lib.hid fun hh => mt_no (hh.imp id fun ⟨a, b⟩ => ⟨by rw [text_list, bs_data] at a; exact a, b⟩))
      (Lib.hid fun hh => mt_yes (hh.elim (fun a => a.1) (fun a => a.1)) (hh.elim (fun a => .inl ((bs_nil_iff _).1 a.2)) (fun a => .inr a.2)))
      (Lib.hid fun hh => mt_no (hh.imp id fun ⟨a, b⟩ => ⟨by rw [text_list, bs_data] at a; exact a, b⟩))
      (Lib.hid fun ok => by rw [move_one (.inl rfl) hm ok, bs_app]) (Lib.hid fun _ ok => by rw [move_one (.inr rfl) hm ok, bs_app]) (Lib.hid fun a b => by rw [move_none hm a b, bs_of])
end Go.Proofs.YtnpgoahdemfkpaaDoor
