/- All noughts, in the program. Conditions: lengths below 2^30. -/
import Derived.Test.YtlidieffaaicaaaGreatSealR
namespace Go.Proofs.YtlidieffaaicaaaGreat
open Go.ChangeShapes Go.WideShapes Go.RowKit Go.Codec
set_option maxRecDepth 100000
set_option linter.unusedVariables false
theorem is0 (b : Nat) (hb : b < 256) (v : Bool) (hv : ((b : Int) == 0) = !v) (w : World) : Calls Tryz.prog 110 #[.int .u8 b] w fun e w' => e = .returned (.bool v) ∧ w = w' := by
  go_enter Tryz.func110, Tryz.ntmps110
  go_wp2
  go_ret
  refine ⟨?_, rfl⟩
  show Ending.returned (.bool ((b : Int) != 0)) = _
  unfold bne
  rw [hv]; simp
theorem index_at (g : Nat) (l : List Nat) (cap p : Nat) (hl : l.length ≤ 1073741824) (hp : p < l.length) (h0 : ∀ j, j < p → l.getD j 0 = 0) (h1 : l.getD p 0 ≠ 0) (w : World) (h : Row g l w) :
    Calls Tryz.prog 133 #[.slice (some ⟨g, 0, none⟩) l.length cap, .func (.func 110) #[] #[]] w fun e w' => e = .returned (.int .i64 p) ∧ w = w' := by
  have H0 := Lib.hid h0; have H1 := Lib.hid h1; have HR := Lib.hid h; clear h0 h1 h
  obtain ⟨n, hn⟩ : ∃ n, n = l.length := ⟨_, rfl⟩
  rw [← hn] at hl hp ⊢
  have HN := Lib.hid hn; clear hn
  go_enter Tryz.func133, Tryz.ntmps133
  go_wp2
  go_loop [8] (fun i => ∃ k : Nat, k ≤ p ∧ i = .int .i64 k) (fun i => p - (intOf i).toNat)
  case atStart => exact ⟨0, by omega, rfl⟩
  case round =>
    obtain ⟨k, hk, rfl⟩ := hrel
    have hkl : k < l.length := by have := HN.out; omega
    have hc := HR.out.cell k hkl
    have hb := HR.out.at_lt k hkl
    by_cases hkp : k < p
    · have e0 := H0.out k hkp
      rw [e0] at hc hb
      have HS := Lib.hid (is0 0 hb false rfl)
      clear hkl e0 hb
      go_wp2_with fail
      refine (HS.out _).mono ?_; rintro e w1 ⟨rfl, rfl⟩
      go_wp2
      exact ⟨⟨k + 1, by omega, rfl⟩, by simp [intOf]; omega⟩
    · obtain rfl : k = p := by omega
      have HS := Lib.hid (is0 (l.getD k 0) hb true (by rw [Bool.not_true, beq_eq_false_iff_ne]; have := H1.out; omega))
      generalize l.getD k 0 = x at *
      clear hkl hb hk hkp
      go_wp2_with fail
      refine (HS.out _).mono ?_; rintro e w1 ⟨rfl, rfl⟩
      go_wp2
      go_ret
      exact ⟨rfl, rfl⟩
theorem index_none (g : Nat) (l : List Nat) (cap : Nat) (hl : l.length ≤ 1073741824) (h0 : ∀ j, j < l.length → l.getD j 0 = 0) (w : World) (h : Row g l w) :
    Calls Tryz.prog 133 #[.slice (some ⟨g, 0, none⟩) l.length cap, .func (.func 110) #[] #[]] w fun e w' => e = .returned (.int .i64 (-1)) ∧ w = w' := by
  have H0 := Lib.hid h0; have HR := Lib.hid h; clear h0 h
  obtain ⟨n, hn⟩ : ∃ n, n = l.length := ⟨_, rfl⟩
  rw [← hn] at hl ⊢
  have HN := Lib.hid hn; clear hn
  go_enter Tryz.func133, Tryz.ntmps133
  go_wp2
  go_loop [8] (fun i => ∃ k : Nat, k ≤ n ∧ i = .int .i64 k) (fun i => n - (intOf i).toNat)
  case atStart => exact ⟨0, by omega, rfl⟩
  case round =>
    obtain ⟨k, hk, rfl⟩ := hrel
    by_cases hkn : k < n
    · have hkl : k < l.length := by have := HN.out; omega
      have hc := HR.out.cell k hkl
      have hb := HR.out.at_lt k hkl
      have e0 := H0.out k hkl
      rw [e0] at hc hb
      have HS := Lib.hid (is0 0 hb false rfl)
      clear hkl e0 hb
      go_wp2_with fail
      refine (HS.out _).mono ?_; rintro e w1 ⟨rfl, rfl⟩
      go_wp2
      exact ⟨⟨k + 1, by omega, rfl⟩, by simp [intOf]; omega⟩
    · obtain rfl : k = n := by omega
      go_wp2
      go_ret
      exact ⟨rfl, rfl⟩
theorem contains_at (g : Nat) (l : List Nat) (cap p : Nat) (hl : l.length ≤ 1073741824) (hp : p < l.length) (h0 : ∀ j, j < p → l.getD j 0 = 0) (h1 : l.getD p 0 ≠ 0) (w : World) (h : Row g l w) :
    Calls Tryz.prog 109 #[.slice (some ⟨g, 0, none⟩) l.length cap, .func (.func 110) #[] #[]] w fun e w' => e = .returned (.bool true) ∧ w = w' := by
  have H := Lib.hid (index_at g l cap p hl hp h0 h1 w h)
  clear h0 h1 h hp
  generalize l.length = n at *
  go_enter Tryz.func109, Tryz.ntmps109
  go_wp2_with fail
  refine H.out.mono ?_; rintro e w1 ⟨rfl, rfl⟩
  go_wp2
  go_ret
  exact ⟨rfl, rfl⟩
theorem contains_none (g : Nat) (l : List Nat) (cap : Nat) (hl : l.length ≤ 1073741824) (h0 : ∀ j, j < l.length → l.getD j 0 = 0) (w : World) (h : Row g l w) :
    Calls Tryz.prog 109 #[.slice (some ⟨g, 0, none⟩) l.length cap, .func (.func 110) #[] #[]] w fun e w' => e = .returned (.bool false) ∧ w = w' := by
  have H := Lib.hid (index_none g l cap hl h0 w h)
  clear h0 h
  generalize l.length = n at *
  go_enter Tryz.func109, Tryz.ntmps109
  go_wp2_with fail
  refine H.out.mono ?_; rintro e w1 ⟨rfl, rfl⟩
  go_wp2
  go_ret
  exact ⟨rfl, rfl⟩
theorem first_other (l : List Nat) (h : ¬ ∀ j, j < l.length → l.getD j 0 = 0) : ∃ p, p < l.length ∧ (∀ j, j < p → l.getD j 0 = 0) ∧ l.getD p 0 ≠ 0 := by
  induction l with
  | nil => exact absurd (fun j hj => by simp at hj) h
  | cons a l ih =>
    by_cases ha : a = 0
    · have h' : ¬ ∀ j, j < l.length → l.getD j 0 = 0 := fun hh => h fun j hj => by
        cases j with
        | zero => simpa using ha
        | succ j => simpa using hh j (by simpa using hj)
      obtain ⟨p, h1, h2, h3⟩ := ih h'
      refine ⟨p + 1, by simp; omega, fun j hj => ?_, by simpa using h3⟩
      cases j with
      | zero => simpa using ha
      | succ j => simpa using h2 j (by omega)
    · exact ⟨0, by simp, fun j hj => by omega, by simpa using ha⟩
theorem getD_at {l : List Nat} {j : Nat} (h : j < l.length) : l.getD j 0 = l[j] := by simp [List.getD, h]
theorem all_iff (s : ByteArray) : (∀ j, j < (bl s).length → (bl s).getD j 0 = 0) ↔ s.data.toList = Seal.noughts s.data.toList.length := by
  unfold bl Seal.noughts
  constructor
  · intro h
    rw [List.eq_replicate_iff]
    refine ⟨rfl, fun b hb => ?_⟩
    obtain ⟨j, hj, rfl⟩ := List.getElem_of_mem hb
    have := h j (by simpa using hj)
    rw [getD_at (by simpa using hj), List.getElem_map] at this
    exact UInt8.toNat_inj.1 this
  · intro h j hj
    rw [getD_at hj, List.getElem_map]
    have hj' : j < s.data.toList.length := by simpa using hj
    have := (List.eq_replicate_iff.1 h).2 _ (List.getElem_mem hj')
    rw [this]; rfl
theorem all_yes (s : ByteArray) (hs : s.size ≤ 1073741824) (h : s.data.toList = Seal.noughts s.data.toList.length) (w : World) :
    Calls Tryz.prog 83 #[.string s] w fun e w' => e = .returned (.bool true) ∧ Below w.heap.size w w' := by
  obtain ⟨cap, w1, hcv, hrow, hbel⟩ := bytes_row w s
  have hl := bl_length s
  have H := contains_none w.heap.size (bl s) cap (by omega) ((all_iff s).2 h) w1 hrow
  rw [hl] at H
  have HC := Lib.hid H
  have HB := Lib.hid hbel
  clear hrow hbel hl H h
  go_enter Tryz.func83, Tryz.ntmps83
  go_wp2_with fail
  refine HC.out.mono ?_; rintro e w2 ⟨rfl, rfl⟩
  go_wp2
  go_ret
  exact ⟨rfl, HB.out⟩
theorem all_no (s : ByteArray) (hs : s.size ≤ 1073741824) (h : ¬ s.data.toList = Seal.noughts s.data.toList.length) (w : World) :
    Calls Tryz.prog 83 #[.string s] w fun e w' => e = .returned (.bool false) ∧ Below w.heap.size w w' := by
  obtain ⟨cap, w1, hcv, hrow, hbel⟩ := bytes_row w s
  have hl := bl_length s
  obtain ⟨p, h1, h2, h3⟩ := first_other (bl s) (fun hh => h ((all_iff s).1 hh))
  have H := contains_at w.heap.size (bl s) cap p (by omega) h1 h2 h3 w1 hrow
  rw [hl] at H
  have HC := Lib.hid H
  have HB := Lib.hid hbel
  clear hrow hbel hl H h h1 h2 h3
  go_enter Tryz.func83, Tryz.ntmps83
  go_wp2_with fail
  refine HC.out.mono ?_; rintro e w2 ⟨rfl, rfl⟩
  go_wp2
  go_ret
  exact ⟨rfl, HB.out⟩
end Go.Proofs.YtlidieffaaicaaaGreat
