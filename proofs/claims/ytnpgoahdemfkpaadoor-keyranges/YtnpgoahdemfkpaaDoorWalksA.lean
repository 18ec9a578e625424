/- Bytes in a text; names, in the program and in the document. Conditions: none. -/
import Derived.Test.YtnpgoahdemfkpaaDoorRows
import Derived.Test.YtnpgoahdemfkpaaDoorOrd
import Derived.Test.YtnpgoahdemfkpaaDoorShelf
import Derived.WalkKit
import Derived.Lib.Hide
import Derived.Lib.IndexAny
import Derived.Lib.IndexLaws
import Derived.Laws.EntriesVeiled
import Derived.Laws.IdiomStrings
import Derived.BigQuiet
import Derived.BigRegion
namespace Go.Proofs.YtnpgoahdemfkpaaDoor
open Go.ChangeShapes Go.WideShapes Go.RowKit Go.Path
set_option maxRecDepth 100000
set_option linter.unusedVariables false
set_option linter.unusedSimpArgs false
theorem contains_any (s : ByteArray) (c : UInt8) (w : World) :
    Calls Tryd.prog 70 #[.string s, .string ⟨#[c]⟩] w fun e w' => e = .returned (.bool (s.data.toList.contains c)) ∧ w = w' := by
  refine (Tryd.strings_Contains_one s c w).mono ?_
  rintro e w' ⟨rfl, rfl⟩
  rw [Lib.contains_iff_indexByte]
  exact ⟨rfl, rfl⟩
theorem text_list (s : ByteArray) : s.toList = s.data.toList := Lib.toList_data s
theorem formed_any (s : ByteArray) (w : World) : Calls Tryd.prog 63 #[.string s] w fun e w' => e = .returned (.bool (formed s.data.toList)) ∧ w = w' := by
  have C0 := Lib.hid (contains_any s 0)
  have C1 := Lib.hid (contains_any s 47)
  obtain ⟨l, hl⟩ : ∃ l, l = s.data.toList := ⟨_, rfl⟩
  rw [← hl] at C0 C1 ⊢
  have ht : s.toList = l := by rw [text_list, hl]
  have HL := Lib.hid hl; clear hl
  by_cases h0 : l = []
  · rw [h0] at ht ⊢
    go_enter Tryd.func63, Tryd.ntmps63
    go_wp2
    go_ret; exact ⟨rfl, rfl⟩
  by_cases h1 : l = [46]
  · rw [h1] at ht ⊢
    go_enter Tryd.func63, Tryd.ntmps63
    go_wp2
    go_ret; exact ⟨rfl, rfl⟩
  by_cases h2 : l = [46, 46]
  · rw [h2] at ht ⊢
    go_enter Tryd.func63, Tryd.ntmps63
    go_wp2
    go_ret; exact ⟨rfl, rfl⟩
  have q0 : (l == []) = false := beq_eq_false_iff_ne.2 h0
  have q1 : (l == [46]) = false := beq_eq_false_iff_ne.2 h1
  have q2 : (l == [46, 46]) = false := beq_eq_false_iff_ne.2 h2
  have q3 : l.isEmpty = false := by cases l <;> simp at h0 ⊢
  have hf : formed l = (!l.contains 0 && !l.contains 47) := by rw [formed, q0, q1, q2]; rfl
  rw [hf]
  generalize l.contains 0 = b0 at C0 ⊢
  generalize l.contains 47 = b1 at C1 ⊢
  have g0 : ¬ s.toList = [] := by rw [ht]; exact h0
  have g1 : ¬ s.toList = [46] := by rw [ht]; exact h1
  have g2 : ¬ s.toList = [46, 46] := by rw [ht]; exact h2
  rw [← ht] at q1 q2 q3
  clear ht h0 h1 h2 q0 hf
  cases b0 <;> cases b1
  all_goals
    go_enter Tryd.func63, Tryd.ntmps63
    go_wp2_with fail
    refine (C0.out _).mono ?_; rintro e w1 ⟨rfl, rfl⟩
    first
    | (go_wp2_with fail
       refine (C1.out _).mono ?_; rintro e w1 ⟨rfl, rfl⟩
       go_wp2
       go_ret; exact ⟨rfl, rfl⟩)
    | (go_wp2
       go_ret; exact ⟨rfl, rfl⟩)
theorem name_any (s : ByteArray) (hs : s.size ≤ 9223372036854775807) (w : World) : Calls Tryd.prog 53 #[.string s] w fun e w' => e = .returned (.bool (name s.data.toList)) ∧ w = w' := by
  have C := Lib.hid (formed_any s)
  have hz : s.data.toList.length = s.size := (Lib.size_eq s).symm
  have hn : name s.data.toList = (formed s.data.toList && decide (s.size ≤ 16)) := by rw [name, hz]
  rw [hn]
  generalize formed s.data.toList = b at *
  clear hz hn
  cases b
  · go_enter Tryd.func53, Tryd.ntmps53
    go_wp2_with fail
    refine (C.out _).mono ?_; rintro e w1 ⟨rfl, rfl⟩
    go_wp2
    go_ret; exact ⟨rfl, rfl⟩
  · by_cases h : s.size ≤ 16
    all_goals
      have hd := decide_eq_true_eq (p := s.size ≤ 16)
      go_enter Tryd.func53, Tryd.ntmps53
      go_wp2_with fail
      refine (C.out _).mono ?_; rintro e w1 ⟨rfl, rfl⟩
      go_wp2
      go_ret
      refine ⟨?_, rfl⟩
      simp <;> omega
theorem byte_eq {s : ByteArray} {k : Nat} (hk : k < s.size) : s.data.toList[k]? = some s[k] := Lib.data_getElem? s k hk
theorem byte_is {s : ByteArray} {k c : Nat} (hk : k < s.size) (hc : c < 256) : (((s[k].toNat : Nat) : Int) == (c : Int)) = true ↔ s.data.toList[k]? = some c.toUInt8 := by
  rw [byte_eq hk, beq_iff_eq, Option.some.injEq]
  constructor
  · intro h
    have : s[k].toNat = c := by omega
    rw [← this]; simp
  · intro h
    rw [h]
    simp
    omega
theorem has_yes {l : B} {c : UInt8} {k : Nat} (h : l[k]? = some c) : l.contains c = true := by
  rw [List.contains_iff_mem]; exact List.mem_of_getElem? h
theorem has_no {l : B} {c : UInt8} (h : ∀ j, j < l.length → l[j]? ≠ some c) : l.contains c = false := by
  rw [List.contains_eq_any_beq, List.any_eq_false]
  intro x hx
  obtain ⟨j, hj⟩ := List.getElem?_of_mem hx
  have hl := (List.getElem?_eq_some_iff.1 hj).1
  have := h j hl
  simp only [beq_iff_eq]
  rintro rfl
  exact this hj
end Go.Proofs.YtnpgoahdemfkpaaDoor
