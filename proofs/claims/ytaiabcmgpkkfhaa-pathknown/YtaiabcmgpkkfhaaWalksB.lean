/- Cutting a text; snapshots. Conditions: texts of 2^30 bytes at most. -/
import Derived.Test.YtaiabcmgpkkfhaaWalksA
namespace Go.Proofs.Ytaiabcmgpkkfhaa
open Go.ChangeShapes Go.WideShapes Go.RowKit Go.Path
set_option maxRecDepth 100000
set_option linter.unusedVariables false
theorem extract_bs (s : ByteArray) (a b : Nat) : s.extract a b = bs ((s.data.toList.drop a).take (b - a)) := by
  have h := Lib.extract_toList s a b
  rw [text_list] at h
  rw [← bs_of (s.extract a b), h]
/-- The first slash. -/
theorem cut_at {l : B} (h : l.contains 47 = true) : ∃ o : Nat, Lib.indexByte l 47 = o ∧ o < l.length ∧ l.take o = Path.ahead l ∧ l.drop (o + 1) = behind l := by
  have h0 : 0 ≤ Lib.indexByte l 47 := by
    have := Lib.contains_iff_indexByte l 47
    rw [h] at this
    exact of_decide_eq_true this.symm
  obtain ⟨o, ho⟩ : ∃ o : Nat, Lib.indexByte l 47 = o := ⟨(Lib.indexByte l 47).toNat, by omega⟩
  obtain ⟨g1, g2⟩ := Lib.indexByte_some ho
  obtain ⟨hlt, he⟩ := List.getElem?_eq_some_iff.1 g1
  have e : l = l.take o ++ 47 :: l.drop (o + 1) := by
    conv => lhs; rw [← List.take_append_drop o l]
    rw [List.drop_eq_getElem_cons hlt, he]
  have hno : (l.take o).contains 47 = false := has_no fun j hj => by
    rw [List.length_take] at hj
    rw [List.getElem?_take_of_lt (by omega)]
    exact g2 j (by omega)
  obtain ⟨k1, k2⟩ := cut_of (l.take o) (l.drop (o + 1)) hno
  rw [← e] at k1 k2
  exact ⟨o, ho, hlt, k1.symm, k2.symm⟩
theorem index_none {l : B} (h : l.contains 47 = false) : Lib.indexByte l 47 = -1 := by
  have := Lib.contains_iff_indexByte l 47
  rw [h] at this
  have h0 := of_decide_eq_false this.symm
  have := Lib.indexByte_ge l 47
  omega
theorem below_drewN (w : World) (n : Nat) : Below w.heap.size w (w.drewN n) := ⟨rfl, rfl, rfl, Nat.le_refl _, fun _ _ => rfl⟩
theorem cut_lite (s : ByteArray) (hs : s.size ≤ 1073741824) (w : World) :
    Calls Try.prog 44 #[.string s, .string ⟨#[47]⟩] w fun e w' => e = .returned (.tuple #[.string (bs (Path.ahead s.data.toList)), .string (bs (behind s.data.toList)), .bool (s.data.toList.contains 47)]) ∧ Below w.heap.size w w' := by
  have hz : s.data.toList.length = s.size := (Lib.size_eq s).symm
  have C := Lib.hid (Try.stringslite_Index_one s 47)
  by_cases h : s.data.toList.contains 47 = true
  · obtain ⟨o, h1, h2, h3, h4⟩ := cut_at h
    rw [h1] at C
    rw [h, ← h3, ← h4]
    have e1 := extract_bs s 0 o
    have e2 := extract_bs s (o + 1) s.size
    rw [List.drop_zero, Nat.sub_zero] at e1
    rw [List.take_of_length_le (by rw [List.length_drop]; omega)] at e2
    rw [← e1, ← e2]
    rw [hz] at h2
    clear h h1 h3 h4 e1 e2 hz
    go_enter Try.func44, Try.ntmps44
    go_wp2_with fail
    refine (C.out _).mono ?_; rintro e w1 ⟨rfl, rfl⟩
    go_wp2_with fail
    go_quiet (fail)
    go_wp2
    go_ret3
    exact ⟨rfl, below_drewN _ _⟩
  · have h' : s.data.toList.contains 47 = false := by simpa using h
    rw [index_none h'] at C
    rw [h', (cut_none _ h').1, (cut_none _ h').2, bs_of]
    clear h h' hz
    go_enter Try.func44, Try.ntmps44
    go_wp2_with fail
    refine (C.out _).mono ?_; rintro e w1 ⟨rfl, rfl⟩
    go_wp2
    go_ret3
    exact ⟨rfl, Below.refl _ _⟩
theorem cut_any (s : ByteArray) (hs : s.size ≤ 1073741824) (w : World) :
    Calls Try.prog 29 #[.string s, .string ⟨#[47]⟩] w fun e w' => e = .returned (.tuple #[.string (bs (Path.ahead s.data.toList)), .string (bs (behind s.data.toList)), .bool (s.data.toList.contains 47)]) ∧ Below w.heap.size w w' := by
  have C := Lib.hid (cut_lite s hs)
  generalize bs (Path.ahead s.data.toList) = a at *
  generalize bs (behind s.data.toList) = b at *
  generalize s.data.toList.contains 47 = v at *
  go_enter Try.func29, Try.ntmps29
  go_wp2_with fail
  refine (C.out _).mono ?_; rintro e w1 ⟨rfl, b1⟩
  have B1 := Lib.hid b1; clear b1
  go_wp2
  go_ret3
  exact ⟨rfl, B1.out⟩
theorem suffix_yes {a : B} (h : a.getLast? = some 58) : Lib.hasSuffix a [58] = true ∧ Lib.trimSuffix a [58] = a.dropLast := by
  have e := dropLast_last h
  have h1 : Lib.hasSuffix a [58] = true := by
    unfold Lib.hasSuffix
    rw [List.isSuffixOf_iff_suffix, e]
    exact List.suffix_append _ _
  refine ⟨h1, ?_⟩
  unfold Lib.trimSuffix
  rw [if_pos h1, List.dropLast_eq_take]; rfl
theorem suffix_no {a : B} (h : ¬ a.getLast? = some 58) : Lib.hasSuffix a [58] = false := by
  rw [← Bool.not_eq_true]
  intro h1
  unfold Lib.hasSuffix at h1
  rw [List.isSuffixOf_iff_suffix] at h1
  obtain ⟨t, rfl⟩ := h1
  exact h (by simp)
/-- What is told of a snapshot's text. -/
def snapR (a : B) : B := if snapErr a = 0 then a.dropLast else []
theorem snap_any (s : ByteArray) (hs : s.size ≤ 1073741824) (w : World) :
    Calls Try.prog 30 #[.string s] w fun e w' => e = .returned (.tuple #[.string (bs (snapR s.data.toList)), .int .i64 (snapErr s.data.toList)]) ∧ w = w' := by
  have hz : s.data.toList.length = s.size := (Lib.size_eq s).symm
  have C := Lib.hid (Try.strings_CutSuffix s ⟨#[58]⟩)
  rw [show (⟨#[58]⟩ : ByteArray).data.toList = [58] from rfl] at C
  obtain ⟨l, hl⟩ : ∃ l, l = s.data.toList := ⟨_, rfl⟩
  rw [← hl] at C hz ⊢
  clear hl
  by_cases h : l.getLast? = some 58
  · obtain ⟨h1, h2⟩ := suffix_yes h
    rw [h1, h2] at C
    have hd : l.dropLast.length ≤ s.size := by rw [List.length_dropLast]; omega
    have hE : snapErr l = if l.dropLast.contains 58 = true then 4 else check l.dropLast := by
      unfold snapErr; rw [if_neg (not_not_intro h)]
    have hR : snapR l = if snapErr l = 0 then l.dropLast else [] := rfl
    generalize snapR l = R at *
    generalize snapErr l = E at *
    generalize l.dropLast = d at *
    have D : (⟨d.toArray⟩ : ByteArray) = bs d := rfl
    rw [D] at C
    have hds : (bs d).size ≤ s.size := by rw [bs_size]; exact hd
    have C1 := Lib.hid (contains_any (bs d) 58)
    have C2 := Lib.hid (formed_any (bs d))
    rw [bs_data] at C1 C2
    have hck : check d = if formed d = true then (if 16 < (bs d).size then 3 else 0) else 4 := by rw [bs_size]; rfl
    rw [hck] at hE
    have hb0 : bs [] = ⟨#[]⟩ := rfl
    clear h h1 h2 hd hz hck D
    by_cases c1 : d.contains 58 = true
    · rw [if_pos c1] at hE
      rw [hE, if_neg (by omega)] at hR
      rw [hR, hE, hb0]
      rw [c1] at C1
      clear c1 hE hR hb0
      go_enter Try.func30, Try.ntmps30
      go_wp2_with fail
      refine (C.out _ (by omega)).mono ?_; rintro e w1 ⟨rfl, rfl⟩
      go_wp2_with fail
      refine (C1.out _).mono ?_; rintro e w1 ⟨rfl, rfl⟩
      go_wp2
      go_ret2
      exact ⟨rfl, rfl⟩
    · have c1' : d.contains 58 = false := by simpa using c1
      rw [if_neg c1] at hE
      rw [c1'] at C1
      by_cases c2 : formed d = true
      · rw [if_pos c2] at hE
        rw [c2] at C2
        clear c1 c1' c2
        by_cases c3 : 16 < (bs d).size
        · rw [if_pos c3] at hE
          rw [hE, if_neg (by omega)] at hR
          rw [hR, hE, hb0]
          clear hE hR hb0
          generalize bs d = x at *
          go_enter Try.func30, Try.ntmps30
          go_wp2_with fail
          refine (C.out _ (by omega)).mono ?_; rintro e w1 ⟨rfl, rfl⟩
          go_wp2_with fail
          refine (C1.out _).mono ?_; rintro e w1 ⟨rfl, rfl⟩
          go_wp2_with fail
          refine (C2.out _).mono ?_; rintro e w1 ⟨rfl, rfl⟩
          go_wp2
          go_ret2
          exact ⟨rfl, rfl⟩
        · rw [if_neg c3] at hE
          rw [hE, if_pos rfl] at hR
          rw [hR, hE]
          clear hE hR hb0
          generalize bs d = x at *
          go_enter Try.func30, Try.ntmps30
          go_wp2_with fail
          refine (C.out _ (by omega)).mono ?_; rintro e w1 ⟨rfl, rfl⟩
          go_wp2_with fail
          refine (C1.out _).mono ?_; rintro e w1 ⟨rfl, rfl⟩
          go_wp2_with fail
          refine (C2.out _).mono ?_; rintro e w1 ⟨rfl, rfl⟩
          go_wp2
          go_ret2
          exact ⟨rfl, rfl⟩
      · have c2' : formed d = false := by simpa using c2
        rw [if_neg c2] at hE
        rw [c2'] at C2
        rw [hE, if_neg (by omega)] at hR
        rw [hR, hE, hb0]
        clear c1 c1' c2 c2' hE hR hb0
        generalize bs d = x at *
        go_enter Try.func30, Try.ntmps30
        go_wp2_with fail
        refine (C.out _ (by omega)).mono ?_; rintro e w1 ⟨rfl, rfl⟩
        go_wp2_with fail
        refine (C1.out _).mono ?_; rintro e w1 ⟨rfl, rfl⟩
        go_wp2_with fail
        refine (C2.out _).mono ?_; rintro e w1 ⟨rfl, rfl⟩
        go_wp2
        go_ret2
        exact ⟨rfl, rfl⟩
  · rw [suffix_no h] at C
    have hE : snapErr l = 4 := by unfold snapErr; rw [if_pos h]
    have hR : snapR l = [] := by unfold snapR; rw [hE]; rfl
    rw [hE, hR, show bs [] = ⟨#[]⟩ from rfl]
    generalize (Lib.trimSuffix l [58]).toArray = x at *
    clear h hE hR hz
    go_enter Try.func30, Try.ntmps30
    go_wp2_with fail
    refine (C.out _ (by omega)).mono ?_; rintro e w1 ⟨rfl, rfl⟩
    go_wp2
    go_ret2
    exact ⟨rfl, rfl⟩
end Go.Proofs.Ytaiabcmgpkkfhaa
