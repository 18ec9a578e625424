/- The document: what a text means. Conditions: none. -/
import Derived.Test.YtaiabcmgpkkfhaaWalksI
namespace Go.Proofs.Ytaiabcmgpkkfhaa
open Go.ChangeShapes Go.WideShapes Go.RowKit Go.Path
set_option maxRecDepth 100000
set_option linter.unusedVariables false
set_option linter.unusedSimpArgs false
theorem Own.head {w : World} {base n c : Nat} {A : Option Addr} {xs : List B} (h : Own w base A n c xs) (hne : xs ≠ []) :
    ∃ g, A = some ⟨g, 0, none⟩ ∧ g < w.heap.size ∧ ∀ i x, xs[i]? = some x → w.cell? ⟨g, i, none⟩ = some (.string (bs x)) := by
  obtain ⟨hn, hc, ⟨e, _⟩ | h⟩ := h
  · exact absurd e hne
  · have hl := List.length_pos_iff.2 hne
    rcases h.2 with ⟨_, h0⟩ | ⟨g, cap, cur, hv, _, hh, _⟩
    · omega
    · injection hv with hA hn' hc'
      subst hA
      refine ⟨g, rfl, (Array.getElem?_eq_some_iff.1 hh).1, fun i x hx => ?_⟩
      have hi : i < xs.length := (List.getElem?_eq_some_iff.1 hx).1
      rw [h.cellAt i (by omega), List.getElem?_map, hx]; rfl
/-- What a text means, handed back somewhere. -/
def GivesParseR (p : B) (w : World) (e : Ending) (w' : World) : Prop := ∃ A c, e = .returned (.tuple #[.string (bs (parseS p)), .slice A (parseL p).length c, .int .i64 (parseE p)]) ∧ Rs w' A (parseL p) ∧ Below w.heap.size w w'
theorem givesR_bad {p : B} {w w' : World} {k : Nat} (hk : parseE p = k) (h0 : k ≠ 0) (hb : Below w.heap.size w w') : GivesParseR p w (.returned (.tuple #[.string ⟨#[]⟩, .slice none 0 0, .int .i64 k])) w' := by
  have h1 : parseS p = [] := if_neg (by rw [hk]; exact h0)
  have h2 : parseL p = [] := if_neg (by rw [hk]; exact h0)
  refine ⟨none, 0, ?_, ?_, hb⟩
  · rw [h1, h2, hk]; rfl
  · rw [h2]; exact Rs.nil
theorem givesR_good {p : B} {w w' : World} {A : Option Addr} {n c : Nat} {xs : List B} {s : ByteArray} (hk : parseE p = 0) (hn : n = xs.length) (hr : Rs w' A xs) (hx : xs = namesL (behind p)) (hs : s = bs (Path.ahead p).dropLast) (hb : Below w.heap.size w w') :
    GivesParseR p w (.returned (.tuple #[.string s, .slice A n c, .int .i64 (0 : Nat)])) w' := by
  have h1 : parseS p = (Path.ahead p).dropLast := if_pos hk
  have h2 : parseL p = xs := by rw [hx]; exact if_pos hk
  refine ⟨A, c, ?_, ?_, hb⟩
  · rw [h1, h2, hk, hs, hn]
  · rw [h2]; exact hr
theorem split_empty {q : B} (h : split q = [[]]) : q = [] := by
  have := join_split q
  rw [h, Lib.join_one] at this
  exact this.symm
theorem names_at {xs : List B} {j : Nat} {x : B} (h : xs[j]? = some x) : names j (xs.drop j) = if check x ≠ 0 then check x else if 6 ≤ j then 3 else names (j + 1) (xs.drop (j + 1)) := by
  obtain ⟨hlt, he⟩ := List.getElem?_eq_some_iff.1 h
  rw [List.drop_eq_getElem_cons hlt, he, names]
/-- Where the pieces lie: the first, and those behind it. -/
def Lies (w : World) (a : ByteArray) (xs : List B) (n g c : Nat) (W : World) : Prop :=
  Below w.heap.size w W ∧ g < W.heap.size ∧ n ≤ c ∧ W.cell? ⟨g, 0, none⟩ = some (.string a) ∧ ∀ i x, xs[i]? = some x → W.cell? ⟨g, i + 1, none⟩ = some (.string (bs x)) ∧ x.length ≤ 1000
set_option maxHeartbeats 1000000 in
theorem rp_plain_many (p : B) (xs : List B) (w : World) (s : ByteArray) (hs : s.size ≤ 120)
    (n : Nat) (hn : n ≤ 1000) (hn2 : 2 ≤ n) (HN : Hid (n = xs.length + 1))
    (hx1 : ¬ (n : Int) = 2) (hx2 : ((n : Int) == 2) = false)
    (Sb : ByteArray) (HSb : Hid (Sb = bs (Path.ahead p).dropLast)) (HXN : Hid (xs = namesL (behind p))) (HE : Hid (parseE p = names 0 xs))
    (hSb0 : Sb = ⟨#[]⟩)
    (KS : Hid (Calls Try.prog 32 #[.string s] w fun e w' => ∃ g c, e = .returned (.slice (some ⟨g, 0, none⟩) n c) ∧ Lies w ⟨#[]⟩ xs n g c w')) :
    Calls Try.prog 11 #[.string s] w (GivesParseR p w) := by
  subst hSb0
  go_enter Try.func11, Try.ntmps11
  go_wp2_with fail
  refine KS.out.mono ?_; rintro e W ⟨g, c, rfl, hW0, hg, hnc, hc0, hcs⟩
  have HW := Lib.hid hW0; have HC := Lib.hid hcs
  clear hW0 hcs
  go_wp2
  go_loop [9] (fun i => ∃ k : Nat, 1 ≤ k ∧ k ≤ n ∧ k ≤ 7 ∧ i = .int .i64 k ∧ names 0 xs = names (k - 1) (xs.drop (k - 1))) (fun i => n - (intOf i).toNat)
  case atStart => exact ⟨1, by omega, by omega, by omega, rfl, by simp⟩
  case round =>
    obtain ⟨k, hk1, hk, hk7, rfl, hnm⟩ := hrel
    by_cases hlt : k < n
    · obtain ⟨j, rfl⟩ : ∃ j, k = j + 1 := ⟨k - 1, by omega⟩
      rw [Nat.add_sub_cancel] at hnm
      obtain ⟨x, hx⟩ : ∃ x, xs[j]? = some x := ⟨_, List.getElem?_eq_getElem (by have := HN.out; omega)⟩
      obtain ⟨hcell, hxl⟩ := HC.out j x hx
      rw [names_at hx] at hnm
      have CK := Lib.hid (check_any (bs x) (by rw [bs_size]; omega))
      rw [bs_data] at CK
      have hcell' : W.cell? ⟨g, 1 + j, none⟩ = some (.string (bs x)) := by rw [Nat.add_comm]; exact hcell
      clear hx hxl
      generalize bs x = xb at *
      generalize check x = ck at *
      have hkk : ((j + 1 : Nat) : Int) = (j : Int) + 1 := by omega
      by_cases hck : ck = 0
      · rw [if_neg (by omega)] at hnm
        subst hck
        by_cases h6 : 6 ≤ j
        · rw [if_pos h6] at hnm
          have G := Lib.hid (fun w' => givesR_bad (p := p) (w := w) (w' := w') (k := 3) (HE.out.trans hnm) (by decide))
          clear hnm
          rw [hkk] at *
          go_wp2_with fail
          refine (CK.out _).mono ?_; rintro e w2 ⟨rfl, rfl⟩
          go_wp2
          go_ret3
          exact G.out _ HW.out
        · rw [if_neg h6] at hnm
          have HNM := Lib.hid hnm
          clear hnm
          rw [hkk] at *
          go_wp2_with fail
          refine (CK.out _).mono ?_; rintro e w2 ⟨rfl, rfl⟩
          go_wp2
          refine ⟨⟨j + 1 + 1, by omega, by omega, by omega, by simp, ?_⟩, by simp [intOf]; omega⟩
          rw [Nat.add_sub_cancel]; exact HNM.out
      · rw [if_pos hck] at hnm
        have G := Lib.hid (fun w' => givesR_bad (p := p) (w := w) (w' := w') (k := ck) (HE.out.trans hnm) hck)
        have hck1 : ¬ (ck : Int) = 0 := by omega
        have hck2 : ((ck : Int) == 0) = false := by simpa using hck1
        clear hnm
        rw [hkk] at *
        go_wp2_with fail
        refine (CK.out _).mono ?_; rintro e w2 ⟨rfl, rfl⟩
        go_wp2
        go_ret3
        exact G.out _ HW.out
    · have hz : names 0 xs = 0 := by
        rw [hnm, List.drop_of_length_le (by have := HN.out; omega)]; rfl
      have hrs : Rs W (some ⟨g, 1, none⟩) xs := .inr ⟨g, 1, rfl, hg, fun i x hx => by rw [Nat.add_comm]; exact (HC.out i x hx).1⟩
      have G := Lib.hid (fun c' q => givesR_good (p := p) (w := w) (w' := W.drewN q) (c := c') (s := ⟨#[]⟩) (HE.out.trans hz) (show n - 1 = xs.length by have := HN.out; omega) hrs HXN.out HSb.out (HW.out.trans ((below_drewN _ _).mono HW.out.size)))
      clear hz hnm hrs
      obtain rfl : k = n := by omega
      have i1 : (1 : Int) ≤ (k : Int) := by omega
      have i2 : (k : Int) ≤ (c : Int) := by omega
      have i3 : ¬ c = 1 := by omega
      go_wp2
      go_quiet (fail)
      go_wp2
      go_ret3
      exact G.out _ _
set_option maxHeartbeats 1000000 in
theorem rp_plain_two (p : B) (xs : List B) (w : World) (s : ByteArray) (hs : s.size ≤ 120)
    (HN : Hid (2 = xs.length + 1)) (x1 : ByteArray) (hx1 : ¬ x1.toList = []) (hx2 : x1.toList.isEmpty = false) (HX1 : Hid (∃ y, xs[0]? = some y ∧ bs y = x1))
    (Sb : ByteArray) (HSb : Hid (Sb = bs (Path.ahead p).dropLast)) (HXN : Hid (xs = namesL (behind p))) (HE : Hid (parseE p = names 0 xs))
    (hSb0 : Sb = ⟨#[]⟩)
    (KS : Hid (Calls Try.prog 32 #[.string s] w fun e w' => ∃ g c, e = .returned (.slice (some ⟨g, 0, none⟩) 2 c) ∧ Lies w ⟨#[]⟩ xs 2 g c w')) :
    Calls Try.prog 11 #[.string s] w (GivesParseR p w) := by
  subst hSb0
  go_enter Try.func11, Try.ntmps11
  go_wp2_with fail
  refine KS.out.mono ?_; rintro e W ⟨g, c, rfl, hW0, hg, hnc, hc0, hcs⟩
  have HW := Lib.hid hW0; have HC := Lib.hid hcs
  clear hW0 hcs
  obtain ⟨y1, hy1, hy2⟩ := HX1.out
  have hc1 := (HC.out 0 y1 hy1).1
  rw [hy2, Nat.zero_add] at hc1
  clear hy1 hy2
  go_wp2
  go_loop [9] (fun i => ∃ k : Nat, 1 ≤ k ∧ k ≤ 2 ∧ k ≤ 7 ∧ i = .int .i64 k ∧ names 0 xs = names (k - 1) (xs.drop (k - 1))) (fun i => 2 - (intOf i).toNat)
  case atStart => exact ⟨1, by omega, by omega, by omega, rfl, by simp⟩
  case round =>
    obtain ⟨k, hk1, hk, hk7, rfl, hnm⟩ := hrel
    by_cases hlt : k < 2
    · obtain ⟨j, rfl⟩ : ∃ j, k = j + 1 := ⟨k - 1, by omega⟩
      rw [Nat.add_sub_cancel] at hnm
      obtain ⟨x, hx⟩ : ∃ x, xs[j]? = some x := ⟨_, List.getElem?_eq_getElem (by have := HN.out; omega)⟩
      obtain ⟨hcell, hxl⟩ := HC.out j x hx
      rw [names_at hx] at hnm
      have CK := Lib.hid (check_any (bs x) (by rw [bs_size]; omega))
      rw [bs_data] at CK
      have hcell' : W.cell? ⟨g, 1 + j, none⟩ = some (.string (bs x)) := by rw [Nat.add_comm]; exact hcell
      clear hx hxl
      generalize bs x = xb at *
      generalize check x = ck at *
      have hkk : ((j + 1 : Nat) : Int) = (j : Int) + 1 := by omega
      by_cases hck : ck = 0
      · rw [if_neg (by omega)] at hnm
        subst hck
        by_cases h6 : 6 ≤ j
        · omega
        · rw [if_neg h6] at hnm
          have HNM := Lib.hid hnm
          clear hnm
          rw [hkk] at *
          go_wp2_with fail
          refine (CK.out _).mono ?_; rintro e w2 ⟨rfl, rfl⟩
          go_wp2
          refine ⟨⟨j + 1 + 1, by omega, by omega, by omega, by simp, ?_⟩, by simp [intOf]; omega⟩
          rw [Nat.add_sub_cancel]; exact HNM.out
      · rw [if_pos hck] at hnm
        have G := Lib.hid (fun w' => givesR_bad (p := p) (w := w) (w' := w') (k := ck) (HE.out.trans hnm) hck)
        have hck1 : ¬ (ck : Int) = 0 := by omega
        have hck2 : ((ck : Int) == 0) = false := by simpa using hck1
        clear hnm
        rw [hkk] at *
        go_wp2_with fail
        refine (CK.out _).mono ?_; rintro e w2 ⟨rfl, rfl⟩
        go_wp2
        go_ret3
        exact G.out _ HW.out
    · have hz : names 0 xs = 0 := by
        rw [hnm, List.drop_of_length_le (by have := HN.out; omega)]; rfl
      have hrs : Rs W (some ⟨g, 1, none⟩) xs := .inr ⟨g, 1, rfl, hg, fun i x hx => by rw [Nat.add_comm]; exact (HC.out i x hx).1⟩
      have G := Lib.hid (fun c' q => givesR_good (p := p) (w := w) (w' := W.drewN q) (c := c') (s := ⟨#[]⟩) (HE.out.trans hz) (show 1 = xs.length by have := HN.out; omega) hrs HXN.out HSb.out (HW.out.trans ((below_drewN _ _).mono HW.out.size)))
      clear hz hnm hrs
      obtain rfl : k = 2 := by omega
      have i1 : (1 : Int) ≤ (2 : Int) := by omega
      have i2 : (2 : Int) ≤ (c : Int) := by omega
      have i3 : ¬ c = 1 := by omega
      go_wp2
      go_quiet (fail)
      go_wp2
      go_ret3
      exact G.out _ _
set_option maxHeartbeats 1000000 in
theorem rp_snap_many (p : B) (xs : List B) (w : World) (s : ByteArray) (hs : s.size ≤ 120)
    (n : Nat) (hn : n ≤ 1000) (hn2 : 2 ≤ n) (HN : Hid (n = xs.length + 1))
    (hx1 : ¬ (n : Int) = 2) (hx2 : ((n : Int) == 2) = false)
    (Sb : ByteArray) (HSb : Hid (Sb = bs (Path.ahead p).dropLast)) (HXN : Hid (xs = namesL (behind p))) (HE : Hid (parseE p = names 0 xs))
    (ab : ByteArray) (m : Nat) (ha1 : ¬ ab.toList = []) (ha2 : ab.toList.isEmpty = false) (hmz : m < ab.size) (hm1 : (ab.size : Int) - 1 = (m : Int)) (hm120 : m ≤ 120) (hab : (ab[m].toNat : Int) = 58) (hSb0 : ab.extract 0 m = Sb)
    (C1 : Hid (∀ w, Calls Try.prog 33 #[.string Sb, .int .u8 58] w fun e w' => e = .returned (.bool false) ∧ w = w'))
    (C2 : Hid (∀ w, Calls Try.prog 14 #[.string Sb] w fun e w' => e = .returned (.int .i64 0) ∧ w = w'))
    (KS : Hid (Calls Try.prog 32 #[.string s] w fun e w' => ∃ g c, e = .returned (.slice (some ⟨g, 0, none⟩) n c) ∧ Lies w ab xs n g c w')) :
    Calls Try.prog 11 #[.string s] w (GivesParseR p w) := by
  have hm2 : (m : Int) < (ab.size : Int) := by omega
  have hm3 : (m : Int) ≤ (ab.size : Int) := by omega
  have hab2 : ((ab[m].toNat : Int) == 58) = true := by simpa using hab
  go_enter Try.func11, Try.ntmps11
  go_wp2_with fail
  refine KS.out.mono ?_; rintro e W ⟨g, c, rfl, hW0, hg, hnc, hc0, hcs⟩
  have HW := Lib.hid hW0; have HC := Lib.hid hcs
  clear hW0 hcs
  go_wp2_with fail
  refine (C1.out _).mono ?_; rintro e w2 ⟨rfl, rfl⟩
  go_wp2_with fail
  refine (C2.out _).mono ?_; rintro e w2 ⟨rfl, rfl⟩
  go_wp2
  go_loop [9] (fun i => ∃ k : Nat, 1 ≤ k ∧ k ≤ n ∧ k ≤ 7 ∧ i = .int .i64 k ∧ names 0 xs = names (k - 1) (xs.drop (k - 1))) (fun i => n - (intOf i).toNat)
  case atStart => exact ⟨1, by omega, by omega, by omega, rfl, by simp⟩
  case round =>
    obtain ⟨k, hk1, hk, hk7, rfl, hnm⟩ := hrel
    by_cases hlt : k < n
    · obtain ⟨j, rfl⟩ : ∃ j, k = j + 1 := ⟨k - 1, by omega⟩
      rw [Nat.add_sub_cancel] at hnm
      obtain ⟨x, hx⟩ : ∃ x, xs[j]? = some x := ⟨_, List.getElem?_eq_getElem (by have := HN.out; omega)⟩
      obtain ⟨hcell, hxl⟩ := HC.out j x hx
      rw [names_at hx] at hnm
      have CK := Lib.hid (check_any (bs x) (by rw [bs_size]; omega))
      rw [bs_data] at CK
      have hcell' : W.cell? ⟨g, 1 + j, none⟩ = some (.string (bs x)) := by rw [Nat.add_comm]; exact hcell
      clear hx hxl
      generalize bs x = xb at *
      generalize check x = ck at *
      have hkk : ((j + 1 : Nat) : Int) = (j : Int) + 1 := by omega
      by_cases hck : ck = 0
      · rw [if_neg (by omega)] at hnm
        subst hck
        by_cases h6 : 6 ≤ j
        · rw [if_pos h6] at hnm
          have G := Lib.hid (fun w' => givesR_bad (p := p) (w := w) (w' := w') (k := 3) (HE.out.trans hnm) (by decide))
          clear hnm
          rw [hkk] at *
          go_wp2_with fail
          refine (CK.out _).mono ?_; rintro e w2 ⟨rfl, rfl⟩
          go_wp2
          go_ret3
          exact G.out _ HW.out
        · rw [if_neg h6] at hnm
          have HNM := Lib.hid hnm
          clear hnm
          rw [hkk] at *
          go_wp2_with fail
          refine (CK.out _).mono ?_; rintro e w2 ⟨rfl, rfl⟩
          go_wp2
          refine ⟨⟨j + 1 + 1, by omega, by omega, by omega, by simp, ?_⟩, by simp [intOf]; omega⟩
          rw [Nat.add_sub_cancel]; exact HNM.out
      · rw [if_pos hck] at hnm
        have G := Lib.hid (fun w' => givesR_bad (p := p) (w := w) (w' := w') (k := ck) (HE.out.trans hnm) hck)
        have hck1 : ¬ (ck : Int) = 0 := by omega
        have hck2 : ((ck : Int) == 0) = false := by simpa using hck1
        clear hnm
        rw [hkk] at *
        go_wp2_with fail
        refine (CK.out _).mono ?_; rintro e w2 ⟨rfl, rfl⟩
        go_wp2
        go_ret3
        exact G.out _ HW.out
    · have hz : names 0 xs = 0 := by
        rw [hnm, List.drop_of_length_le (by have := HN.out; omega)]; rfl
      have hrs : Rs W (some ⟨g, 1, none⟩) xs := .inr ⟨g, 1, rfl, hg, fun i x hx => by rw [Nat.add_comm]; exact (HC.out i x hx).1⟩
      have G := Lib.hid (fun c' q => givesR_good (p := p) (w := w) (w' := W.drewN q) (c := c') (s := Sb) (HE.out.trans hz) (show n - 1 = xs.length by have := HN.out; omega) hrs HXN.out HSb.out (HW.out.trans ((below_drewN _ _).mono HW.out.size)))
      clear hz hnm hrs
      obtain rfl : k = n := by omega
      have i1 : (1 : Int) ≤ (k : Int) := by omega
      have i2 : (k : Int) ≤ (c : Int) := by omega
      have i3 : ¬ c = 1 := by omega
      go_wp2
      go_quiet (fail)
      go_wp2
      go_ret3
      exact G.out _ _
set_option maxHeartbeats 1000000 in
theorem rp_snap_two (p : B) (xs : List B) (w : World) (s : ByteArray) (hs : s.size ≤ 120)
    (HN : Hid (2 = xs.length + 1)) (x1 : ByteArray) (hx1 : ¬ x1.toList = []) (hx2 : x1.toList.isEmpty = false) (HX1 : Hid (∃ y, xs[0]? = some y ∧ bs y = x1))
    (Sb : ByteArray) (HSb : Hid (Sb = bs (Path.ahead p).dropLast)) (HXN : Hid (xs = namesL (behind p))) (HE : Hid (parseE p = names 0 xs))
    (ab : ByteArray) (m : Nat) (ha1 : ¬ ab.toList = []) (ha2 : ab.toList.isEmpty = false) (hmz : m < ab.size) (hm1 : (ab.size : Int) - 1 = (m : Int)) (hm120 : m ≤ 120) (hab : (ab[m].toNat : Int) = 58) (hSb0 : ab.extract 0 m = Sb)
    (C1 : Hid (∀ w, Calls Try.prog 33 #[.string Sb, .int .u8 58] w fun e w' => e = .returned (.bool false) ∧ w = w'))
    (C2 : Hid (∀ w, Calls Try.prog 14 #[.string Sb] w fun e w' => e = .returned (.int .i64 0) ∧ w = w'))
    (KS : Hid (Calls Try.prog 32 #[.string s] w fun e w' => ∃ g c, e = .returned (.slice (some ⟨g, 0, none⟩) 2 c) ∧ Lies w ab xs 2 g c w')) :
    Calls Try.prog 11 #[.string s] w (GivesParseR p w) := by
  have hm2 : (m : Int) < (ab.size : Int) := by omega
  have hm3 : (m : Int) ≤ (ab.size : Int) := by omega
  have hab2 : ((ab[m].toNat : Int) == 58) = true := by simpa using hab
  go_enter Try.func11, Try.ntmps11
  go_wp2_with fail
  refine KS.out.mono ?_; rintro e W ⟨g, c, rfl, hW0, hg, hnc, hc0, hcs⟩
  have HW := Lib.hid hW0; have HC := Lib.hid hcs
  clear hW0 hcs
  obtain ⟨y1, hy1, hy2⟩ := HX1.out
  have hc1 := (HC.out 0 y1 hy1).1
  rw [hy2, Nat.zero_add] at hc1
  clear hy1 hy2
  go_wp2_with fail
  refine (C1.out _).mono ?_; rintro e w2 ⟨rfl, rfl⟩
  go_wp2_with fail
  refine (C2.out _).mono ?_; rintro e w2 ⟨rfl, rfl⟩
  go_wp2
  go_loop [9] (fun i => ∃ k : Nat, 1 ≤ k ∧ k ≤ 2 ∧ k ≤ 7 ∧ i = .int .i64 k ∧ names 0 xs = names (k - 1) (xs.drop (k - 1))) (fun i => 2 - (intOf i).toNat)
  case atStart => exact ⟨1, by omega, by omega, by omega, rfl, by simp⟩
  case round =>
    obtain ⟨k, hk1, hk, hk7, rfl, hnm⟩ := hrel
    by_cases hlt : k < 2
    · obtain ⟨j, rfl⟩ : ∃ j, k = j + 1 := ⟨k - 1, by omega⟩
      rw [Nat.add_sub_cancel] at hnm
      obtain ⟨x, hx⟩ : ∃ x, xs[j]? = some x := ⟨_, List.getElem?_eq_getElem (by have := HN.out; omega)⟩
      obtain ⟨hcell, hxl⟩ := HC.out j x hx
      rw [names_at hx] at hnm
      have CK := Lib.hid (check_any (bs x) (by rw [bs_size]; omega))
      rw [bs_data] at CK
      have hcell' : W.cell? ⟨g, 1 + j, none⟩ = some (.string (bs x)) := by rw [Nat.add_comm]; exact hcell
      clear hx hxl
      generalize bs x = xb at *
      generalize check x = ck at *
      have hkk : ((j + 1 : Nat) : Int) = (j : Int) + 1 := by omega
      by_cases hck : ck = 0
      · rw [if_neg (by omega)] at hnm
        subst hck
        by_cases h6 : 6 ≤ j
        · omega
        · rw [if_neg h6] at hnm
          have HNM := Lib.hid hnm
          clear hnm
          rw [hkk] at *
          go_wp2_with fail
          refine (CK.out _).mono ?_; rintro e w2 ⟨rfl, rfl⟩
          go_wp2
          refine ⟨⟨j + 1 + 1, by omega, by omega, by omega, by simp, ?_⟩, by simp [intOf]; omega⟩
          rw [Nat.add_sub_cancel]; exact HNM.out
      · rw [if_pos hck] at hnm
        have G := Lib.hid (fun w' => givesR_bad (p := p) (w := w) (w' := w') (k := ck) (HE.out.trans hnm) hck)
        have hck1 : ¬ (ck : Int) = 0 := by omega
        have hck2 : ((ck : Int) == 0) = false := by simpa using hck1
        clear hnm
        rw [hkk] at *
        go_wp2_with fail
        refine (CK.out _).mono ?_; rintro e w2 ⟨rfl, rfl⟩
        go_wp2
        go_ret3
        exact G.out _ HW.out
    · have hz : names 0 xs = 0 := by
        rw [hnm, List.drop_of_length_le (by have := HN.out; omega)]; rfl
      have hrs : Rs W (some ⟨g, 1, none⟩) xs := .inr ⟨g, 1, rfl, hg, fun i x hx => by rw [Nat.add_comm]; exact (HC.out i x hx).1⟩
      have G := Lib.hid (fun c' q => givesR_good (p := p) (w := w) (w' := W.drewN q) (c := c') (s := Sb) (HE.out.trans hz) (show 1 = xs.length by have := HN.out; omega) hrs HXN.out HSb.out (HW.out.trans ((below_drewN _ _).mono HW.out.size)))
      clear hz hnm hrs
      obtain rfl : k = 2 := by omega
      have i1 : (1 : Int) ≤ (2 : Int) := by omega
      have i2 : (2 : Int) ≤ (c : Int) := by omega
      have i3 : ¬ c = 1 := by omega
      go_wp2
      go_quiet (fail)
      go_wp2
      go_ret3
      exact G.out _ _
end Go.Proofs.Ytaiabcmgpkkfhaa
