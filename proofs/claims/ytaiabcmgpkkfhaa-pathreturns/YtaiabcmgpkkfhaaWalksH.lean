/- The text of names, in the program. Conditions: texts of a million bytes, a hundred thousand names at most. -/
import Derived.Test.YtaiabcmgpkkfhaaWalksG
namespace Go.Proofs.Ytaiabcmgpkkfhaa
open Go.ChangeShapes Go.WideShapes Go.RowKit Go.Path
set_option maxRecDepth 100000
set_option linter.unusedVariables false
set_option linter.unusedSimpArgs false
theorem join_any (A : Option Addr) (xs : List B) (c : Nat) (b : UInt8) (hl : xs.length ≤ 100000) (hc : xs.length ≤ c) (hj : (Lib.join xs [b]).length ≤ 1000000) (w : World) (h : Rs w A xs) :
    Calls Try.prog 27 #[.slice A xs.length c, .string ⟨#[b]⟩] w fun e w' => e = .returned (.string (bs (Lib.join xs [b]))) ∧ Below w.heap.size w w' := by
  rcases h with rfl | ⟨bk, o, rfl, hlt, hcell⟩
  · refine (Try.strings_Join_none A c ⟨#[b]⟩ w).mono ?_
    rintro e w' ⟨rfl, rfl⟩
    exact ⟨rfl, Below.refl _ _⟩
  · have hm : (xs.map bs).map (·.data.toList) = xs := by
      rw [List.map_map]
      have : ((fun x : ByteArray => x.data.toList) ∘ bs) = id := by funext x; exact bs_data x
      rw [this, List.map_id]
    have K := Try.strings_Join bk o c (xs.map bs) ⟨#[b]⟩ w (fun j x hx => by
      rw [List.getElem?_map] at hx
      obtain ⟨y, hy, rfl⟩ := Option.map_eq_some_iff.1 hx
      exact hcell j y hy) hlt (by simp; omega) (by simpa using hc) (by rw [hm]; show (Lib.join xs [b]).length ≤ _; omega)
    rw [hm, List.length_map] at K
    exact K
theorem BuilderAt_kept {B b : Nat} {p : Value} {cs : List Value} {w w' : World} (h : Lib.BuilderAt 57 5 B b p cs w) (hb : Below w.heap.size w w') : Lib.BuilderAt 57 5 B b p cs w' := by
  have hlt := h.lt
  obtain ⟨h1, v, h2, h3, h4⟩ := h
  refine ⟨h1, v, (hb.block b hlt).trans h2, ⟨h3.1, ?_⟩, h4⟩
  rcases h3.2 with h | ⟨g, cap, cur, hv, hg, hh, hr⟩
  · exact .inl h
  · exact .inr ⟨g, cap, cur, hv, hg, (hb.block g (Array.getElem?_eq_some_iff.1 hh).1).trans hh, hr⟩
theorem IsBuilder_kept {B b : Nat} {cs : List Value} {w w' : World} (h : Lib.IsBuilder 57 5 B b cs w) (hb : Below w.heap.size w w') : Lib.IsBuilder 57 5 B b cs w' :=
  h.elim (fun x => .inl (BuilderAt_kept x hb)) (fun x => .inr (BuilderAt_kept x hb))
theorem cells_text (s : ByteArray) : Lib.strCells s = Lib.byteCells s.data.toList := rfl
theorem cells_app (a b : B) : Lib.byteCells a ++ Lib.byteCells b = Lib.byteCells (a ++ b) := by simp [Lib.byteCells]
theorem textE_cases (s : B) (l : List B) (hs : snapB s = false) :
    (l.all name = false → textE s l = 4 ∧ bs (textS s l) = ⟨#[]⟩) ∧ (l.all name = true → 6 < l.length → textE s l = 3 ∧ bs (textS s l) = ⟨#[]⟩) ∧
    (l.all name = true → ¬ 6 < l.length → textE s l = 0 ∧ bs (textS s l) = bs (snapT s ++ 47 :: Lib.join l [47])) := by
  refine ⟨fun h => ?_, fun h h6 => ?_, fun h h6 => ?_⟩
  · have e : textE s l = 4 := by unfold textE; rw [if_neg (by rw [hs]; decide), if_pos h]
    exact ⟨e, by unfold textS; rw [if_neg (by omega)]; rfl⟩
  · have e : textE s l = 3 := by unfold textE; rw [if_neg (by rw [hs]; decide), if_neg (by rw [h]; decide), if_pos h6]
    exact ⟨e, by unfold textS; rw [if_neg (by omega)]; rfl⟩
  · have e : textE s l = 0 := by unfold textE; rw [if_neg (by rw [hs]; decide), if_neg (by rw [h]; decide), if_neg h6]
    exact ⟨e, by unfold textS; rw [if_pos e]⟩
set_option maxHeartbeats 1000000 in
theorem text_nil (A : Option Addr) (l : List B) (c n E : Nat) (T : ByteArray) (T0 : B) (hT0 : T0 = []) (HN : Hid (n = l.length)) (hl : n ≤ 100000) (hc : n ≤ c) (HX : Hid (∀ x ∈ l, x.length ≤ 1000000)) (w : World) (HR : Hid (Rs w A l))
    (HE4 : Hid (l.all name = false → E = 4 ∧ T = ⟨#[]⟩)) (HE3 : Hid (l.all name = true → 6 < n → E = 3 ∧ T = ⟨#[]⟩)) (HE0 : Hid (l.all name = true → ¬ 6 < n → E = 0 ∧ T = bs (T0 ++ 47 :: Lib.join l [47]))) :
    Calls Try.prog 16 #[.string ⟨#[]⟩, .slice A n c] w fun e w' => e = .returned (.tuple #[.string T, .int .i64 E]) ∧ Below w.heap.size w w' := by
  have HB0 := Lib.hid ((Below.refl w.heap.size w).alloc (Nat.le_refl _) (.cells #[.pointer none, .slice none 0 0] 57))
  have HBu0 : Hid (Lib.IsBuilder 57 5 w.heap.size w.heap.size (Lib.byteCells T0) (w.alloc (.cells #[.pointer none, .slice none 0 0] 57))) := by
    rw [hT0]; exact Lib.fresh_isBuilder 57 5 w
  have hT0l : T0.length ≤ 17 := by rw [hT0]; simp
  clear hT0
  go_enter Try.func16, Try.ntmps16
  go_wp2
  generalize hW : w.alloc (.cells #[.pointer none, .slice none 0 0] 57) = W at *
  have HBu := HBu0; have HB := HB0
  clear hW HBu0 HB0
  go_loop [23] (fun i => ∃ k : Nat, k ≤ n ∧ i = .int .i64 k ∧ ∀ j x, j < k → l[j]? = some x → name x = true) (fun i => n - (intOf i).toNat)
  case atStart => exact ⟨0, by omega, rfl, fun j x hj => by omega⟩
  case round =>
    obtain ⟨k, hk, rfl, hall⟩ := hrel
    have HA := Lib.hid hall; clear hall
    by_cases hlt : k < n
    · obtain ⟨x, hx⟩ : ∃ x, l[k]? = some x := ⟨_, List.getElem?_eq_getElem (by rw [← HN.out]; exact hlt)⟩
      obtain ⟨b, o, rfl, hB, hcell⟩ := (HR.out.kept HB.out).at_ hx
      have hm := List.mem_of_getElem? hx
      have CF := Lib.hid (name_any (bs x) (by rw [bs_size]; have := HX.out x hm; omega))
      rw [bs_data] at CF
      generalize bs x = xb at *
      by_cases hn : name x = true
      · rw [hn] at CF
        have HNx := Lib.hid hn; have HK := Lib.hid hx
        clear hn hx hm
        go_wp2_with fail
        refine (CF.out _).mono ?_; rintro e w2 ⟨rfl, rfl⟩
        go_wp2
        refine ⟨⟨k + 1, by omega, by go_num, fun j y hj hy => ?_⟩, by simp [intOf]; omega⟩
        by_cases e : j < k
        · exact HA.out j y e hy
        · obtain rfl : j = k := by omega
          rw [HK.out] at hy
          injection hy with hy
          rw [← hy]; exact HNx.out
      · have hn' : name x = false := by simpa using hn
        have hf : l.all name = false := List.all_eq_false.2 ⟨x, hm, hn⟩
        obtain ⟨e1, e2⟩ := HE4.out hf
        rw [hn'] at CF
        have E1 := Lib.hid e1; have E2 := Lib.hid e2
        clear hn hn' hf e1 e2 hm hx
        go_wp2_with fail
        refine (CF.out _).mono ?_; rintro e w2 ⟨rfl, rfl⟩
        go_wp2
        go_ret2
        rw [E1.out, E2.out]
        exact ⟨rfl, HB.out⟩
    · have ht : l.all name = true := by
        rw [List.all_eq_true]
        intro x hx
        obtain ⟨j, hj⟩ := List.getElem?_of_mem hx
        have := (List.getElem?_eq_some_iff.1 hj).1
        exact HA.out j x (by have := HN.out; omega) hj
      by_cases h6 : 6 < n
      · obtain ⟨e1, e2⟩ := HE3.out ht h6
        have E1 := Lib.hid e1; have E2 := Lib.hid e2
        clear e1 e2 ht
        go_wp2
        go_ret2
        rw [E1.out, E2.out]
        exact ⟨rfl, HB.out⟩
      · obtain ⟨e1, e2⟩ := HE0.out ht h6
        have E1 := Lib.hid e1; have E2 := Lib.hid e2
        have hjl := join_len l (fun x hx => (name_no (List.all_eq_true.1 ht x hx)).2.2)
        have hjl2 : (Lib.join l [47]).length ≤ 102 := by have := HN.out; omega
        have J := Lib.hid (fun w h => join_any A l c 47 (by have := HN.out; omega) (by have := HN.out; omega) (by omega) w h)
        rw [← HN.out] at J
        have hjs : (bs (Lib.join l [47])).size ≤ 102 := by rw [bs_size]; exact hjl2
        have hjd := bs_data (Lib.join l [47])
        generalize bs (Lib.join l [47]) = jb at *
        have HJ := Lib.hid hjd
        clear e1 e2 ht hjl hjl2 hjd
        have hov : ¬ 9223372036854775807 < (⟨#[47]⟩ : ByteArray).size + jb.size := by
          have : (⟨#[47]⟩ : ByteArray).size = 1 := rfl
          omega
        have hov1 : ¬ 9223372036854775807 < 1 + jb.size := by omega
        go_wp2_with fail
        refine (J.out _ (HR.out.kept HB.out)).mono ?_; rintro e w3 ⟨rfl, b3⟩
        have B3 := Lib.hid b3; clear b3
        have HBu3 := Lib.hid (IsBuilder_kept HBu.out B3.out)
        have HB3 := Lib.hid (HB.out.trans (B3.out.mono HB.out.size))
        go_wp2_with fail
        refine (Try.Builder_WriteString w.heap.size w.heap.size (Lib.byteCells T0) _ _ HBu3.out ?_ HB3.out.size).mono ?_
        · rw [Lib.byteCells_length]
          have : (⟨#[47]⟩ ++ jb : ByteArray).size = 1 + jb.size := by rw [ByteArray.size_append]; rfl
          omega
        rintro e w4 ⟨rfl, h4, b4⟩
        have HB4 := Lib.hid (HB3.out.trans b4)
        rw [cells_text, cells_app] at h4
        have H4 := Lib.hid h4
        clear h4 b4
        go_wp2_with fail
        refine (Try.Builder_String_any w.heap.size w.heap.size _ _ (.inr H4.out) HB4.out.size).mono ?_
        rintro e w5 ⟨rfl, b5⟩
        have HB5 := Lib.hid (HB4.out.trans b5)
        clear b5
        go_wp2
        go_ret2
        refine ⟨?_, HB5.out⟩
        rw [E1.out, E2.out, ← HJ.out]
        rfl
set_option maxHeartbeats 1000000 in
theorem text_snap (A : Option Addr) (l : List B) (c n E : Nat) (s T : ByteArray) (hs0 : ¬ s.toList = []) (hs1 : s.toList.isEmpty = false) (hs : s.size ≤ 16) (HN : Hid (n = l.length)) (hl : n ≤ 100000) (hc : n ≤ c) (HX : Hid (∀ x ∈ l, x.length ≤ 1000000)) (w : World) (HR : Hid (Rs w A l))
    (C1 : Hid (∀ w, Calls Try.prog 13 #[.string s] w fun e w' => e = .returned (.bool true) ∧ w = w')) (C2 : Hid (∀ w, Calls Try.prog 35 #[.string s, .string ⟨#[58]⟩] w fun e w' => e = .returned (.bool false) ∧ w = w'))
    (HE4 : Hid (l.all name = false → E = 4 ∧ T = ⟨#[]⟩)) (HE3 : Hid (l.all name = true → 6 < n → E = 3 ∧ T = ⟨#[]⟩)) (HE0 : Hid (l.all name = true → ¬ 6 < n → E = 0 ∧ T = bs ((s.data.toList ++ [58]) ++ 47 :: Lib.join l [47]))) :
    Calls Try.prog 16 #[.string s, .slice A n c] w fun e w' => e = .returned (.tuple #[.string T, .int .i64 E]) ∧ Below w.heap.size w w' := by
  have HBu0 := Lib.hid (Lib.fresh_isBuilder 57 5 w)
  have HB0 := Lib.hid ((Below.refl w.heap.size w).alloc (Nat.le_refl _) (.cells #[.pointer none, .slice none 0 0] 57))
  obtain ⟨T0, hT0⟩ : ∃ T0 : B, T0 = s.data.toList ++ [58] := ⟨_, rfl⟩
  have hT0l : T0.length ≤ 17 := by rw [hT0, List.length_append, ← Lib.size_eq]; simp; omega
  rw [← hT0] at HE0
  have HT0 := Lib.hid hT0
  clear hT0
  have hov : ¬ 9223372036854775807 < s.size + (⟨#[58]⟩ : ByteArray).size := by
    have : (⟨#[58]⟩ : ByteArray).size = 1 := rfl
    omega
  have hov1 : ¬ 9223372036854775807 < s.size + 1 := by omega
  go_enter Try.func16, Try.ntmps16
  go_wp2_with fail
  generalize hW : w.alloc (.cells #[.pointer none, .slice none 0 0] 57) = W at *
  clear hW
  refine (C1.out _).mono ?_; rintro e w2 ⟨rfl, rfl⟩
  go_wp2_with fail
  refine (C2.out _).mono ?_; rintro e w2 ⟨rfl, rfl⟩
  go_wp2_with fail
  refine (Try.Builder_WriteString w.heap.size w.heap.size [] _ _ HBu0.out ?_ HB0.out.size).mono ?_
  · have : (s ++ ⟨#[58]⟩ : ByteArray).size = s.size + 1 := by rw [ByteArray.size_append]; rfl
    rw [this, List.length_nil]; omega
  rintro e w2 ⟨rfl, h2, b2⟩
  have HB := Lib.hid (HB0.out.trans b2)
  rw [cells_text, List.nil_append] at h2
  have hd : (s ++ ⟨#[58]⟩ : ByteArray).data.toList = T0 := by
    rw [ByteArray.data_append, Array.toList_append, HT0.out]
  rw [hd] at h2
  have HBu : Hid (Lib.IsBuilder 57 5 w.heap.size w.heap.size (Lib.byteCells T0) w2) := .inr h2
  clear h2 b2 hd HBu0 HB0 hov hov1
  go_wp2
  go_loop [23] (fun i => ∃ k : Nat, k ≤ n ∧ i = .int .i64 k ∧ ∀ j x, j < k → l[j]? = some x → name x = true) (fun i => n - (intOf i).toNat)
  case atStart => exact ⟨0, by omega, rfl, fun j x hj => by omega⟩
  case round =>
    obtain ⟨k, hk, rfl, hall⟩ := hrel
    have HA := Lib.hid hall; clear hall
    by_cases hlt : k < n
    · obtain ⟨x, hx⟩ : ∃ x, l[k]? = some x := ⟨_, List.getElem?_eq_getElem (by rw [← HN.out]; exact hlt)⟩
      obtain ⟨b, o, rfl, hB, hcell⟩ := (HR.out.kept HB.out).at_ hx
      have hm := List.mem_of_getElem? hx
      have CF := Lib.hid (name_any (bs x) (by rw [bs_size]; have := HX.out x hm; omega))
      rw [bs_data] at CF
      generalize bs x = xb at *
      by_cases hn : name x = true
      · rw [hn] at CF
        have HNx := Lib.hid hn; have HK := Lib.hid hx
        clear hn hx hm
        go_wp2_with fail
        refine (CF.out _).mono ?_; rintro e w2 ⟨rfl, rfl⟩
        go_wp2
        refine ⟨⟨k + 1, by omega, by go_num, fun j y hj hy => ?_⟩, by simp [intOf]; omega⟩
        by_cases e : j < k
        · exact HA.out j y e hy
        · obtain rfl : j = k := by omega
          rw [HK.out] at hy
          injection hy with hy
          rw [← hy]; exact HNx.out
      · have hn' : name x = false := by simpa using hn
        have hf : l.all name = false := List.all_eq_false.2 ⟨x, hm, hn⟩
        obtain ⟨e1, e2⟩ := HE4.out hf
        rw [hn'] at CF
        have E1 := Lib.hid e1; have E2 := Lib.hid e2
        clear hn hn' hf e1 e2 hm hx
        go_wp2_with fail
        refine (CF.out _).mono ?_; rintro e w2 ⟨rfl, rfl⟩
        go_wp2
        go_ret2
        rw [E1.out, E2.out]
        exact ⟨rfl, HB.out⟩
    · have ht : l.all name = true := by
        rw [List.all_eq_true]
        intro x hx
        obtain ⟨j, hj⟩ := List.getElem?_of_mem hx
        have := (List.getElem?_eq_some_iff.1 hj).1
        exact HA.out j x (by have := HN.out; omega) hj
      by_cases h6 : 6 < n
      · obtain ⟨e1, e2⟩ := HE3.out ht h6
        have E1 := Lib.hid e1; have E2 := Lib.hid e2
        clear e1 e2 ht
        go_wp2
        go_ret2
        rw [E1.out, E2.out]
        exact ⟨rfl, HB.out⟩
      · obtain ⟨e1, e2⟩ := HE0.out ht h6
        have E1 := Lib.hid e1; have E2 := Lib.hid e2
        have hjl := join_len l (fun x hx => (name_no (List.all_eq_true.1 ht x hx)).2.2)
        have hjl2 : (Lib.join l [47]).length ≤ 102 := by have := HN.out; omega
        have J := Lib.hid (fun w h => join_any A l c 47 (by have := HN.out; omega) (by have := HN.out; omega) (by omega) w h)
        rw [← HN.out] at J
        have hjs : (bs (Lib.join l [47])).size ≤ 102 := by rw [bs_size]; exact hjl2
        have hjd := bs_data (Lib.join l [47])
        generalize bs (Lib.join l [47]) = jb at *
        have HJ := Lib.hid hjd
        clear e1 e2 ht hjl hjl2 hjd
        have hov : ¬ 9223372036854775807 < (⟨#[47]⟩ : ByteArray).size + jb.size := by
          have : (⟨#[47]⟩ : ByteArray).size = 1 := rfl
          omega
        have hov1 : ¬ 9223372036854775807 < 1 + jb.size := by omega
        go_wp2_with fail
        refine (J.out _ (HR.out.kept HB.out)).mono ?_; rintro e w3 ⟨rfl, b3⟩
        have B3 := Lib.hid b3; clear b3
        have HBu3 := Lib.hid (IsBuilder_kept HBu.out B3.out)
        have HB3 := Lib.hid (HB.out.trans (B3.out.mono HB.out.size))
        go_wp2_with fail
        refine (Try.Builder_WriteString w.heap.size w.heap.size (Lib.byteCells T0) _ _ HBu3.out ?_ HB3.out.size).mono ?_
        · rw [Lib.byteCells_length]
          have : (⟨#[47]⟩ ++ jb : ByteArray).size = 1 + jb.size := by rw [ByteArray.size_append]; rfl
          omega
        rintro e w4 ⟨rfl, h4, b4⟩
        have HB4 := Lib.hid (HB3.out.trans b4)
        rw [cells_text, cells_app] at h4
        have H4 := Lib.hid h4
        clear h4 b4
        go_wp2_with fail
        refine (Try.Builder_String_any w.heap.size w.heap.size _ _ (.inr H4.out) HB4.out.size).mono ?_
        rintro e w5 ⟨rfl, b5⟩
        have HB5 := Lib.hid (HB4.out.trans b5)
        clear b5
        go_wp2
        go_ret2
        refine ⟨?_, HB5.out⟩
        rw [E1.out, E2.out, ← HJ.out]
        rfl
theorem text_bad (A : Option Addr) (c n : Nat) (s : ByteArray) (hs0 : ¬ s.toList = []) (hs1 : s.toList.isEmpty = false) (w : World) (b1 b2 : Bool) (hb : b1 = false ∨ (b1 = true ∧ b2 = true))
    (C1 : Hid (∀ w, Calls Try.prog 13 #[.string s] w fun e w' => e = .returned (.bool b1) ∧ w = w')) (C2 : Hid (∀ w, Calls Try.prog 35 #[.string s, .string ⟨#[58]⟩] w fun e w' => e = .returned (.bool b2) ∧ w = w')) :
    Calls Try.prog 16 #[.string s, .slice A n c] w fun e w' => e = .returned (.tuple #[.string ⟨#[]⟩, .int .i64 (4 : Nat)]) ∧ Below w.heap.size w w' := by
  have HB0 := Lib.hid ((Below.refl w.heap.size w).alloc (Nat.le_refl _) (.cells #[.pointer none, .slice none 0 0] 57))
  rcases hb with rfl | ⟨rfl, rfl⟩
  · go_enter Try.func16, Try.ntmps16
    go_wp2_with fail
    refine (C1.out _).mono ?_; rintro e w2 ⟨rfl, rfl⟩
    go_wp2
    go_ret2
    exact ⟨rfl, HB0.out⟩
  · go_enter Try.func16, Try.ntmps16
    go_wp2_with fail
    refine (C1.out _).mono ?_; rintro e w2 ⟨rfl, rfl⟩
    go_wp2_with fail
    refine (C2.out _).mono ?_; rintro e w2 ⟨rfl, rfl⟩
    go_wp2
    go_ret2
    exact ⟨rfl, HB0.out⟩
def GivesText (s : B) (l : List B) (w : World) (e : Ending) (w' : World) : Prop := e = .returned (.tuple #[.string (bs (textS s l)), .int .i64 (textE s l)]) ∧ Below w.heap.size w w'
theorem text_any (A : Option Addr) (l : List B) (c : Nat) (s : ByteArray) (hl : l.length ≤ 100000) (hc : l.length ≤ c) (hx : ∀ x ∈ l, x.length ≤ 1000000) (hs : s.size ≤ 1000000) (w : World) (h : Rs w A l) :
    Calls Try.prog 16 #[.string s, .slice A l.length c] w (GivesText s.data.toList l w) := by
  unfold GivesText
  have hz : s.data.toList.length = s.size := (Lib.size_eq s).symm
  have ht : s.toList = s.data.toList := text_list s
  have C1 := Lib.hid (name_any s (by omega))
  have C2 := Lib.hid (contains_any s 58)
  by_cases h0 : s.data.toList = []
  · have hs' : s = ⟨#[]⟩ := by rw [← bs_of s, h0]; rfl
    obtain ⟨g4, g3, g0⟩ := textE_cases s.data.toList l (by rw [h0]; rfl)
    rw [show snapT s.data.toList = [] from by rw [h0]; rfl] at g0
    have := text_nil A l c l.length (textE s.data.toList l) (bs (textS s.data.toList l)) [] rfl rfl hl hc hx w h g4 g3 g0
    rw [hs'] at this ⊢
    exact this
  · have q0 : ¬ s.toList = [] := by rw [ht]; exact h0
    have q1 : s.toList.isEmpty = false := by
      rw [ht]; cases hq : s.data.toList
      · exact absurd hq h0
      · rfl
    by_cases hb : snapB s.data.toList = false
    · have hsn := snap_of hb
      rcases hsn with hsn | ⟨hn, hcol⟩
      · exact absurd hsn h0
      · rw [hn] at C1
        rw [hcol] at C2
        obtain ⟨g4, g3, g0⟩ := textE_cases s.data.toList l hb
        rw [show snapT s.data.toList = s.data.toList ++ [58] from if_neg h0] at g0
        exact text_snap A l c l.length _ s _ q0 q1 (by have := (name_no hn).2.2; omega) rfl hl hc hx w h C1 C2 g4 g3 g0
    · have hb' : snapB s.data.toList = true := by simpa using hb
      have e4 : textE s.data.toList l = 4 := if_pos hb'
      have es : bs (textS s.data.toList l) = ⟨#[]⟩ := by unfold textS; rw [if_neg (by omega)]; rfl
      rw [e4, es]
      refine text_bad A c l.length s q0 q1 w _ _ ?_ C1 C2
      have : (s.data.toList == []) = false := beq_eq_false_iff_ne.2 h0
      unfold snapB at hb'
      rw [this] at hb'
      cases hn : name s.data.toList
      · exact .inl rfl
      · rw [hn] at hb'
        exact .inr ⟨rfl, by simpa using hb'⟩
end Go.Proofs.Ytaiabcmgpkkfhaa
