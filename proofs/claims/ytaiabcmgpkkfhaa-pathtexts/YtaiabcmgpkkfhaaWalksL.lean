/- The document: the text of names. Conditions: texts of a million bytes, a hundred thousand names at most. -/
import Derived.Test.YtaiabcmgpkkfhaaWalksK
namespace Go.Proofs.Ytaiabcmgpkkfhaa
open Go.ChangeShapes Go.WideShapes Go.RowKit Go.Path
set_option maxRecDepth 100000
set_option linter.unusedVariables false
set_option linter.unusedSimpArgs false
/-- Each name behind a slash. -/
def acc (l : List B) : B := (l.map (47 :: ·)).flatten
theorem acc_join (l : List B) (h : l ≠ []) : acc l = 47 :: Lib.join l [47] := by
  rcases l with _ | ⟨x, r⟩
  · exact absurd rfl h
  · rw [Lib.join_cons]
    simp [acc, Lib.joinTail]
theorem acc_take {l : List B} {k : Nat} {x : B} (h : l[k]? = some x) : acc (l.take (k + 1)) = acc (l.take k) ++ (47 :: x) := by
  obtain ⟨hlt, he⟩ := List.getElem?_eq_some_iff.1 h
  rw [List.take_succ_eq_append_getElem hlt, he]
  simp [acc]
set_option maxHeartbeats 1000000 in
theorem rtext_nil (A : Option Addr) (l : List B) (c n E : Nat) (s T : ByteArray) (HN : Hid (n = l.length)) (hl : n ≤ 100000) (HX : Hid (∀ x ∈ l, x.length ≤ 1000000)) (w : World) (HR : Hid (Rs w A l))
    (HE4 : Hid (l.all name = false → E = 4 ∧ T = ⟨#[]⟩)) (HE3 : Hid (l.all name = true → 6 < n → E = 3 ∧ T = ⟨#[]⟩)) (HE0 : Hid (l.all name = true → ¬ 6 < n → E = 0 ∧ T = bs ([] ++ 47 :: Lib.join l [47])))
    (hs0 : s = ⟨#[]⟩) :
    Calls Try.prog 17 #[.string s, .slice A n c] w fun e w' => e = .returned (.tuple #[.string T, .int .i64 E]) ∧ Below w.heap.size w w' := by
  have hs : s.size ≤ 16 := by rw [hs0]; decide
  have hs1 : s.toList = [] := by rw [hs0, text_list]
  have hs2 : s.toList.isEmpty = true := by rw [hs1]; rfl
  clear hs0
  go_enter Try.func17, Try.ntmps17
  go_wp2
  go_loop [6] (fun i => ∃ k : Nat, k ≤ n ∧ i = .int .i64 k ∧ ∀ j x, j < k → l[j]? = some x → name x = true) (fun i => n - (intOf i).toNat)
  case atStart => exact ⟨0, by omega, rfl, fun j x hj => by omega⟩
  case round =>
    obtain ⟨k, hk, rfl, hall⟩ := hrel
    have HA := Lib.hid hall; clear hall
    by_cases hlt : k < n
    · obtain ⟨x, hx⟩ : ∃ x, l[k]? = some x := ⟨_, List.getElem?_eq_getElem (by rw [← HN.out]; exact hlt)⟩
      obtain ⟨b, o, rfl, hB, hcell⟩ := HR.out.at_ hx
      have hm := List.mem_of_getElem? hx
      have CF := Lib.hid (check_any (bs x) (by rw [bs_size]; have := HX.out x hm; omega))
      rw [bs_data] at CF
      generalize bs x = xb at *
      by_cases hn : check x = 0
      · rw [hn] at CF
        have HNx := Lib.hid (check_name.1 hn); have HK := Lib.hid hx
        clear hn hx hm
        go_wp2_with fail
        refine (CF.out _).mono ?_; rintro e w2 ⟨rfl, rfl⟩
        go_wp2
        refine ⟨⟨k + 1, by omega, by go_num, fun j y hj hy => ?_⟩, by simp [intOf]; omega⟩
        by_cases e : j < k
        · exact HA.out j y e hy
        · obtain rfl : j = k := by omega
          rw [HK.out] at hy
          injection hy with hy
          rw [← hy]; exact HNx.out
      · have hf : l.all name = false := List.all_eq_false.2 ⟨x, hm, fun h => hn (check_name.2 h)⟩
        obtain ⟨e1, e2⟩ := HE4.out hf
        have E1 := Lib.hid e1; have E2 := Lib.hid e2
        have hn1 : ¬ ((check x : Nat) : Int) = 0 := by omega
        have hn2 : (((check x : Nat) : Int) == 0) = false := by simpa using hn1
        clear hn hf e1 e2 hm hx
        generalize check x = ck at *
        go_wp2_with fail
        refine (CF.out _).mono ?_; rintro e w2 ⟨rfl, rfl⟩
        go_wp2
        go_ret2
        rw [E1.out, E2.out]
        exact ⟨rfl, Below.refl _ _⟩
    · have ht : l.all name = true := by
        rw [List.all_eq_true]
        intro x hx
        obtain ⟨j, hj⟩ := List.getElem?_of_mem hx
        have := (List.getElem?_eq_some_iff.1 hj).1
        exact HA.out j x (by have := HN.out; omega) hj
      by_cases h6 : 6 < n
      · obtain ⟨e1, e2⟩ := HE3.out ht h6
        have E1 := Lib.hid e1; have E2 := Lib.hid e2
        clear e1 e2 ht
        go_wp2
        go_ret2
        rw [E1.out, E2.out]
        exact ⟨rfl, Below.refl _ _⟩
      · obtain ⟨e1, e2⟩ := HE0.out ht h6
        have E1 := Lib.hid e1; have E2 := Lib.hid e2
        have HT := Lib.hid ht
        clear e1 e2 ht
        go_wp2
        go_loop [7, 8] (fun v7 i => ∃ k : Nat, ∃ a : ByteArray, k ≤ n ∧ a.size ≤ 17 * k ∧ v7 = .string a ∧ i = .int .i64 k ∧ a.data.toList = acc (l.take k)) (fun _ i => n - (intOf i).toNat)
        case atStart => exact ⟨0, ⟨#[]⟩, by omega, by exact Nat.le_refl _, rfl, rfl, by simp [acc]⟩
        case round =>
          obtain ⟨k, a, hk, hal, rfl, rfl, hac⟩ := hrel
          have HAC := Lib.hid hac; clear hac
          by_cases hlt : k < n
          · obtain ⟨x, hx⟩ : ∃ x, l[k]? = some x := ⟨_, List.getElem?_eq_getElem (by rw [← HN.out]; exact hlt)⟩
            obtain ⟨b, o, rfl, hB, hcell⟩ := HR.out.at_ hx
            have hx16 := (name_no (List.all_eq_true.1 HT.out x (List.mem_of_getElem? hx))).2.2
            have HAT := Lib.hid (acc_take hx)
            have hxs := bs_size x
            have HXD := Lib.hid (bs_data x)
            generalize bs x = xb at *
            rw [← hxs] at hx16
            clear hx hxs
            have hov : ¬ 9223372036854775807 < a.size + 1 := by omega
            have hov2 : ¬ 9223372036854775807 < a.size + 1 + xb.size := by omega
            have hov3 : ¬ 9223372036854775807 < (a ++ ⟨#[47]⟩ : ByteArray).size + xb.size := by
              have : (a ++ ⟨#[47]⟩ : ByteArray).size = a.size + 1 := by rw [ByteArray.size_append]; rfl
              omega
            go_wp2
            refine ⟨⟨k + 1, _, by omega, ?_, rfl, by go_num, ?_⟩, by simp [intOf]; omega⟩
            · have : (a ++ ⟨#[47]⟩ ++ xb : ByteArray).size = a.size + 1 + xb.size := by rw [ByteArray.size_append, ByteArray.size_append]; rfl
              omega
            · rw [HAT.out, ← HAC.out, ByteArray.data_append, ByteArray.data_append, Array.toList_append, Array.toList_append, HXD.out]; simp
          · have hkn : k = n := by omega
            subst hkn
            have HAC2 : Hid (a.data.toList = acc l) := by
              have := HAC.out
              rw [HN.out, List.take_length] at this
              exact this
            by_cases h0 : k = 0
            · have hl0 : l = [] := List.eq_nil_of_length_eq_zero (by have := HN.out; omega)
              have ha0 : a = ⟨#[]⟩ := by rw [← bs_of a, HAC2.out, hl0]; rfl
              have HL0 := Lib.hid hl0
              subst ha0
              clear hl0
              go_wp2
              go_ret2
              rw [E1.out, E2.out, HL0.out]
              exact ⟨rfl, Below.refl _ _⟩
            · have hl0 : l ≠ [] := by rintro rfl; exact h0 HN.out
              have haj := HAC2.out
              rw [acc_join l hl0] at haj
              have HJ := Lib.hid haj
              have a1 : ¬ a.toList = [] := by rw [text_list, haj]; simp
              have a2 : a.toList.isEmpty = false := by rw [text_list, haj]; rfl
              clear haj hl0
              have hov : ¬ 9223372036854775807 < s.size + 1 := by omega
              have hov2 : ¬ 9223372036854775807 < s.size + 1 + a.size := by omega
              have hov3 : ¬ 9223372036854775807 < (s ++ ⟨#[58]⟩ : ByteArray).size + a.size := by
                have : (s ++ ⟨#[58]⟩ : ByteArray).size = s.size + 1 := by rw [ByteArray.size_append]; rfl
                omega
              go_wp2
              go_ret2
              rw [E1.out, E2.out, ← HJ.out]
              refine ⟨?_, Below.refl _ _⟩
              rw [List.nil_append, bs_of]; rfl
set_option maxHeartbeats 1000000 in
theorem rtext_snap (A : Option Addr) (l : List B) (c n E : Nat) (s T : ByteArray) (HN : Hid (n = l.length)) (hl : n ≤ 100000) (HX : Hid (∀ x ∈ l, x.length ≤ 1000000)) (w : World) (HR : Hid (Rs w A l))
    (HE4 : Hid (l.all name = false → E = 4 ∧ T = ⟨#[]⟩)) (HE3 : Hid (l.all name = true → 6 < n → E = 3 ∧ T = ⟨#[]⟩)) (HE0 : Hid (l.all name = true → ¬ 6 < n → E = 0 ∧ T = bs ((s.data.toList ++ [58]) ++ 47 :: Lib.join l [47])))
    (hs1 : ¬ s.toList = []) (hs2 : s.toList.isEmpty = false) (hs : s.size ≤ 16)
    (C1 : Hid (∀ w, Calls Try.prog 14 #[.string s] w fun e w' => e = .returned (.int .i64 0) ∧ w = w')) (C2 : Hid (∀ w, Calls Try.prog 33 #[.string s, .int .u8 58] w fun e w' => e = .returned (.bool false) ∧ w = w')) :
    Calls Try.prog 17 #[.string s, .slice A n c] w fun e w' => e = .returned (.tuple #[.string T, .int .i64 E]) ∧ Below w.heap.size w w' := by
  have hov7 : ¬ 9223372036854775807 < s.size + 1 := by omega
  have hov8 : ¬ 9223372036854775807 < s.size + 1 + 1 := by omega
  have hov9 : ¬ 9223372036854775807 < (s ++ ⟨#[58]⟩ : ByteArray).size + 1 := by
    have : (s ++ ⟨#[58]⟩ : ByteArray).size = s.size + 1 := by rw [ByteArray.size_append]; rfl
    omega
  go_enter Try.func17, Try.ntmps17
  go_wp2_with fail
  refine (C1.out _).mono ?_; rintro e w2 ⟨rfl, rfl⟩
  go_wp2_with fail
  refine (C2.out _).mono ?_; rintro e w2 ⟨rfl, rfl⟩
  go_wp2
  go_loop [6] (fun i => ∃ k : Nat, k ≤ n ∧ i = .int .i64 k ∧ ∀ j x, j < k → l[j]? = some x → name x = true) (fun i => n - (intOf i).toNat)
  case atStart => exact ⟨0, by omega, rfl, fun j x hj => by omega⟩
  case round =>
    obtain ⟨k, hk, rfl, hall⟩ := hrel
    have HA := Lib.hid hall; clear hall
    by_cases hlt : k < n
    · obtain ⟨x, hx⟩ : ∃ x, l[k]? = some x := ⟨_, List.getElem?_eq_getElem (by rw [← HN.out]; exact hlt)⟩
      obtain ⟨b, o, rfl, hB, hcell⟩ := HR.out.at_ hx
      have hm := List.mem_of_getElem? hx
      have CF := Lib.hid (check_any (bs x) (by rw [bs_size]; have := HX.out x hm; omega))
      rw [bs_data] at CF
      generalize bs x = xb at *
      by_cases hn : check x = 0
      · rw [hn] at CF
        have HNx := Lib.hid (check_name.1 hn); have HK := Lib.hid hx
        clear hn hx hm
        go_wp2_with fail
        refine (CF.out _).mono ?_; rintro e w2 ⟨rfl, rfl⟩
        go_wp2
        refine ⟨⟨k + 1, by omega, by go_num, fun j y hj hy => ?_⟩, by simp [intOf]; omega⟩
        by_cases e : j < k
        · exact HA.out j y e hy
        · obtain rfl : j = k := by omega
          rw [HK.out] at hy
          injection hy with hy
          rw [← hy]; exact HNx.out
      · have hf : l.all name = false := List.all_eq_false.2 ⟨x, hm, fun h => hn (check_name.2 h)⟩
        obtain ⟨e1, e2⟩ := HE4.out hf
        have E1 := Lib.hid e1; have E2 := Lib.hid e2
        have hn1 : ¬ ((check x : Nat) : Int) = 0 := by omega
        have hn2 : (((check x : Nat) : Int) == 0) = false := by simpa using hn1
        clear hn hf e1 e2 hm hx
        generalize check x = ck at *
        go_wp2_with fail
        refine (CF.out _).mono ?_; rintro e w2 ⟨rfl, rfl⟩
        go_wp2
        go_ret2
        rw [E1.out, E2.out]
        exact ⟨rfl, Below.refl _ _⟩
    · have ht : l.all name = true := by
        rw [List.all_eq_true]
        intro x hx
        obtain ⟨j, hj⟩ := List.getElem?_of_mem hx
        have := (List.getElem?_eq_some_iff.1 hj).1
        exact HA.out j x (by have := HN.out; omega) hj
      by_cases h6 : 6 < n
      · obtain ⟨e1, e2⟩ := HE3.out ht h6
        have E1 := Lib.hid e1; have E2 := Lib.hid e2
        clear e1 e2 ht
        go_wp2
        go_ret2
        rw [E1.out, E2.out]
        exact ⟨rfl, Below.refl _ _⟩
      · obtain ⟨e1, e2⟩ := HE0.out ht h6
        have E1 := Lib.hid e1; have E2 := Lib.hid e2
        have HT := Lib.hid ht
        clear e1 e2 ht
        go_wp2
        go_loop [7, 8] (fun v7 i => ∃ k : Nat, ∃ a : ByteArray, k ≤ n ∧ a.size ≤ 17 * k ∧ v7 = .string a ∧ i = .int .i64 k ∧ a.data.toList = acc (l.take k)) (fun _ i => n - (intOf i).toNat)
        case atStart => exact ⟨0, ⟨#[]⟩, by omega, by exact Nat.le_refl _, rfl, rfl, by simp [acc]⟩
        case round =>
          obtain ⟨k, a, hk, hal, rfl, rfl, hac⟩ := hrel
          have HAC := Lib.hid hac; clear hac
          by_cases hlt : k < n
          · obtain ⟨x, hx⟩ : ∃ x, l[k]? = some x := ⟨_, List.getElem?_eq_getElem (by rw [← HN.out]; exact hlt)⟩
            obtain ⟨b, o, rfl, hB, hcell⟩ := HR.out.at_ hx
            have hx16 := (name_no (List.all_eq_true.1 HT.out x (List.mem_of_getElem? hx))).2.2
            have HAT := Lib.hid (acc_take hx)
            have hxs := bs_size x
            have HXD := Lib.hid (bs_data x)
            generalize bs x = xb at *
            rw [← hxs] at hx16
            clear hx hxs
            have hov : ¬ 9223372036854775807 < a.size + 1 := by omega
            have hov2 : ¬ 9223372036854775807 < a.size + 1 + xb.size := by omega
            have hov3 : ¬ 9223372036854775807 < (a ++ ⟨#[47]⟩ : ByteArray).size + xb.size := by
              have : (a ++ ⟨#[47]⟩ : ByteArray).size = a.size + 1 := by rw [ByteArray.size_append]; rfl
              omega
            go_wp2
            refine ⟨⟨k + 1, _, by omega, ?_, rfl, by go_num, ?_⟩, by simp [intOf]; omega⟩
            · have : (a ++ ⟨#[47]⟩ ++ xb : ByteArray).size = a.size + 1 + xb.size := by rw [ByteArray.size_append, ByteArray.size_append]; rfl
              omega
            · rw [HAT.out, ← HAC.out, ByteArray.data_append, ByteArray.data_append, Array.toList_append, Array.toList_append, HXD.out]; simp
          · have hkn : k = n := by omega
            subst hkn
            have HAC2 : Hid (a.data.toList = acc l) := by
              have := HAC.out
              rw [HN.out, List.take_length] at this
              exact this
            by_cases h0 : k = 0
            · have hl0 : l = [] := List.eq_nil_of_length_eq_zero (by have := HN.out; omega)
              have ha0 : a = ⟨#[]⟩ := by rw [← bs_of a, HAC2.out, hl0]; rfl
              have HL0 := Lib.hid hl0
              subst ha0
              clear hl0
              go_wp2
              go_ret2
              rw [E1.out, E2.out, HL0.out]
              refine ⟨?_, Below.refl _ _⟩
              have hq : bs (s.data.toList ++ [58] ++ 47 :: Lib.join [] [47]) = s ++ ⟨#[58]⟩ ++ ⟨#[47]⟩ := by
                rw [← bs_of (s ++ ⟨#[58]⟩ ++ ⟨#[47]⟩), ByteArray.data_append, ByteArray.data_append, Array.toList_append, Array.toList_append]; rfl
              rw [hq]; rfl
            · have hl0 : l ≠ [] := by rintro rfl; exact h0 HN.out
              have haj := HAC2.out
              rw [acc_join l hl0] at haj
              have HJ := Lib.hid haj
              have a1 : ¬ a.toList = [] := by rw [text_list, haj]; simp
              have a2 : a.toList.isEmpty = false := by rw [text_list, haj]; rfl
              clear haj hl0
              have hov : ¬ 9223372036854775807 < s.size + 1 := by omega
              have hov2 : ¬ 9223372036854775807 < s.size + 1 + a.size := by omega
              have hov3 : ¬ 9223372036854775807 < (s ++ ⟨#[58]⟩ : ByteArray).size + a.size := by
                have : (s ++ ⟨#[58]⟩ : ByteArray).size = s.size + 1 := by rw [ByteArray.size_append]; rfl
                omega
              go_wp2
              go_ret2
              rw [E1.out, E2.out, ← HJ.out]
              refine ⟨?_, Below.refl _ _⟩
              have hq : bs (s.data.toList ++ [58] ++ a.data.toList) = s ++ ⟨#[58]⟩ ++ a := by
                rw [← bs_of (s ++ ⟨#[58]⟩ ++ a), ByteArray.data_append, ByteArray.data_append, Array.toList_append, Array.toList_append]
              rw [hq]; rfl
theorem rtext_bad (A : Option Addr) (c n k : Nat) (s : ByteArray) (hs0 : ¬ s.toList = []) (hs1 : s.toList.isEmpty = false) (w : World) (b2 : Bool) (hb : (¬ (k : Int) = 0) ∨ (k = 0 ∧ b2 = true))
    (C1 : Hid (∀ w, Calls Try.prog 14 #[.string s] w fun e w' => e = .returned (.int .i64 k) ∧ w = w')) (C2 : Hid (∀ w, Calls Try.prog 33 #[.string s, .int .u8 58] w fun e w' => e = .returned (.bool b2) ∧ w = w')) :
    Calls Try.prog 17 #[.string s, .slice A n c] w fun e w' => e = .returned (.tuple #[.string ⟨#[]⟩, .int .i64 (4 : Nat)]) ∧ Below w.heap.size w w' := by
  rcases hb with hk | ⟨rfl, rfl⟩
  · have hk2 : ((k : Int) == 0) = false := by simpa using hk
    go_enter Try.func17, Try.ntmps17
    go_wp2_with fail
    refine (C1.out _).mono ?_; rintro e w2 ⟨rfl, rfl⟩
    go_wp2
    go_ret2
    exact ⟨rfl, Below.refl _ _⟩
  · go_enter Try.func17, Try.ntmps17
    go_wp2_with fail
    refine (C1.out _).mono ?_; rintro e w2 ⟨rfl, rfl⟩
    go_wp2_with fail
    refine (C2.out _).mono ?_; rintro e w2 ⟨rfl, rfl⟩
    go_wp2
    go_ret2
    exact ⟨rfl, Below.refl _ _⟩
theorem rtext_any (A : Option Addr) (l : List B) (c : Nat) (s : ByteArray) (hl : l.length ≤ 100000) (hx : ∀ x ∈ l, x.length ≤ 1000000) (hs : s.size ≤ 1000000) (w : World) (h : Rs w A l) :
    Calls Try.prog 17 #[.string s, .slice A l.length c] w (GivesText s.data.toList l w) := by
  unfold GivesText
  have hz : s.data.toList.length = s.size := (Lib.size_eq s).symm
  have ht : s.toList = s.data.toList := text_list s
  have C1 := Lib.hid (check_any s hs)
  have C2 := Lib.hid (has_any s 58 (by omega) hs)
  rw [show (58 : Nat).toUInt8 = 58 from rfl] at C2
  by_cases h0 : s.data.toList = []
  · have hs' : s = ⟨#[]⟩ := by rw [← bs_of s, h0]; rfl
    obtain ⟨g4, g3, g0⟩ := textE_cases s.data.toList l (by rw [h0]; rfl)
    rw [show snapT s.data.toList = [] from by rw [h0]; rfl] at g0
    exact rtext_nil A l c l.length _ s _ rfl hl hx w h g4 g3 g0 hs'
  · have q0 : ¬ s.toList = [] := by rw [ht]; exact h0
    have q1 : s.toList.isEmpty = false := by
      rw [ht]; cases hq : s.data.toList
      · exact absurd hq h0
      · rfl
    by_cases hb : snapB s.data.toList = false
    · have hsn := snap_of hb
      rcases hsn with hsn | ⟨hn, hcol⟩
      · exact absurd hsn h0
      · rw [check_name.2 hn] at C1
        rw [hcol] at C2
        obtain ⟨g4, g3, g0⟩ := textE_cases s.data.toList l hb
        rw [show snapT s.data.toList = s.data.toList ++ [58] from if_neg h0] at g0
        exact rtext_snap A l c l.length _ s _ rfl hl hx w h g4 g3 g0 q0 q1 (by have := (name_no hn).2.2; omega) C1 C2
    · have hb' : snapB s.data.toList = true := by simpa using hb
      have e4 : textE s.data.toList l = 4 := if_pos hb'
      have es : bs (textS s.data.toList l) = ⟨#[]⟩ := by unfold textS; rw [if_neg (by omega)]; rfl
      rw [e4, es]
      refine rtext_bad A c l.length _ s q0 q1 w _ ?_ C1 C2
      have : (s.data.toList == []) = false := beq_eq_false_iff_ne.2 h0
      unfold snapB at hb'
      rw [this] at hb'
      by_cases hn : check s.data.toList = 0
      · rw [check_name.1 hn] at hb'
        exact .inr ⟨hn, by simpa using hb'⟩
      · exact .inl (by omega)
end Go.Proofs.Ytaiabcmgpkkfhaa
