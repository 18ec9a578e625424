/- The document's moves. Conditions: keys of a thousand bytes at most. -/
import Derived.Test.YtnpgoahdemfkpaaDoorWalksM
namespace Go.Proofs.YtnpgoahdemfkpaaDoor
open Go.ChangeShapes Go.WideShapes Go.RowKit Go.Path
set_option maxRecDepth 100000
set_option linter.unusedVariables false
set_option linter.unusedSimpArgs false
theorem extract_bs (s : ByteArray) (a b : Nat) : s.extract a b = bs ((s.data.toList.drop a).take (b - a)) := by
  have h := Lib.extract_toList s a b
  rw [text_list] at h
  rw [← bs_of (s.extract a b), h]
theorem rmove_stay (A C : Option Addr) (n c m d : Nat) (k : ByteArray) (bf bt : Bool) (w : World)
    (h : (n : Int) = 0 ∨ ¬ (n : Int) = 0 ∧ ((m : Int) = 0 ∨ ¬ (m : Int) = 0 ∧ (bf = false ∨ bf = true ∧ (bt = false ∨ bt = true ∧ k = ⟨#[]⟩))))
    (RF : Hid (Calls Tryd.prog 38 #[.slice A n c] w fun e w' => e = .returned (.bool bf) ∧ w = w'))
    (RT : Hid (Calls Tryd.prog 38 #[.slice C m d] w fun e w' => e = .returned (.bool bt) ∧ w = w')) :
    Calls Tryd.prog 25 #[.string k, .slice A n c, .slice C m d] w fun e w' => e = .returned (.string k) ∧ Below w.heap.size w w' := by
  rcases h with h | ⟨h, h'⟩
  · obtain rfl : n = 0 := by omega
    clear h
    go_enter Tryd.func25, Tryd.ntmps25
    go_wp2
    go_ret
    exact ⟨rfl, Below.refl _ _⟩
  · have hn' : ((n : Int) == 0) = false := by simpa using h
    rcases h' with h' | ⟨h', h2⟩
    · obtain rfl : m = 0 := by omega
      clear h'
      go_enter Tryd.func25, Tryd.ntmps25
      go_wp2
      go_ret
      exact ⟨rfl, Below.refl _ _⟩
    · have hm' : ((m : Int) == 0) = false := by simpa using h'
      rcases h2 with rfl | ⟨rfl, rfl | ⟨rfl, rfl⟩⟩
      · go_enter Tryd.func25, Tryd.ntmps25
        go_wp2_with fail
        refine RF.out.mono ?_; rintro e w1 ⟨rfl, rfl⟩
        go_wp2
        go_ret
        exact ⟨rfl, Below.refl _ _⟩
      · go_enter Tryd.func25, Tryd.ntmps25
        go_wp2_with fail
        refine RF.out.mono ?_; rintro e w1 ⟨rfl, rfl⟩
        go_wp2_with fail
        refine RT.out.mono ?_; rintro e w1 ⟨rfl, rfl⟩
        go_wp2
        go_ret
        exact ⟨rfl, Below.refl _ _⟩
      · go_enter Tryd.func25, Tryd.ntmps25
        go_wp2_with fail
        refine RF.out.mono ?_; rintro e w1 ⟨rfl, rfl⟩
        go_wp2_with fail
        refine RT.out.mono ?_; rintro e w1 ⟨rfl, rfl⟩
        go_wp2
        go_ret
        exact ⟨rfl, Below.refl _ _⟩
set_option maxHeartbeats 2000000 in
theorem rmove_core (A C : Option Addr) (n c m d : Nat) (k sB jB tB pB rB xB R : ByteArray) (hn : ¬ (n : Int) = 0) (hm : ¬ (m : Int) = 0) (hk0 : 0 < k.size) (hk : k.size ≤ 1000) (hk1 : ¬ k.toList = []) (hk2 : k.toList.isEmpty = false) (hj : jB.size ≤ 1000) (htb : tB.size ≤ 1000) (w : World)
    (RF : Hid (Calls Tryd.prog 38 #[.slice A n c] w fun e w' => e = .returned (.bool true) ∧ w = w'))
    (RT : Hid (Calls Tryd.prog 38 #[.slice C m d] w fun e w' => e = .returned (.bool true) ∧ w = w'))
    (JF : Hid (Calls Tryd.prog 39 #[.slice A n c] w fun e w' => e = .returned (.string jB) ∧ w = w'))
    (JT : Hid (∀ wx, wx.heap = w.heap → Calls Tryd.prog 39 #[.slice C m d] wx fun e w' => e = .returned (.string tB) ∧ wx = w'))
    (hs : k.extract 1 k.size = sB) (hsz : sB.size ≤ 1000) (hx : k.extract 0 1 = xB) (hxz : xB.size ≤ 1)
    (W : Hid ((¬ (k[0].toNat : Int) = 109 ∧ ¬ (k[0].toNat : Int) = 100 ∧ R = k) ∨
      (((k[0].toNat : Int) = 109 ∨ ¬ (k[0].toNat : Int) = 109 ∧ (k[0].toNat : Int) = 100) ∧
        (sB.size < jB.size ∧ R = k ∨
         jB.size ≤ sB.size ∧ sB.extract 0 jB.size = pB ∧ sB.extract jB.size sB.size = rB ∧ rB.size ≤ 1000 ∧
          ((pB.toList == jB.toList) = false ∧ R = k ∨ (pB.toList == jB.toList) = true ∧
            (sB.size = jB.size ∧ R = xB ++ tB ∨
             ∃ hlt : jB.size < sB.size, ¬ (sB[jB.size].toNat : Int) = 0 ∧ R = k ∨ (sB[jB.size].toNat : Int) = 0 ∧ R = xB ++ tB ++ rB)))))) :
    Calls Tryd.prog 25 #[.string k, .slice A n c, .slice C m d] w fun e w' => e = .returned (.string R) ∧ Below w.heap.size w w' := by
  have hn' : ((n : Int) == 0) = false := by simpa using hn
  have hm' : ((m : Int) == 0) = false := by simpa using hm
  have o1 : ¬ 9223372036854775807 < xB.size + tB.size := by omega
  rcases W.out with ⟨h1, h2, hR⟩ | ⟨hx0, hw⟩
  · have h1' : ((k[0].toNat : Int) != 109) = true := by simpa using h1
    have h2' : ((k[0].toNat : Int) != 100) = true := by simpa using h2
    have HR := Lib.hid hR
    clear W hs hx h1 h2 hR
    go_enter Tryd.func25, Tryd.ntmps25
    go_wp2_with fail
    refine RF.out.mono ?_; rintro e w1 ⟨rfl, rfl⟩
    go_wp2_with fail
    refine RT.out.mono ?_; rintro e w1 ⟨rfl, rfl⟩
    go_wp2
    go_ret
    rw [HR.out]; exact ⟨rfl, Below.refl _ _⟩
  · have hxx : ((k[0].toNat : Int) != 109) = false ∨ ((k[0].toNat : Int) != 109) = true ∧ ((k[0].toNat : Int) != 100) = false := by
      rcases hx0 with h | ⟨h, h'⟩
      · left; simpa using h
      · right; exact ⟨by simpa using h, by simpa using h'⟩
    clear hx0 W
    rcases hw with ⟨hlt, hR⟩ | ⟨hle, hp, hr, hrz, hw⟩
    · have HR := Lib.hid hR; clear hR
      rcases hxx with e1 | ⟨e1, e2⟩
      all_goals
        go_enter Tryd.func25, Tryd.ntmps25
        go_wp2_with fail
        refine RF.out.mono ?_; rintro e w1 ⟨rfl, rfl⟩
        go_wp2_with fail
        refine RT.out.mono ?_; rintro e w1 ⟨rfl, rfl⟩
        go_wp2_with fail
        refine JF.out.mono ?_; rintro e w1 ⟨rfl, rfl⟩
        go_wp2
        go_ret
        rw [HR.out]; exact ⟨rfl, Below.refl _ _⟩
    · have i1 : (1 : Int) ≤ (k.size : Int) := by omega
      have i2 : (jB.size : Int) ≤ (sB.size : Int) := by omega
      have i3 : (0 : Int) ≤ (jB.size : Int) := by omega
      have o2 : ¬ 9223372036854775807 < (xB ++ tB).size + rB.size := by rw [ByteArray.size_append]; omega
      have o3 : ¬ 9223372036854775807 < xB.size + tB.size + rB.size := by omega
      rcases hw with ⟨he, hR⟩ | ⟨he, hw⟩
      · have HR := Lib.hid hR; clear hR
        rcases hxx with e1 | ⟨e1, e2⟩
        all_goals
          go_enter Tryd.func25, Tryd.ntmps25
          go_wp2_with fail
          refine RF.out.mono ?_; rintro e w1 ⟨rfl, rfl⟩
          go_wp2_with fail
          refine RT.out.mono ?_; rintro e w1 ⟨rfl, rfl⟩
          go_wp2_with fail
          refine JF.out.mono ?_; rintro e w1 ⟨rfl, rfl⟩
          go_wp2
          go_ret
          rw [HR.out]; exact ⟨rfl, Below.refl _ _⟩
      · rcases hw with ⟨hsz2, hR⟩ | ⟨hlt, ⟨hb, hR⟩ | ⟨hb, hR⟩⟩
        · have HR := Lib.hid hR; clear hR
          have hq : ¬ jB.size < sB.size := by omega
          have hq2 : sB.size ≤ jB.size := by omega
          rcases hxx with e1 | ⟨e1, e2⟩
          all_goals
            go_enter Tryd.func25, Tryd.ntmps25
            go_wp2_with fail
            refine RF.out.mono ?_; rintro e w1 ⟨rfl, rfl⟩
            go_wp2_with fail
            refine RT.out.mono ?_; rintro e w1 ⟨rfl, rfl⟩
            go_wp2_with fail
            refine JF.out.mono ?_; rintro e w1 ⟨rfl, rfl⟩
            go_wp2
            go_quiet ((exact Calls.quiet_of_same ((JT.out _ (by rfl)).mono fun _ _ hh => ⟨hh.1, hh.2.symm⟩)))
            go_wp2
            go_ret
            rw [HR.out]; exact ⟨rfl, below_drewN _ _⟩
        · have HR := Lib.hid hR; clear hR
          have hb' : ((sB[jB.size].toNat : Int) != 0) = true := by simpa using hb
          clear hb
          rcases hxx with e1 | ⟨e1, e2⟩
          all_goals
            go_enter Tryd.func25, Tryd.ntmps25
            go_wp2_with fail
            refine RF.out.mono ?_; rintro e w1 ⟨rfl, rfl⟩
            go_wp2_with fail
            refine RT.out.mono ?_; rintro e w1 ⟨rfl, rfl⟩
            go_wp2_with fail
            refine JF.out.mono ?_; rintro e w1 ⟨rfl, rfl⟩
            go_wp2
            go_ret
            rw [HR.out]; exact ⟨rfl, Below.refl _ _⟩
        · have HR := Lib.hid hR; clear hR
          have hb' : ((sB[jB.size].toNat : Int) != 0) = false := by simpa using hb
          clear hb
          rcases hxx with e1 | ⟨e1, e2⟩
          all_goals
            go_enter Tryd.func25, Tryd.ntmps25
            go_wp2_with fail
            refine RF.out.mono ?_; rintro e w1 ⟨rfl, rfl⟩
            go_wp2_with fail
            refine RT.out.mono ?_; rintro e w1 ⟨rfl, rfl⟩
            go_wp2_with fail
            refine JF.out.mono ?_; rintro e w1 ⟨rfl, rfl⟩
            go_wp2
            go_quiet ((exact Calls.quiet_of_same ((JT.out _ (by rfl)).mono fun _ _ hh => ⟨hh.1, hh.2.symm⟩)))
            go_wp2
            go_ret
            rw [HR.out]; exact ⟨rfl, below_drewN _ _⟩
theorem cons_of {k : ByteArray} {x : UInt8} {S : B} (h : k.data.toList = x :: S) (hk : 0 < k.size) : k[0] = x := by
  have := Lib.data_getElem? k 0 hk
  rw [h] at this
  simpa using this.symm
theorem u8_ne {x : UInt8} {n : Nat} (hn : n < 256) : ¬ (x.toNat : Int) = n ↔ x ≠ n.toUInt8 := by
  constructor
  · rintro h rfl
    apply h
    simp; omega
  · intro h e
    apply h
    apply UInt8.toNat_inj.1
    simp; omega
theorem u8_eq {x : UInt8} {n : Nat} (hn : n < 256) : (x.toNat : Int) = n ↔ x = n.toUInt8 := by
  constructor
  · intro e
    apply UInt8.toNat_inj.1
    simp; omega
  · rintro rfl
    simp; omega
theorem under_ways (j S : B) : S.length < j.length ∧ under j S = false ∨ j.length ≤ S.length ∧ (¬ S.take j.length = j ∧ under j S = false ∨ S.take j.length = j ∧
    (S.length = j.length ∧ under j S = true ∨ ∃ h : j.length < S.length, ¬ S[j.length] = 0 ∧ under j S = false ∨ S[j.length] = 0 ∧ under j S = true)) := by
  by_cases h : S.length < j.length
  · refine .inl ⟨h, ?_⟩
    rw [Bool.eq_false_iff]
    intro hu
    obtain ⟨t, rfl, _⟩ := (under_iff _ _).1 hu
    simp at h
    omega
  · refine .inr ⟨by omega, ?_⟩
    by_cases hp : S.take j.length = j
    · refine .inr ⟨hp, ?_⟩
      have hS : S = j ++ S.drop j.length := by conv => lhs; rw [← List.take_append_drop j.length S, hp]
      by_cases he : S.length = j.length
      · exact .inl ⟨he, (under_iff _ _).2 ⟨_, hS, .inl (List.drop_eq_nil_of_le (by omega))⟩⟩
      · have hlt : j.length < S.length := by omega
        have hd := List.drop_eq_getElem_cons hlt
        refine .inr ⟨hlt, ?_⟩
        by_cases hb : S[j.length] = 0
        · refine .inr ⟨hb, (under_iff _ _).2 ⟨_, hS, .inr ?_⟩⟩
          rw [hd, hb]; rfl
        · refine .inl ⟨hb, ?_⟩
          rw [Bool.eq_false_iff]
          intro hu
          obtain ⟨t, e, ht⟩ := (under_iff _ _).1 hu
          have : S.drop j.length = t := by rw [e, List.drop_left]
          rw [hd] at this
          rcases ht with rfl | ht
          · exact absurd this (List.cons_ne_nil _ _)
          · rw [← this] at ht
            have ht' : some S[j.length] = some 0 := ht
            injection ht' with ht'
            exact hb ht'
    · refine .inl ⟨hp, ?_⟩
      rw [Bool.eq_false_iff]
      intro hu
      obtain ⟨t, rfl, _⟩ := (under_iff _ _).1 hu
      exact hp (by simp)
theorem bs_at (S : B) (n : Nat) (h : n < S.length) {m : Nat} (hm : m = n) {h' : m < (bs S).size} : (bs S)[m] = S[n] := by
  subst hm
  have := Lib.data_getElem? (bs S) m h'
  rw [bs_data, List.getElem?_eq_getElem h] at this
  injection this with this
theorem rmove_any (k : ByteArray) (hk : k.size ≤ 900) (A C : Option Addr) (fr tt : List B) (c d : Nat) (w : World) (h : In w A fr c) (h' : In w C tt d) :
    Calls Tryd.prog 25 #[.string k, .slice A fr.length c, .slice C tt.length d] w fun e w' => e = .returned (.string (bs (moveK k.data.toList fr tt))) ∧ Below w.heap.size w w' := by
  have stay := fun hh => rmove_stay A C fr.length c tt.length d k _ _ w hh (Lib.hid h.rright) (Lib.hid h'.rright)
  cases hm : moves fr tt
  · have e : moveK k.data.toList fr tt = k.data.toList := if_neg (by rw [hm]; decide)
    rw [e, bs_of]
    refine stay ?_
    by_cases e1 : (fr.length : Int) = 0
    · exact .inl e1
    refine .inr ⟨e1, ?_⟩
    by_cases e2 : (tt.length : Int) = 0
    · exact .inl e2
    refine .inr ⟨e2, ?_⟩
    rcases not_moves hm with a | ⟨a, b | ⟨b, q | ⟨_, q⟩⟩⟩
    · exact .inl a
    · exact .inr ⟨a, .inl b⟩
    · exact absurd q e1
    · exact absurd q e2
  · have hmm := hm
    simp [moves] at hmm
    obtain ⟨⟨⟨hf, ht⟩, hf0⟩, ht0⟩ := hmm
    have e1 : ¬ (fr.length : Int) = 0 := by have := List.length_pos_iff.2 hf0; omega
    have e2 : ¬ (tt.length : Int) = 0 := by have := List.length_pos_iff.2 ht0; omega
    have hz : k.data.toList.length = k.size := (Lib.size_eq k).symm
    have lf := right_len hf; have lt := right_len ht
    cases hK : k.data.toList with
    | nil =>
      have hk0 : k = ⟨#[]⟩ := by rw [← bs_of k, hK]; rfl
      have e : moveK [] fr tt = [] := by unfold moveK; rw [if_pos hm]
      rw [e, show bs [] = k from by rw [hk0]; rfl]
      exact stay (.inr ⟨e1, .inr ⟨e2, .inr ⟨hf, .inr ⟨ht, hk0⟩⟩⟩⟩)
    | cons x S =>
      rw [hK] at hz
      simp at hz
      have hk0 : 0 < k.size := by omega
      have hx0 := cons_of hK hk0
      have hs : k.extract 1 k.size = bs S := by
        rw [extract_bs, hK]; simp; rw [List.take_of_length_le (by omega)]
      have hx : k.extract 0 1 = bs [x] := by rw [extract_bs, hK]; simp
      have hRF := h.rright; rw [hf] at hRF
      have hRT := h'.rright; rw [ht] at hRT
      refine rmove_core A C fr.length c tt.length d k (bs S) (bs (joint fr)) (bs (joint tt)) (bs (S.take (joint fr).length)) (bs (S.drop (joint fr).length)) (bs [x]) _ e1 e2 hk0 (by omega)
        (by rw [text_list, hK]; simp) (by rw [text_list, hK]; rfl) (by rw [bs_size]; omega) (by rw [bs_size]; omega) w (Lib.hid hRF) (Lib.hid hRT) (Lib.hid (h.rjoint hf)) (Lib.hid fun wx hh => (h'.heap hh).rjoint ht) hs (by rw [bs_size]; omega) hx (by rw [bs_size]; simp) (Lib.hid ?_)
      rw [hx0]
      have hmv : moveK (x :: S) fr tt = if (x = 109 ∨ x = 100) ∧ under (joint fr) S = true then x :: (joint tt ++ S.drop (joint fr).length) else x :: S := by
        unfold moveK; rw [if_pos hm]
      have hstay : (¬ ((x = 109 ∨ x = 100) ∧ under (joint fr) S = true)) → bs (moveK (x :: S) fr tt) = k := fun hh => by
        rw [hmv, if_neg hh, ← hK, bs_of]
      have hgo : (x = 109 ∨ x = 100) ∧ under (joint fr) S = true → bs (moveK (x :: S) fr tt) = bs [x] ++ bs (joint tt) ++ bs (S.drop (joint fr).length) := fun hh => by
        rw [hmv, if_pos hh, bs_app, bs_app]; rfl
      by_cases hxx : x = 109 ∨ x = 100
      · refine .inr ⟨?_, ?_⟩
        · by_cases q : x = 109
          · exact .inl ((u8_eq (n := 109) (by decide)).2 q)
          · exact .inr ⟨(u8_ne (n := 109) (by decide)).2 q, (u8_eq (n := 100) (by decide)).2 (hxx.resolve_left q)⟩
        · have zS := bs_size S; have zj := bs_size (joint fr)
          rcases under_ways (joint fr) S with ⟨a, b⟩ | ⟨a, b⟩
          · exact .inl ⟨by omega, hstay (by rw [b]; simp)⟩
          · refine .inr ⟨by omega, ?_, ?_, ?_, ?_⟩
            · rw [extract_bs, bs_data, zj]; simp
            · rw [extract_bs, bs_data, zj, zS, List.take_of_length_le (by simp)]
            · rw [bs_size]; simp; omega
            · rcases b with ⟨b, q⟩ | ⟨b, q⟩
              · exact .inl ⟨other_text.2 (by rw [bs_data, bs_data]; exact b), hstay (by rw [q]; simp)⟩
              · refine .inr ⟨same_text.2 (by rw [bs_data, bs_data]; exact b), ?_⟩
                rcases q with ⟨q, u⟩ | ⟨hlt, ⟨q, u⟩ | ⟨q, u⟩⟩
                · refine .inl ⟨by omega, ?_⟩
                  rw [hgo ⟨hxx, u⟩, List.drop_eq_nil_of_le (by omega), bs_app, bs_app, List.append_nil]
                · refine .inr ⟨by omega, .inl ⟨?_, hstay (by rw [u]; simp)⟩⟩
                  refine (u8_ne (n := 0) (by decide)).2 ?_
                  rw [bs_at S (joint fr).length hlt zj]; exact q
                · refine .inr ⟨by omega, .inr ⟨?_, hgo ⟨hxx, u⟩⟩⟩
                  refine (u8_eq (n := 0) (by decide)).2 ?_
                  rw [bs_at S (joint fr).length hlt zj]; exact q
      · refine .inl ⟨(u8_ne (n := 109) (by decide)).2 (fun q => hxx (.inl q)), (u8_ne (n := 100) (by decide)).2 (fun q => hxx (.inr q)), hstay (fun q => hxx q.1)⟩
end Go.Proofs.YtnpgoahdemfkpaaDoor
