/- The document: what a text means, all ways. Conditions: texts of a hundred thousand bytes at most. -/
import Derived.Test.YtaiabcmgpkkfhaaWalksJ
namespace Go.Proofs.Ytaiabcmgpkkfhaa
open Go.ChangeShapes Go.WideShapes Go.RowKit Go.Path
set_option maxRecDepth 100000
set_option linter.unusedVariables false
set_option linter.unusedSimpArgs false
theorem rp_plain_one (p : B) (xs : List B) (w : World) (s : ByteArray) (hs : s.size ≤ 120)
    (HX1 : Hid (∃ y, xs[0]? = some y ∧ bs y = ⟨#[]⟩))
    (G : Hid (∀ W, Below w.heap.size w W → GivesParseR p w (.returned (.tuple #[.string ⟨#[]⟩, .slice none 0 0, .int .i64 (0 : Nat)])) W))
    (KS : Hid (Calls Try.prog 32 #[.string s] w fun e w' => ∃ g c, e = .returned (.slice (some ⟨g, 0, none⟩) 2 c) ∧ Lies w ⟨#[]⟩ xs 2 g c w')) :
    Calls Try.prog 11 #[.string s] w (GivesParseR p w) := by
  go_enter Try.func11, Try.ntmps11
  go_wp2_with fail
  refine KS.out.mono ?_; rintro e W ⟨g, c, rfl, hW0, hg, hnc, hc0, hcs⟩
  have HW := Lib.hid hW0; have HC := Lib.hid hcs
  clear hW0 hcs
  obtain ⟨y1, hy1, hy2⟩ := HX1.out
  have hc1 := (HC.out 0 y1 hy1).1
  rw [hy2, Nat.zero_add] at hc1
  clear hy1 hy2
  go_wp2
  go_ret3
  exact G.out _ HW.out
theorem rp_snap_one (p : B) (xs : List B) (w : World) (s : ByteArray) (hs : s.size ≤ 120)
    (HX1 : Hid (∃ y, xs[0]? = some y ∧ bs y = ⟨#[]⟩))
    (Sb : ByteArray)
    (G : Hid (∀ W, Below w.heap.size w W → GivesParseR p w (.returned (.tuple #[.string Sb, .slice none 0 0, .int .i64 (0 : Nat)])) W))
    (ab : ByteArray) (m : Nat) (ha1 : ¬ ab.toList = []) (ha2 : ab.toList.isEmpty = false) (hmz : m < ab.size) (hm1 : (ab.size : Int) - 1 = (m : Int)) (hm120 : m ≤ 120) (hab : (ab[m].toNat : Int) = 58) (hSb0 : ab.extract 0 m = Sb)
    (C1 : Hid (∀ w, Calls Try.prog 33 #[.string Sb, .int .u8 58] w fun e w' => e = .returned (.bool false) ∧ w = w'))
    (C2 : Hid (∀ w, Calls Try.prog 14 #[.string Sb] w fun e w' => e = .returned (.int .i64 0) ∧ w = w'))
    (KS : Hid (Calls Try.prog 32 #[.string s] w fun e w' => ∃ g c, e = .returned (.slice (some ⟨g, 0, none⟩) 2 c) ∧ Lies w ab xs 2 g c w')) :
    Calls Try.prog 11 #[.string s] w (GivesParseR p w) := by
  have hm2 : (m : Int) < (ab.size : Int) := by omega
  have hm3 : (m : Int) ≤ (ab.size : Int) := by omega
  have hab2 : ((ab[m].toNat : Int) == 58) = true := by simpa using hab
  go_enter Try.func11, Try.ntmps11
  go_wp2_with fail
  refine KS.out.mono ?_; rintro e W ⟨g, c, rfl, hW0, hg, hnc, hc0, hcs⟩
  have HW := Lib.hid hW0; have HC := Lib.hid hcs
  clear hW0 hcs
  obtain ⟨y1, hy1, hy2⟩ := HX1.out
  have hc1 := (HC.out 0 y1 hy1).1
  rw [hy2, Nat.zero_add] at hc1
  clear hy1 hy2
  go_wp2_with fail
  refine (C1.out _).mono ?_; rintro e w2 ⟨rfl, rfl⟩
  go_wp2_with fail
  refine (C2.out _).mono ?_; rintro e w2 ⟨rfl, rfl⟩
  go_wp2
  go_ret3
  exact G.out _ HW.out
theorem rp_bad_last (p : B) (xs : List B) (w : World) (s : ByteArray) (hs : s.size ≤ 120)
    (n : Nat) (hn2 : 2 ≤ n) (Sb : ByteArray)
    (G : Hid (∀ W, Below w.heap.size w W → GivesParseR p w (.returned (.tuple #[.string ⟨#[]⟩, .slice none 0 0, .int .i64 (4 : Nat)])) W))
    (ab : ByteArray) (m : Nat) (ha1 : ¬ ab.toList = []) (ha2 : ab.toList.isEmpty = false) (hmz : m < ab.size) (hm1 : (ab.size : Int) - 1 = (m : Int)) (hm120 : m ≤ 120) (hab : ¬ (ab[m].toNat : Int) = 58) (hSb0 : ab.extract 0 m = Sb)
    (KS : Hid (Calls Try.prog 32 #[.string s] w fun e w' => ∃ g c, e = .returned (.slice (some ⟨g, 0, none⟩) n c) ∧ Lies w ab xs n g c w')) :
    Calls Try.prog 11 #[.string s] w (GivesParseR p w) := by
  have hm2 : (m : Int) < (ab.size : Int) := by omega
  have hm3 : (m : Int) ≤ (ab.size : Int) := by omega
  have hab2 : ((ab[m].toNat : Int) == 58) = false := by simpa using hab
  go_enter Try.func11, Try.ntmps11
  go_wp2_with fail
  refine KS.out.mono ?_; rintro e W ⟨g, c, rfl, hW0, hg, hnc, hc0, hcs⟩
  have HW := Lib.hid hW0; have HC := Lib.hid hcs
  clear hW0 hcs
  go_wp2
  go_ret3
  exact G.out _ HW.out
theorem rp_bad_colon (p : B) (xs : List B) (w : World) (s : ByteArray) (hs : s.size ≤ 120)
    (n : Nat) (hn2 : 2 ≤ n) (Sb : ByteArray)
    (G : Hid (∀ W, Below w.heap.size w W → GivesParseR p w (.returned (.tuple #[.string ⟨#[]⟩, .slice none 0 0, .int .i64 (4 : Nat)])) W))
    (ab : ByteArray) (m : Nat) (ha1 : ¬ ab.toList = []) (ha2 : ab.toList.isEmpty = false) (hmz : m < ab.size) (hm1 : (ab.size : Int) - 1 = (m : Int)) (hm120 : m ≤ 120) (hab : (ab[m].toNat : Int) = 58) (hSb0 : ab.extract 0 m = Sb)
    (C1 : Hid (∀ w, Calls Try.prog 33 #[.string Sb, .int .u8 58] w fun e w' => e = .returned (.bool true) ∧ w = w'))
    (KS : Hid (Calls Try.prog 32 #[.string s] w fun e w' => ∃ g c, e = .returned (.slice (some ⟨g, 0, none⟩) n c) ∧ Lies w ab xs n g c w')) :
    Calls Try.prog 11 #[.string s] w (GivesParseR p w) := by
  have hm2 : (m : Int) < (ab.size : Int) := by omega
  have hm3 : (m : Int) ≤ (ab.size : Int) := by omega
  have hab2 : ((ab[m].toNat : Int) == 58) = true := by simpa using hab
  go_enter Try.func11, Try.ntmps11
  go_wp2_with fail
  refine KS.out.mono ?_; rintro e W ⟨g, c, rfl, hW0, hg, hnc, hc0, hcs⟩
  have HW := Lib.hid hW0; have HC := Lib.hid hcs
  clear hW0 hcs
  go_wp2_with fail
  refine (C1.out _).mono ?_; rintro e w2 ⟨rfl, rfl⟩
  go_wp2
  go_ret3
  exact G.out _ HW.out
theorem rp_bad_name (p : B) (xs : List B) (w : World) (s : ByteArray) (hs : s.size ≤ 120)
    (n : Nat) (hn2 : 2 ≤ n) (Sb : ByteArray)
    (k : Nat) (hk : ¬ (k : Int) = 0) (hk2 : ((k : Int) == 0) = false)
    (G : Hid (∀ W, Below w.heap.size w W → GivesParseR p w (.returned (.tuple #[.string ⟨#[]⟩, .slice none 0 0, .int .i64 k])) W))
    (ab : ByteArray) (m : Nat) (ha1 : ¬ ab.toList = []) (ha2 : ab.toList.isEmpty = false) (hmz : m < ab.size) (hm1 : (ab.size : Int) - 1 = (m : Int)) (hm120 : m ≤ 120) (hab : (ab[m].toNat : Int) = 58) (hSb0 : ab.extract 0 m = Sb)
    (C1 : Hid (∀ w, Calls Try.prog 33 #[.string Sb, .int .u8 58] w fun e w' => e = .returned (.bool false) ∧ w = w'))
    (C2 : Hid (∀ w, Calls Try.prog 14 #[.string Sb] w fun e w' => e = .returned (.int .i64 k) ∧ w = w'))
    (KS : Hid (Calls Try.prog 32 #[.string s] w fun e w' => ∃ g c, e = .returned (.slice (some ⟨g, 0, none⟩) n c) ∧ Lies w ab xs n g c w')) :
    Calls Try.prog 11 #[.string s] w (GivesParseR p w) := by
  have hm2 : (m : Int) < (ab.size : Int) := by omega
  have hm3 : (m : Int) ≤ (ab.size : Int) := by omega
  have hab2 : ((ab[m].toNat : Int) == 58) = true := by simpa using hab
  go_enter Try.func11, Try.ntmps11
  go_wp2_with fail
  refine KS.out.mono ?_; rintro e W ⟨g, c, rfl, hW0, hg, hnc, hc0, hcs⟩
  have HW := Lib.hid hW0; have HC := Lib.hid hcs
  clear hW0 hcs
  go_wp2_with fail
  refine (C1.out _).mono ?_; rintro e w2 ⟨rfl, rfl⟩
  go_wp2_with fail
  refine (C2.out _).mono ?_; rintro e w2 ⟨rfl, rfl⟩
  go_wp2
  go_ret3
  exact G.out _ HW.out
theorem rp_long (s : ByteArray) (hs : 120 < s.size) (w : World) (p : B) (hs2 : s.size ≤ 1000000)
    (G : Hid (∀ W, Below w.heap.size w W → GivesParseR p w (.returned (.tuple #[.string ⟨#[]⟩, .slice none 0 0, .int .i64 (3 : Nat)])) W)) :
    Calls Try.prog 11 #[.string s] w (GivesParseR p w) := by
  go_enter Try.func11, Try.ntmps11
  go_wp2
  go_ret3
  exact G.out _ (Below.refl _ _)
theorem rp_none (p : B) (w : World) (s : ByteArray) (hs : s.size ≤ 120)
    (G : Hid (∀ W, Below w.heap.size w W → GivesParseR p w (.returned (.tuple #[.string ⟨#[]⟩, .slice none 0 0, .int .i64 (4 : Nat)])) W))
    (KS : Hid (Calls Try.prog 32 #[.string s] w fun e w' => ∃ A c, e = .returned (.slice A 1 c) ∧ Below w.heap.size w w')) :
    Calls Try.prog 11 #[.string s] w (GivesParseR p w) := by
  go_enter Try.func11, Try.ntmps11
  go_wp2_with fail
  refine KS.out.mono ?_; rintro e W ⟨A, c, rfl, hW⟩
  have HW := Lib.hid hW; clear hW
  go_wp2
  go_ret3
  exact G.out _ HW.out
theorem rparse_any (s : ByteArray) (hs : s.size ≤ 100000) (w : World) : Calls Try.prog 11 #[.string s] w (GivesParseR s.data.toList w) := by
  have hz : s.data.toList.length = s.size := (Lib.size_eq s).symm
  have S := rsplit_any s hs w
  obtain ⟨p, hp⟩ : ∃ p, p = s.data.toList := ⟨_, rfl⟩
  rw [← hp] at hz S ⊢
  by_cases h1 : 120 < s.size
  · exact rp_long s h1 w p (by omega) fun W hb => givesR_bad (p := p) (if_pos (by omega)) (by decide) hb
  have hE0 : parseE p = if p.contains 47 = false then 4 else if snapE (Path.ahead p) ≠ 0 then snapE (Path.ahead p) else namesE (behind p) := by
    rw [parseE, if_neg (by omega)]
  by_cases h2 : p.contains 47 = false
  · rw [if_pos h2] at hE0
    rw [split_no p h2] at S
    refine rp_none p w s (by omega) (fun W hb => givesR_bad hE0 (by decide) hb) ?_
    exact S.mono fun e w' ⟨A, c, h, _, hb⟩ => ⟨A, c, h, hb⟩
  rw [if_neg h2] at hE0
  have hsp : split p = Path.ahead p :: split (behind p) := by
    rw [split_more, Path.more, if_pos (by simpa using h2)]
  have hlenp := split_len p
  have heach := split_each p
  rw [hsp] at S hlenp heach
  have hal : (Path.ahead p).length ≤ 120 := by have := ahead_len p; omega
  have hxs0 : 1 ≤ (split (behind p)).length := List.length_pos_iff.2 (split_ne _)
  have KS : Calls Try.prog 32 #[.string s] w fun e w' => ∃ g c, e = .returned (.slice (some ⟨g, 0, none⟩) ((split (behind p)).length + 1) c) ∧ Lies w (bs (Path.ahead p)) (split (behind p)) ((split (behind p)).length + 1) g c w' := by
    refine S.mono ?_
    rintro e w' ⟨A, c, rfl, ho, hb⟩
    obtain ⟨g, rfl, hg, hc⟩ := ho.head (by simp)
    exact ⟨g, c, rfl, hb, hg, ho.2.1, hc 0 _ rfl, fun i x hx => ⟨hc (i + 1) x (by simpa using hx), by
      have := heach x (List.mem_cons_of_mem _ (List.mem_of_getElem? hx)); omega⟩⟩
  have hnE : behind p ≠ [] → namesE (behind p) = names 0 (split (behind p)) ∧ namesL (behind p) = split (behind p) := fun h => ⟨if_neg h, if_neg h⟩
  have hnN : behind p = [] → split (behind p) = [[]] ∧ namesE (behind p) = 0 ∧ namesL (behind p) = [] := fun h => by
    rw [h]; exact ⟨rfl, rfl, rfl⟩
  have hn1000 : (split (behind p)).length + 1 ≤ 1000 := by simp at hlenp; omega
  generalize hXS : split (behind p) = xs at *
  -- the names
  have names3 : (behind p = [] ∧ xs = [[]]) ∨ (behind p ≠ [] ∧ ((¬ xs.length + 1 = 2) ∨ ∃ y, xs = [y] ∧ y ≠ [])) := by
    by_cases hb : behind p = []
    · exact .inl ⟨hb, (hnN hb).1⟩
    · refine .inr ⟨hb, ?_⟩
      by_cases h2 : xs.length + 1 = 2
      · obtain ⟨y, rfl⟩ := List.length_eq_one_iff.1 (show xs.length = 1 by omega)
        exact .inr ⟨y, rfl, fun hy => hb (split_empty (by rw [hXS, hy]))⟩
      · exact .inl h2
  by_cases h3 : Path.ahead p = []
  · have hsn : snapE (Path.ahead p) = 0 := if_pos h3
    rw [hsn, if_neg (by simp)] at hE0
    rw [h3] at KS
    have hq : (⟨#[]⟩ : ByteArray) = bs (Path.ahead p).dropLast := by rw [h3]; rfl
    rcases names3 with ⟨hb, rfl⟩ | ⟨hb, h2' | ⟨y, rfl, hy⟩⟩
    · refine rp_plain_one p [[]] w s (by omega) ⟨[], rfl, rfl⟩ (fun W hW => ?_) KS
      exact givesR_good (xs := []) (by rw [hE0, (hnN hb).2.1]) rfl Rs.nil (hnN hb).2.2.symm hq hW
    · exact rp_plain_many p xs w s (by omega) (xs.length + 1) hn1000 (by omega) rfl (by omega) (by simp; omega) _ hq (hnE hb).2.symm (hE0.trans (hnE hb).1) rfl KS
    · refine rp_plain_two p [y] w s (by omega) rfl (bs y) ?_ ?_ ⟨y, rfl, rfl⟩ _ hq (hnE hb).2.symm (hE0.trans (hnE hb).1) rfl KS
      · rw [text_list, bs_data]; exact hy
      · rw [text_list, bs_data]; cases y <;> simp at hy ⊢
  · have hsn : snapE (Path.ahead p) = snapErr (Path.ahead p) := if_neg h3
    rw [hsn] at hE0
    have hap := List.length_pos_iff.2 h3
    have ha1 : ¬ (bs (Path.ahead p)).toList = [] := by rw [text_list, bs_data]; exact h3
    have ha2 : (bs (Path.ahead p)).toList.isEmpty = false := by
      rw [text_list, bs_data]; cases hq : Path.ahead p
      · exact absurd hq h3
      · rfl
    have hsz := bs_size (Path.ahead p)
    obtain ⟨m, hm⟩ : ∃ m, (Path.ahead p).length = m + 1 := ⟨(Path.ahead p).length - 1, by omega⟩
    have hmz : m < (bs (Path.ahead p)).size := by omega
    have hm1 : ((bs (Path.ahead p)).size : Int) - 1 = (m : Int) := by omega
    have hex : (bs (Path.ahead p)).extract 0 m = bs (Path.ahead p).dropLast := by
      rw [extract_bs, bs_data, List.drop_zero, Nat.sub_zero, List.dropLast_eq_take, hm]; rfl
    have hbyte := byte_is (c := 58) hmz (by omega)
    have hla : (bs (Path.ahead p)).data.toList[m]? = (Path.ahead p).getLast? := by
      rw [bs_data, List.getLast?_eq_getElem?, hm]; rfl
    rw [hla] at hbyte
    have hdl : (bs (Path.ahead p).dropLast).size ≤ 1000000 := by rw [bs_size, List.length_dropLast]; omega
    have D1 := has_any (bs (Path.ahead p).dropLast) 58 (by omega) hdl
    have D2 := check_any (bs (Path.ahead p).dropLast) hdl
    rw [bs_data] at D1 D2
    have hSE : snapErr (Path.ahead p) = if (Path.ahead p).getLast? ≠ some 58 then 4 else if (Path.ahead p).dropLast.contains 58 = true then 4 else check (Path.ahead p).dropLast := rfl
    by_cases g1 : (Path.ahead p).getLast? = some 58
    · rw [if_neg (not_not_intro g1)] at hSE
      have hab : (((bs (Path.ahead p))[m].toNat : Nat) : Int) = 58 := by simpa using hbyte.2 g1
      by_cases g2 : (Path.ahead p).dropLast.contains 58 = true
      · rw [if_pos g2] at hSE
        rw [hSE, if_pos (by decide)] at hE0
        rw [show (58 : Nat).toUInt8 = 58 from rfl, g2] at D1
        exact rp_bad_colon p xs w s (by omega) (xs.length + 1) (by omega) _ (fun W hb => givesR_bad hE0 (by decide) hb) _ m ha1 ha2 hmz hm1 (by omega) hab hex D1 KS
      · rw [if_neg g2] at hSE
        have g2' : (Path.ahead p).dropLast.contains 58 = false := by simpa using g2
        rw [show (58 : Nat).toUInt8 = 58 from rfl, g2'] at D1
        rw [hSE] at hE0
        by_cases g3 : check (Path.ahead p).dropLast = 0
        · rw [g3, if_neg (by simp)] at hE0
          rw [g3] at D2
          rcases names3 with ⟨hb, rfl⟩ | ⟨hb, h2' | ⟨y, rfl, hy⟩⟩
          · refine rp_snap_one p [[]] w s (by omega) ⟨[], rfl, rfl⟩ _ (fun W hW => ?_) _ m ha1 ha2 hmz hm1 (by omega) hab hex D1 D2 KS
            exact givesR_good (xs := []) (by rw [hE0, (hnN hb).2.1]) rfl Rs.nil (hnN hb).2.2.symm rfl hW
          · exact rp_snap_many p xs w s (by omega) (xs.length + 1) hn1000 (by omega) rfl (by omega) (by simp; omega) _ rfl (hnE hb).2.symm (hE0.trans (hnE hb).1) _ m ha1 ha2 hmz hm1 (by omega) hab hex D1 D2 KS
          · refine rp_snap_two p [y] w s (by omega) rfl (bs y) ?_ ?_ ⟨y, rfl, rfl⟩ _ rfl (hnE hb).2.symm (hE0.trans (hnE hb).1) _ m ha1 ha2 hmz hm1 (by omega) hab hex D1 D2 KS
            · rw [text_list, bs_data]; exact hy
            · rw [text_list, bs_data]; cases y <;> simp at hy ⊢
        · rw [if_pos g3] at hE0
          exact rp_bad_name p xs w s (by omega) (xs.length + 1) (by omega) _ _ (by omega) (by simpa using g3) (fun W hb => givesR_bad hE0 g3 hb) _ m ha1 ha2 hmz hm1 (by omega) hab hex D1 D2 KS
    · rw [if_pos g1] at hSE
      rw [hSE, if_pos (by decide)] at hE0
      exact rp_bad_last p xs w s (by omega) (xs.length + 1) (by omega) _ (fun W hb => givesR_bad hE0 (by decide) hb) _ m ha1 ha2 hmz hm1 (by omega) (fun h => g1 (hbyte.1 (by simpa using h))) hex KS
end Go.Proofs.Ytaiabcmgpkkfhaa
