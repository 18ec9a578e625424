/- A path's names; what a text means, in the program. Conditions: texts of a million bytes at most. -/
import Derived.Test.YtaiabcmgpkkfhaaWalksF
import Derived.WalkMore
namespace Go.Proofs.Ytaiabcmgpkkfhaa
open Go.ChangeShapes Go.WideShapes Go.RowKit Go.Path
set_option maxRecDepth 100000
set_option linter.unusedVariables false
set_option linter.unusedSimpArgs false
def lenOf : Value → Nat
  | .string s => s.size
  | _ => 0
def boolN : Value → Nat
  | .bool true => 1
  | _ => 0
theorem Rs.one (w : World) (x : B) (s : ByteArray) (hs : s = bs x) : Rs (w.alloc (.cells #[.string s] 9)) (some ⟨w.heap.size, 0, none⟩) [x] := by
  subst hs
  refine .inr ⟨w.heap.size, 0, rfl, by simp, fun i y hy => ?_⟩
  rcases i with _ | i
  · simp at hy
    subst hy
    have := heap_alloc_new w (.cells #[.string (bs x)] 9)
    rw [cell_of_row _ _ _ _ _ _ this]; rfl
  · simp at hy
/-- A loop's state: the names so far, the text that is left, whether there is more. -/
def Sofar (b : B) (dn : List B) (cur : B) (mo : Bool) : Prop :=
  dn.length ≤ 6 ∧ (mo = true → namesE b = names dn.length (split cur) ∧ namesL b = dn ++ split cur) ∧ (mo = false → namesE b = 0 ∧ namesL b = dn)
theorem Sofar.start (b : B) : Sofar b [] b (!(b == [])) := by
  refine ⟨by simp, fun h => ?_, fun h => ?_⟩
  · have : b ≠ [] := by simpa using h
    simp [namesE, namesL, this]
  · have : b = [] := by simpa using h
    simp [namesE, namesL, this]
theorem Sofar.bad {b : B} {dn : List B} {cur : B} (h : Sofar b dn cur true) (hc : check (Path.ahead cur) ≠ 0) : namesE b = check (Path.ahead cur) := by
  rw [(h.2.1 rfl).1, split_more, names, if_pos hc]
theorem Sofar.many {b : B} {dn : List B} {cur : B} (h : Sofar b dn cur true) (hc : check (Path.ahead cur) = 0) (h6 : dn.length = 6) : namesE b = 3 := by
  rw [(h.2.1 rfl).1, split_more, names, if_neg (by omega), if_pos (by omega)]
theorem Sofar.next {b : B} {dn : List B} {cur : B} (h : Sofar b dn cur true) (hc : check (Path.ahead cur) = 0) (h6 : ¬ dn.length = 6) : Sofar b (dn ++ [Path.ahead cur]) (behind cur) (cur.contains 47) := by
  obtain ⟨h1, h2, _⟩ := h
  obtain ⟨h2, h3⟩ := h2 rfl
  rw [split_more, names, if_neg (by omega), if_neg (by omega)] at h2
  rw [split_more] at h3
  refine ⟨by simp; omega, fun hm => ?_, fun hm => ?_⟩
  · have : Path.more cur = split (behind cur) := if_pos hm
    rw [this] at h2 h3
    simp [h2, h3]
  · have : Path.more cur = [] := if_neg (by rw [hm]; decide)
    rw [this] at h2 h3
    simp [h2, h3, names]
def GivesNames (b : B) (w : World) (e : Ending) (w' : World) : Prop := ∃ A n c xs, e = .returned (.tuple #[.slice A n c, .int .i64 (namesE b)]) ∧ Own w' w.heap.size A n c xs ∧ Below w.heap.size w w' ∧ (namesE b = 0 → xs = namesL b)
set_option maxHeartbeats 1000000 in
theorem names_any (s : ByteArray) (hs : s.size ≤ 1000000) (w : World) : Calls Try.prog 31 #[.string s] w (GivesNames s.data.toList w) := by
  unfold GivesNames
  have ht : s.toList = s.data.toList := text_list s
  obtain ⟨b, hb⟩ : ∃ b, b = s.data.toList := ⟨_, rfl⟩
  rw [← hb] at ht ⊢
  have HS := Lib.hid (Sofar.start b)
  obtain ⟨nb, hnb⟩ : ∃ nb, nb = namesE b := ⟨_, rfl⟩
  rw [← hnb]
  have HNB := Lib.hid hnb
  have HB := Lib.hid hb
  have h0 : (!s.toList.isEmpty) = !(b == []) := by
    rw [ht]; cases b <;> rfl
  have H0 := Lib.hid h0
  clear hnb hb ht h0
  go_enter Try.func31, Try.ntmps31
  go_wp2
  go_step3
  go_wp2
  go_step3
  go_wp2
  go_loopw [0, 2, 3, 5] (fun v0 v2 v3 v5 wr => v3 = .int .i64 0 ∧ ∃ cur : ByteArray, ∃ A n c dn mo, cur.size ≤ 1000000 ∧ v0 = .string cur ∧ v2 = .slice A n c ∧ v5 = .bool mo ∧ Own wr w.heap.size A n c dn ∧ Below w.heap.size w wr ∧ Sofar b dn cur.data.toList mo) (fun v0 _ _ v5 _ => lenOf v0 + boolN v5)
  case atStart => exact ⟨rfl, s, none, 0, 0, [], _, hs, rfl, rfl, congrArg Value.bool H0.out, Own.nil _ _ _, Below.refl _ _, by rw [← HB.out]; exact HS.out⟩
  case round =>
    obtain ⟨rfl, cur, A, n, c, dn, mo, hcur, rfl, rfl, rfl, ho, hb, hso⟩ := hrel
    have hn : n = dn.length := ho.len
    have hn6 : n ≤ 6 := by rw [hn]; exact hso.1
    have HN := Lib.hid hn
    have O := Lib.hid ho; have BB := Lib.hid hb; have SO := Lib.hid hso
    clear ho hb hso hn HS H0
    cases mo
    · obtain ⟨e1, e2⟩ := SO.out.2.2 rfl
      rw [← HNB.out] at e1
      have E1 := Lib.hid e1; have E2 := Lib.hid e2; clear e1 e2
      go_wp2
      rw [Exit.noGoto_ret]
      go_ret2
      refine ⟨A, n, c, dn, by rw [E1.out]; rfl, O.out, BB.out, fun _ => E2.out.symm⟩
    · have C := Lib.hid (cut_any cur (by omega))
      have CF := Lib.hid (formed_any (bs (Path.ahead cur.data.toList)))
      rw [bs_data] at CF
      have hxs : (bs (Path.ahead cur.data.toList)).size = (Path.ahead cur.data.toList).length := bs_size _
      have hzc : cur.data.toList.length = cur.size := (Lib.size_eq cur).symm
      have hxl : (bs (Path.ahead cur.data.toList)).size ≤ 1000000 := by
        rw [hxs]; have := ahead_len cur.data.toList; omega
      have hbl : (bs (behind cur.data.toList)).size ≤ cur.size := by
        rw [bs_size]; have := behind_len cur.data.toList; omega
      have hbl2 : cur.data.toList.contains 47 = true → (bs (behind cur.data.toList)).size < cur.size := fun h => by
        rw [bs_size]; have := behind_lt cur.data.toList h; omega
      have HXE := Lib.hid (rfl : bs (Path.ahead cur.data.toList) = bs (Path.ahead cur.data.toList))
      have HBE := Lib.hid (bs_data (behind cur.data.toList))
      have HXS := Lib.hid hxs
      have HBL2 := Lib.hid hbl2
      clear hxs hzc hbl2
      obtain ⟨x, hx⟩ : ∃ x, x = Path.ahead cur.data.toList := ⟨_, rfl⟩
      obtain ⟨y, hy⟩ : ∃ y, y = behind cur.data.toList := ⟨_, rfl⟩
      obtain ⟨f, hf⟩ : ∃ f, f = cur.data.toList.contains 47 := ⟨_, rfl⟩
      have hnext : check x = 0 → ¬ dn.length = 6 → Sofar b (dn ++ [x]) y f := by rw [hx, hy, hf]; exact SO.out.next
      have hbad : check x ≠ 0 → namesE b = check x := by rw [hx]; exact SO.out.bad
      have hmany : check x = 0 → dn.length = 6 → namesE b = 3 := by rw [hx]; exact SO.out.many
      rw [← HNB.out] at hbad hmany
      have HNext := Lib.hid hnext; have HBad := Lib.hid hbad; have HMany := Lib.hid hmany
      clear hnext hbad hmany
      rw [← hx, ← hy, ← hf] at C
      rw [← hx] at CF HXE HXS hxl
      rw [← hy] at HBE hbl HBL2
      rw [← hf] at HBL2
      clear hx hy hf SO
      generalize hxx : bs x = xb at *
      replace hxx := Lib.hid hxx.symm
      generalize bs y = yb at *
      by_cases c1 : formed x = true
      · rw [c1] at CF
        by_cases c2 : 16 < xb.size
        · have hck : check x = 3 := by
            unfold check; rw [if_pos c1, if_pos (by have := HXS.out; omega)]
          have e1 := HBad.out (by rw [hck]; decide)
          rw [hck] at e1
          have E1 := Lib.hid e1
          clear e1 hck c1
          go_wp2_with fail
          refine (C.out _).mono ?_; rintro e w1 ⟨rfl, b1⟩
          have B1 := Lib.hid b1; clear b1
          go_wp2_with fail
          refine (CF.out _).mono ?_; rintro e w2 ⟨rfl, rfl⟩
          go_wp2
          rw [Exit.noGoto_ret]
          go_ret2
          exact ⟨A, n, c, dn, by rw [E1.out]; rfl, O.out.kept B1.out, BB.out.trans (B1.out.mono BB.out.size), fun h => by rw [E1.out] at h; cases h⟩
        · have hck : check x = 0 := by
            unfold check; rw [if_pos c1, if_neg (by have := HXS.out; omega)]
          by_cases c3 : n = 6
          · have e1 := HMany.out hck (by rw [← HN.out]; exact c3)
            have E1 := Lib.hid e1
            subst c3
            clear e1 hck c1
            go_wp2_with fail
            refine (C.out _).mono ?_; rintro e w1 ⟨rfl, b1⟩
            have B1 := Lib.hid b1; clear b1
            go_wp2_with fail
            refine (CF.out _).mono ?_; rintro e w2 ⟨rfl, rfl⟩
            go_wp2
            rw [Exit.noGoto_ret]
            go_ret2
            exact ⟨A, 6, c, dn, by rw [E1.out]; rfl, O.out.kept B1.out, BB.out.trans (B1.out.mono BB.out.size), fun h => by rw [E1.out] at h; cases h⟩
          · have HS2 := Lib.hid (HNext.out hck (by rw [← HN.out]; exact c3))
            have c3' : ¬ (n : Int) = 6 := by omega
            clear hck c1 HNext HBad HMany
            go_wp2_with fail
            refine (C.out _).mono ?_; rintro e w1 ⟨rfl, b1⟩
            have B1 := Lib.hid b1; clear b1
            go_wp2_with fail
            refine (CF.out _).mono ?_; rintro e w2 ⟨rfl, rfl⟩
            go_wp2_with (first
              | (at_builtin; refine wpList_app rfl (.tmp 26) (.tmp 28) rfl w.heap.size A n c dn rfl ((O.out.kept B1.out).alloc _) (some ⟨_, 0, none⟩) 1 1 [x] rfl rfl (Rs.one _ _ _ hxx.out) ?c1 ?c2 ?_))
            case c1 => have := HN.out; simp; omega
            case c2 => have := BB.out.size; have := B1.out.size; simp; omega
            intro A3 c3 w3 o3 b3
            have B3 := Lib.hid ((BB.out.trans (B1.out.mono BB.out.size)).alloc (Nat.le_trans BB.out.size B1.out.size) (.cells #[.string xb] 9) |>.trans b3)
            have O3 := Lib.hid o3
            clear o3 b3
            go_wp2
            refine ⟨⟨rfl, yb, A3, n + 1, c3, dn ++ [x], f, by omega, rfl, rfl, rfl, O3.out, B3.out, by rw [HBE.out]; exact HS2.out⟩, ?_⟩
            have := HBL2.out
            cases f
            · simp [lenOf, boolN]; omega
            · have := this rfl
              simp [lenOf, boolN]; omega
      · have c1' : formed x = false := by simpa using c1
        rw [c1'] at CF
        have hck : check x = 4 := by
          unfold check; rw [if_neg c1]
        have e1 := HBad.out (by rw [hck]; decide)
        rw [hck] at e1
        have E1 := Lib.hid e1
        clear e1 hck c1 c1'
        go_wp2_with fail
        refine (C.out _).mono ?_; rintro e w1 ⟨rfl, b1⟩
        have B1 := Lib.hid b1; clear b1
        go_wp2_with fail
        refine (CF.out _).mono ?_; rintro e w2 ⟨rfl, rfl⟩
        go_wp2
        rw [Exit.noGoto_ret]
        go_ret2
        exact ⟨A, n, c, dn, by rw [E1.out]; rfl, O.out.kept B1.out, BB.out.trans (B1.out.mono BB.out.size), fun h => by rw [E1.out] at h; cases h⟩
/-- What a text means, handed back. -/
def GivesParse (p : B) (w : World) (e : Ending) (w' : World) : Prop := ∃ A c, e = .returned (.tuple #[.string (bs (parseS p)), .slice A (parseL p).length c, .int .i64 (parseE p)]) ∧ Own w' w.heap.size A (parseL p).length c (parseL p) ∧ Below w.heap.size w w'
theorem gives_bad {p : B} {w w' : World} {k : Nat} (hk : parseE p = k) (h0 : k ≠ 0) (hb : Below w.heap.size w w') : GivesParse p w (.returned (.tuple #[.string ⟨#[]⟩, .slice none 0 0, .int .i64 k])) w' := by
  have h1 : parseS p = [] := if_neg (by rw [hk]; exact h0)
  have h2 : parseL p = [] := if_neg (by rw [hk]; exact h0)
  refine ⟨none, 0, ?_, ?_, hb⟩
  · rw [h1, h2, hk]; rfl
  · rw [h2]; exact Own.nil _ _ _
theorem gives_good {p : B} {w w' : World} {A : Option Addr} {n c : Nat} {xs : List B} {s : ByteArray} (hk : parseE p = 0) (ho : Own w' w.heap.size A n c xs) (hx : xs = namesL (behind p)) (hs : s = bs (Path.ahead p).dropLast) (hb : Below w.heap.size w w') :
    GivesParse p w (.returned (.tuple #[.string s, .slice A n c, .int .i64 (0 : Nat)])) w' := by
  have h1 : parseS p = (Path.ahead p).dropLast := if_pos hk
  have h2 : parseL p = xs := by rw [hx]; exact if_pos hk
  refine ⟨A, c, ?_, ?_, hb⟩
  · rw [h1, h2, hk, hs, ho.len]
  · rw [h2, ← ho.len]; exact ho
theorem parse_any (s : ByteArray) (hs : s.size ≤ 1000000) (w : World) : Calls Try.prog 10 #[.string s] w (GivesParse s.data.toList w) := by
  have hz : s.data.toList.length = s.size := (Lib.size_eq s).symm
  have C := Lib.hid (cut_any s (by omega))
  obtain ⟨p, hp⟩ : ∃ p, p = s.data.toList := ⟨_, rfl⟩
  rw [← hp] at hz C ⊢
  clear hp
  by_cases h1 : 120 < s.size
  · have hE : parseE p = 3 := if_pos (by omega)
    have G := Lib.hid (fun w w' => gives_bad (p := p) (w := w) (w' := w') hE (by decide))
    clear hz C hE
    go_enter Try.func10, Try.ntmps10
    go_wp2
    go_ret3
    exact G.out _ _ (Below.refl _ _)
  have hE0 : parseE p = if p.contains 47 = false then 4 else if snapE (Path.ahead p) ≠ 0 then snapE (Path.ahead p) else namesE (behind p) := by
    rw [parseE, if_neg (by omega)]
  by_cases h2 : p.contains 47 = false
  · rw [if_pos h2] at hE0
    have G := Lib.hid (fun w w' => gives_bad (p := p) (w := w) (w' := w') hE0 (by decide))
    rw [h2] at C
    generalize bs (Path.ahead p) = x at *
    generalize bs (behind p) = y at *
    clear hz hE0 h2
    go_enter Try.func10, Try.ntmps10
    go_wp2_with fail
    refine (C.out _).mono ?_; rintro e w1 ⟨rfl, b1⟩
    have B1 := Lib.hid b1; clear b1
    go_wp2
    go_ret3
    exact G.out _ _ B1.out
  rw [if_neg h2] at hE0
  have h2' : p.contains 47 = true := by simpa using h2
  rw [h2'] at C
  have hal : (bs (Path.ahead p)).size ≤ 1000000 := by rw [bs_size]; have := ahead_len p; omega
  have hbl : (bs (behind p)).size ≤ 1000000 := by rw [bs_size]; have := behind_len p; omega
  have KS := Lib.hid (snap_any (bs (Path.ahead p)) (by omega))
  have KN := Lib.hid (names_any (bs (behind p)) hbl)
  rw [bs_data] at KS KN
  have hxt : (bs (Path.ahead p)).toList = Path.ahead p := by rw [text_list, bs_data]
  have hS : parseE p = 0 → parseS p = (Path.ahead p).dropLast := fun h => if_pos h
  have hL : parseE p = 0 → parseL p = namesL (behind p) := fun h => if_pos h
  have HS := Lib.hid hS; have HL := Lib.hid hL; have HE := Lib.hid hE0
  clear hS hL h2 h2' hz
  unfold GivesNames at KN
  by_cases h3 : Path.ahead p = []
  · have hsn : snapE (Path.ahead p) = 0 := if_pos h3
    rw [hsn, if_neg (by simp)] at hE0
    rw [h3] at C
    have hb0 : bs [] = ⟨#[]⟩ := rfl
    rw [hb0] at C
    have HQ := Lib.hid (show (⟨#[]⟩ : ByteArray) = bs (Path.ahead p).dropLast by rw [h3]; rfl)
    by_cases h4 : namesE (behind p) = 0
    · rw [h4] at hE0 KN
      have G := Lib.hid (fun w w' A n c xs ho hx hb => gives_good (p := p) (w := w) (w' := w') (A := A) (n := n) (c := c) (xs := xs) hE0 ho hx HQ.out hb)
      generalize hyb : bs (behind p) = yb at *
      clear hyb hE0 hsn h3 h4 hxt hal hb0 HS HL HE KS HQ
      go_enter Try.func10, Try.ntmps10
      go_wp2_with fail
      refine (C.out _).mono ?_; rintro e w1 ⟨rfl, b1⟩
      have B1 := Lib.hid b1; clear b1
      go_wp2_with fail
      refine (KN.out _).mono ?_; rintro e w2 ⟨A, n, c, xs, rfl, o2, b2, hx⟩
      have B2 := Lib.hid b2; have O2 := Lib.hid o2; have HX := Lib.hid (hx (by trivial)); clear b2 o2 hx
      go_wp2
      go_ret3
      exact G.out _ _ _ _ _ _ (O2.out.base B1.out.size) HX.out (B1.out.trans (B2.out.mono B1.out.size))
    · have G := Lib.hid (fun w w' => gives_bad (p := p) (w := w) (w' := w') hE0 h4)
      have h4' : ¬ ((namesE (behind p) : Nat) : Int) = 0 := by omega
      have h4b : (((namesE (behind p) : Nat) : Int) == 0) = false := by simpa using h4'
      generalize namesE (behind p) = k at *
      generalize hyb : bs (behind p) = yb at *
      clear hyb hE0 hsn h3 hxt hal hb0 HS HL HE KS HQ
      go_enter Try.func10, Try.ntmps10
      go_wp2_with fail
      refine (C.out _).mono ?_; rintro e w1 ⟨rfl, b1⟩
      have B1 := Lib.hid b1; clear b1
      go_wp2_with fail
      refine (KN.out _).mono ?_; rintro e w2 ⟨A, n, c, xs, rfl, o2, b2, hx⟩
      have B2 := Lib.hid b2; clear b2 o2 hx
      go_wp2
      go_ret3
      exact G.out _ _ (B1.out.trans (B2.out.mono B1.out.size))
  · have hsn : snapE (Path.ahead p) = snapErr (Path.ahead p) := if_neg h3
    have hne : ¬ (bs (Path.ahead p)).toList = [] := by rw [hxt]; exact h3
    have hne2 : (bs (Path.ahead p)).toList.isEmpty = false := by
      rw [hxt]; cases hq : Path.ahead p
      · exact absurd hq h3
      · rfl
    have HQ : Hid (snapErr (Path.ahead p) = 0 → bs (snapR (Path.ahead p)) = bs (Path.ahead p).dropLast) := fun h => by
      unfold snapR; rw [if_pos h]
    rw [hsn] at hE0
    generalize hxb : bs (Path.ahead p) = xb at *
    generalize hyb : bs (behind p) = yb at *
    by_cases h5 : snapErr (Path.ahead p) = 0
    · rw [if_neg (by omega)] at hE0
      have HQ2 := Lib.hid (HQ.out h5)
      rw [h5] at KS
      generalize bs (snapR (Path.ahead p)) = zb at *
      by_cases h4 : namesE (behind p) = 0
      · rw [h4] at hE0 KN
        have G := Lib.hid (fun w w' A n c xs ho hx hb => gives_good (p := p) (w := w) (w' := w') (A := A) (n := n) (c := c) (xs := xs) hE0 ho hx HQ2.out hb)
        clear hxb hyb hE0 hsn h3 h4 h5 hxt hal HS HL HE HQ HQ2
        go_enter Try.func10, Try.ntmps10
        go_wp2_with fail
        refine (C.out _).mono ?_; rintro e w1 ⟨rfl, b1⟩
        have B1 := Lib.hid b1; clear b1
        go_wp2_with fail
        refine (KS.out _).mono ?_; rintro e w1 ⟨rfl, rfl⟩
        go_wp2_with fail
        refine (KN.out _).mono ?_; rintro e w2 ⟨A, n, c, xs, rfl, o2, b2, hx⟩
        have B2 := Lib.hid b2; have O2 := Lib.hid o2; have HX := Lib.hid (hx (by trivial)); clear b2 o2 hx
        go_wp2
        go_ret3
        exact G.out _ _ _ _ _ _ (O2.out.base B1.out.size) HX.out (B1.out.trans (B2.out.mono B1.out.size))
      · have G := Lib.hid (fun w w' => gives_bad (p := p) (w := w) (w' := w') hE0 h4)
        have h4' : ¬ ((namesE (behind p) : Nat) : Int) = 0 := by omega
        have h4b : (((namesE (behind p) : Nat) : Int) == 0) = false := by simpa using h4'
        generalize namesE (behind p) = k at *
        clear hxb hyb hE0 hsn h3 h5 hxt hal HS HL HE HQ HQ2
        go_enter Try.func10, Try.ntmps10
        go_wp2_with fail
        refine (C.out _).mono ?_; rintro e w1 ⟨rfl, b1⟩
        have B1 := Lib.hid b1; clear b1
        go_wp2_with fail
        refine (KS.out _).mono ?_; rintro e w1 ⟨rfl, rfl⟩
        go_wp2_with fail
        refine (KN.out _).mono ?_; rintro e w2 ⟨A, n, c, xs, rfl, o2, b2, hx⟩
        have B2 := Lib.hid b2; clear b2 o2 hx
        go_wp2
        go_ret3
        exact G.out _ _ (B1.out.trans (B2.out.mono B1.out.size))
    · rw [if_pos h5] at hE0
      have G := Lib.hid (fun w w' => gives_bad (p := p) (w := w) (w' := w') hE0 h5)
      have h4' : ¬ ((snapErr (Path.ahead p) : Nat) : Int) = 0 := by omega
      have h4b : (((snapErr (Path.ahead p) : Nat) : Int) == 0) = false := by simpa using h4'
      generalize snapErr (Path.ahead p) = k at *
      generalize bs (snapR (Path.ahead p)) = zb at *
      clear hxb hyb hE0 hsn h3 hxt hal HS HL HE HQ KN
      go_enter Try.func10, Try.ntmps10
      go_wp2_with fail
      refine (C.out _).mono ?_; rintro e w1 ⟨rfl, b1⟩
      have B1 := Lib.hid b1; clear b1
      go_wp2_with fail
      refine (KS.out _).mono ?_; rintro e w1 ⟨rfl, rfl⟩
      go_wp2
      go_ret3
      exact G.out _ _ B1.out
end Go.Proofs.Ytaiabcmgpkkfhaa
