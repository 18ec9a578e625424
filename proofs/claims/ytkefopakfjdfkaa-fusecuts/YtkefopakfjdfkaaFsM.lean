/- FuseCuts. Conditions: none. -/
import Derived.Test.YtkefopakfjdfkaaFsL
import Derived.Test.YtkefopakfjdfkaaFsH
import Derived.Test.YtkefopakfjdfkaaFsE
namespace Go.Proofs.Ytkefopakfjdfkaa
open Go.ChangeShapes Go.WideShapes Go.RowKit Go.Maps
set_option maxRecDepth 100000
theorem tl_start {W w1 w2 w3 w4 : World} {F B b c G B' b' c' : Nat} {z : Int} {u u' : Value} {xs : List Int} {st : List Cel} (h1 : Own W w1 B b c st) (h2 : Own w1 w2 B' b' c' st) (h3 : Lo W w3 F B b c st z u xs 0 false) (_ : w2.heap.size ≤ F)
    (h34 : Below w3.heap.size w3 w4) (h4 : Lo W w4 G B' b' c' st (-1) u' xs 0 false) (hG : w3.heap.size ≤ G) (hu : ∀ g, u'.ownBlock = some g → w3.heap.size ≤ g) : Tl W w4 F B b c G B' b' c' (st, 0, false) (st, 0, false) z u u' xs := by
  have a1 := h1.dev.lts
  have a2 := h1.dev.ltw
  have a3 := h2.new
  have a4 := h3.ln.one.lt
  refine ⟨h3.later h34, h4, by omega, by omega, fun e => ?_⟩
  have := hu F e
  omega
set_option maxHeartbeats 8000000 in
theorem cuts_low (y n : Nat) (hy : y < 256) (hn : y % 90 = n) (v : Value) (xs : List Int) (hx20 : xs.length ≤ 20) (A : Option Addr) (l : List Ac) (cap : Nat) (hl : l.length ≤ 80) (W : World) (iv : Sw W W.heap.size v xs) (i0 : Acts W W.heap.size A l)
    (hlow : seen l l.length ≤ n) : Calls Try.prog 5 #[.int .u8 (y : Int), v, .slice A l.length cap] W fun e w' => e = .returned (.bool true) ∧ Below W.heap.size W w' := by
  have IV := Lib.hid iv
  obtain ⟨a, cp, rfl, hxa⟩ := iv
  clear hxa
  have hn90 : n < 90 := by omega
  have hni : (y : Int).tmod 90 = (n : Int) := by rw [Int.tmod_eq_emod_of_nonneg (by omega)]; omega
  have hni' : (y : Int) % 90 = (n : Int) := by omega
  have HF := Lib.hid (few_any A l cap (by unfold maxLen; omega) W W.heap.size i0)
  have HA := Lib.hid i0
  have C8 := Lib.hid (fun w => new512 w)
  have hL1 : (l.length : Nat) = l.length := rfl
  have R1 := Lib.hid (fun (w1 : World) (F B b c : Nat) (z : Int) (u : Value) (h : Lo W w1 F B b c (fresh 512) z u xs 0 false) => run_all (cap := cap) h hl i0)
  have R2 := R1
  have es1 : lst (fresh 512) xs (n : Int) l l.length = (dvA (fresh 512) l l.length, seen l l.length, false) := lst_go _ _ _ _ _ (fun k hk => by omega)
  have es2 : lst (fresh 512) xs (-1) l l.length = (dvA (fresh 512) l l.length, seen l l.length, false) := lst_go _ _ _ _ _ (fun k _ => by omega)
  obtain ⟨D, hD⟩ : ∃ D, seen l l.length = D := ⟨_, rfl⟩
  obtain ⟨ln, hln⟩ : ∃ ln, l.length = ln := ⟨_, rfl⟩
  have HN := Lib.hid hln
  rw [hln] at hD
  simp only [hln, hD] at R1 R2 HF hl hlow es1 es2 ⊢
  clear hln hL1 i0
  obtain ⟨m, hm⟩ : ∃ m, xs.length = m := ⟨_, rfl⟩
  rw [hm] at IV hx20 ⊢
  have C9 := Lib.hid (fun (w1 : World) (B b c : Nat) (z : Int) (ho : Own W w1 B b c (fresh 512)) => lo_new ho (IV.out.kept ho.below).sl (by rw [hm]; omega) z)
  clear hm hn
  go_enter Try.func5, Try.ntmps5
  go_wp2_with (first
    | (go_at_call 6; refine HF.out.mono ?_; rintro e w2 ⟨q, rfl, rfl, -⟩)
    | (go_at_call 7; refine (awake_any _).mono ?_; rintro e w2 ⟨rfl, hbq⟩)
    | (go_at_call 8; with_reducible refine (C8.out W).mono ?_; rintro e w1 ⟨B, b, c, rfl, ho⟩)
    | (go_at_call 8; with_reducible refine (C8.out w1).mono ?_; rintro e w2 ⟨B', b', c', rfl, ho'⟩)
    | (go_at_call_of 9 (Value.pointer (some ⟨B, 0, none⟩)); with_reducible refine (C9.out w2 B b c (n : Int) (ho.later ho'.below)).mono ?_; rintro e w3 ⟨F, u, rfl, h3, hF3, h23, -⟩)
    | (go_at_call_of 9 (Value.pointer (some ⟨B', 0, none⟩)); with_reducible refine (C9.out w3 B' b' c' (-1) ((ho'.from ho.below).later h23)).mono ?_; rintro e w4 ⟨G, u', rfl, h4, hG, h34, hu⟩; have HT := Lib.hid (tl_start ho ho' h3 hF3 h34 h4 hG hu); clear ho ho' h3 hF3 h34 h4 hG hu h23)
    | (go_at_call_of 22 (Value.pointer (some ⟨F, 0, none⟩)); refine (R1.out _ F B b c _ u HT.out.la).mono ?_; rintro e w5 ⟨rfl, hl5, hk5⟩; (rw [es1] at hl5); (have HT5 := Lib.hid (HT.out.stepA hl5 hk5)); clear hl5 hk5 HT; have HT := HT5; clear HT5)
    | (go_at_call 13; refine (down_any HT.out.la.ln).mono ?_; rintro e w6 ⟨rfl, rfl⟩)
    | (go_at_call_of 22 (Value.pointer (some ⟨G, 0, none⟩)); refine (R2.out _ G B' b' c' _ u' HT.out.lb).mono ?_; rintro e w6 ⟨rfl, hl6, hk6⟩; (rw [es2] at hl6); (have HT6 := Lib.hid (HT.out.stepB hl6 hk6)); clear hl6 hk6 HT; have HT := HT6; clear HT6))
  all_goals try (go_ret; exact ⟨rfl, hbq⟩)
  have hkeep : ∀ w1, Below w6.heap.size w6 w1 → Tl W w1 F B b c G B' b' c' (dvA (fresh 512) l ln, D, false) (dvA (fresh 512) l ln, D, false) (n : Int) u u' xs := fun w1 hb => HT.out.later hb
  have HK := Lib.hid hkeep
  clear hkeep
  go_loopw [13] (fun i wr => ∃ k : Nat, i = .int .i64 (k : Int) ∧ k ≤ ln ∧ Below w6.heap.size w6 wr) (fun i _ => ln - (RowKit.intOf i).toNat)
  case atStart => exact ⟨0, rfl, Nat.zero_le _, Below.refl _ _⟩
  case round =>
    obtain ⟨k, rfl, hkn, hbw⟩ := hrel
    by_cases hlt : k < ln
    · obtain ⟨x, hx⟩ : ∃ x, l[k]? = some x := ⟨_, List.getElem?_eq_getElem (by rw [HN.out]; exact hlt)⟩
      obtain ⟨ad, rfl, hat⟩ := acts_at HA.out hx
      obtain ⟨c0, c1, c2⟩ := hat wr (HK.out wr hbw).la.below
      have HAT := Lib.hid hat
      have D1 := Lib.hid (read_any (HK.out wr hbw).la.ln.dev x.at')
      have D2 := Lib.hid (fun (w1 : World) (hb : Below w6.heap.size w6 w1) => read_any (HK.out w1 hb).lb.ln.dev x.at')
      obtain ⟨S, hS⟩ : ∃ S, rdS (dvA (fresh 512) l ln) x.at' = S := ⟨_, rfl⟩
      obtain ⟨er, hE⟩ : ∃ er, rdE (dvA (fresh 512) l ln) x.at' = er := ⟨_, rfl⟩
      simp only [hS, hE] at D1 D2
      clear hat hx hS hE
      go_wp2_with (first
        | (go_at_call_of 23 (Value.pointer (some ⟨B, 0, none⟩)); refine D1.out.mono ?_; rintro e w1 ⟨rfl, hb1⟩; (have hw1 := hbw.trans (hb1.mono hbw.size)); (obtain ⟨d0, d1, d2⟩ := HAT.out _ (HK.out _ hw1).la.below); clear hb1)
        | (go_at_call_of 23 (Value.pointer (some ⟨B', 0, none⟩)); refine (D2.out _ hw1).mono ?_; rintro e w2 ⟨rfl, hb2⟩; (have hw2 := hw1.trans (hb2.mono hw1.size)); clear hb2))
      go_roundw
      case rel => exact ⟨k + 1, by go_num, by omega, hw2⟩
      case measure => simp [RowKit.intOf]; omega
    · have HB := Lib.hid hbw
      have V1 := waiting_yes (HK.out wr hbw).la.ln.dev
      have V2 := waiting_yes (HK.out wr hbw).lb.ln.dev
      clear hbw
      go_wp2_with (first
        | (go_at_call_of 24 (Value.pointer (some ⟨B, 0, none⟩)); refine V1.mono ?_; rintro e w1 ⟨rfl, rfl⟩)
        | (go_at_call_of 24 (Value.pointer (some ⟨B', 0, none⟩)); refine V2.mono ?_; rintro e w1 ⟨rfl, rfl⟩)
        | (go_at_call 7; refine (awake_any _).mono ?_; rintro e w2 ⟨rfl, hb2⟩))
      go_ret
      exact ⟨rfl, (HK.out _ HB.out).la.below.trans (hb2.mono (HK.out _ HB.out).la.below.size)⟩
set_option maxHeartbeats 8000000 in
theorem cuts_odd (y n : Nat) (hy : y < 256) (hn : y % 90 = n) (v : Value) (xs : List Int) (hx20 : xs.length ≤ 20) (A : Option Addr) (l : List Ac) (cap : Nat) (hl : l.length ≤ 80) (W : World) (iv : Sw W W.heap.size v xs) (i0 : Acts W W.heap.size A l)
    (hhigh : n < seen l l.length) (x : Int) (t : List Int) (hxs : xs = x :: t) (hox : (x.tmod 2 != 0) = true) : Calls Try.prog 5 #[.int .u8 (y : Int), v, .slice A l.length cap] W fun e w' => e = .returned (.bool true) ∧ Below W.heap.size W w' := by
  have IV := Lib.hid iv
  obtain ⟨a, cp, rfl, hxa⟩ := iv
  have hx0 : xs[0]? = some x := by rw [hxs]; rfl
  obtain ⟨ad0, rfl, hltx, hcx⟩ := hxa 0 x hx0
  have e0 : ad0.add 0 = ad0 := by simp [Addr.add]
  rw [e0] at hltx hcx
  have HC := Lib.hid (fun (w1 : World) (hb : Below W.heap.size W w1) => (hb.cell (p := ad0) hltx).trans hcx)
  have hmp : 0 < xs.length := by rw [hxs]; simp
  have hodd : oddF xs = true := by rw [hxs]; exact hox
  have hox2 : ¬ x.tmod 2 = 0 := by simpa using hox
  clear hx0 e0 hltx hcx hxs
  clear hxa
  have hn90 : n < 90 := by omega
  have hni : (y : Int).tmod 90 = (n : Int) := by rw [Int.tmod_eq_emod_of_nonneg (by omega)]; omega
  have hni' : (y : Int) % 90 = (n : Int) := by omega
  have HF := Lib.hid (few_any A l cap (by unfold maxLen; omega) W W.heap.size i0)
  have HA := Lib.hid i0
  have C8 := Lib.hid (fun w => new512 w)
  have hL1 : (l.length : Nat) = l.length := rfl
  have R1 := Lib.hid (fun (w1 : World) (F B b c : Nat) (z : Int) (u : Value) (h : Lo W w1 F B b c (fresh 512) z u xs 0 false) => run_all (cap := cap) h hl i0)
  have hhi : n < seen l l.length := hhigh
  obtain ⟨j, hj1, hj2, es0⟩ := lst_cut (fresh 512) xs n l l.length hhi
  rw [hodd] at es0
  have es1 : lst (fresh 512) xs (n : Int) l l.length = (crash (dvA (fresh 512) l (j + 1)) xs, n + 1, true) := es0
  clear es0
  obtain ⟨S0, hS0⟩ : ∃ S0, dvA (fresh 512) l (j + 1) = S0 := ⟨_, rfl⟩
  rw [hS0] at es1
  have R2 := Lib.hid (fun (w1 : World) (G B b c : Nat) (u : Value) (h : Lo W w1 G B b c (fresh 512) (-1) u xs 0 false) => run_to (cap := cap) h hl i0 (n + 1) (by omega) (by omega) S0 (fun i hi => by rw [← hS0]; exact dvA_same _ _ (by omega)))
  clear hS0 hj1 hj2 hhi
  have ek : ((n + 1 : Nat) : Int) = (n : Int) + 1 := by omega
  simp only [ek] at R2
  clear ek
  obtain ⟨D, hD⟩ : ∃ D, seen l l.length = D := ⟨_, rfl⟩
  obtain ⟨ln, hln⟩ : ∃ ln, l.length = ln := ⟨_, rfl⟩
  have HN := Lib.hid hln
  rw [hln] at hD
  simp only [hln, hD] at R1 R2 HF hl hhigh es1 ⊢
  clear hln hL1 i0
  obtain ⟨m, hm⟩ : ∃ m, xs.length = m := ⟨_, rfl⟩
  rw [hm] at IV hx20 hmp ⊢
  have C9 := Lib.hid (fun (w1 : World) (B b c : Nat) (z : Int) (ho : Own W w1 B b c (fresh 512)) => lo_new ho (IV.out.kept ho.below).sl (by rw [hm]; omega) z)
  clear hm hn
  go_enter Try.func5, Try.ntmps5
  go_wp2_with (first
    | (go_at_call 6; refine HF.out.mono ?_; rintro e w2 ⟨q, rfl, rfl, -⟩)
    | (go_at_call 7; refine (awake_any _).mono ?_; rintro e w2 ⟨rfl, hbq⟩)
    | (go_at_call 8; with_reducible refine (C8.out W).mono ?_; rintro e w1 ⟨B, b, c, rfl, ho⟩)
    | (go_at_call 8; with_reducible refine (C8.out w1).mono ?_; rintro e w2 ⟨B', b', c', rfl, ho'⟩)
    | (go_at_call_of 9 (Value.pointer (some ⟨B, 0, none⟩)); with_reducible refine (C9.out w2 B b c (n : Int) (ho.later ho'.below)).mono ?_; rintro e w3 ⟨F, u, rfl, h3, hF3, h23, -⟩)
    | (go_at_call_of 9 (Value.pointer (some ⟨B', 0, none⟩)); with_reducible refine (C9.out w3 B' b' c' (-1) ((ho'.from ho.below).later h23)).mono ?_; rintro e w4 ⟨G, u', rfl, h4, hG, h34, hu⟩; have HT := Lib.hid (tl_start ho ho' h3 hF3 h34 h4 hG hu); clear ho ho' h3 hF3 h34 h4 hG hu h23)
    | (go_at_call_of 22 (Value.pointer (some ⟨F, 0, none⟩)); refine (R1.out _ F B b c _ u HT.out.la).mono ?_; rintro e w5 ⟨rfl, hl5, hk5⟩; (rw [es1] at hl5); (have HT5 := Lib.hid (HT.out.stepA hl5 hk5)); clear hl5 hk5 HT; have HT := HT5; clear HT5; have hcx5 := HC.out _ HT.out.la.below)
    | (go_at_call_of 22 (Value.pointer (some ⟨G, 0, none⟩)); refine (R2.out _ G B' b' c' u' HT.out.lb).mono ?_; rintro e w6 ⟨r, rfl, hl6, hk6⟩; (have HT6 := Lib.hid (HT.out.stepB hl6 hk6)); clear hl6 hk6 HT; have HT := HT6; clear HT6)
    | (go_at_call 18; refine (blow_up HT.out.lb.ln).mono ?_; rintro e w7 ⟨rfl, hl7, hk7⟩; (have HT7 := Lib.hid (HT.out.stepB (s2 := (crash S0 xs, n + 1, true)) (HT.out.lb.step hl7 hk7) hk7)); clear hl7 hk7 HT; have HT := HT7; clear HT7))
  all_goals try (go_ret; exact ⟨rfl, hbq⟩)
  have hkeep : ∀ w1, Below w7.heap.size w7 w1 → Tl W w1 F B b c G B' b' c' (crash S0 xs, n + 1, true) (crash S0 xs, n + 1, true) (n : Int) u u' xs := fun w1 hb => HT.out.later hb
  have HK := Lib.hid hkeep
  clear hkeep
  go_loopw [13] (fun i wr => ∃ k : Nat, i = .int .i64 (k : Int) ∧ k ≤ ln ∧ Below w7.heap.size w7 wr) (fun i _ => ln - (RowKit.intOf i).toNat)
  case atStart => exact ⟨0, rfl, Nat.zero_le _, Below.refl _ _⟩
  case round =>
    obtain ⟨k, rfl, hkn, hbw⟩ := hrel
    by_cases hlt : k < ln
    · obtain ⟨x, hx⟩ : ∃ x, l[k]? = some x := ⟨_, List.getElem?_eq_getElem (by rw [HN.out]; exact hlt)⟩
      obtain ⟨ad, rfl, hat⟩ := acts_at HA.out hx
      obtain ⟨c0, c1, c2⟩ := hat wr (HK.out wr hbw).la.below
      have HAT := Lib.hid hat
      have D1 := Lib.hid (read_any (HK.out wr hbw).la.ln.dev x.at')
      have D2 := Lib.hid (fun (w1 : World) (hb : Below w7.heap.size w7 w1) => read_any (HK.out w1 hb).lb.ln.dev x.at')
      obtain ⟨S, hS⟩ : ∃ S, rdS (crash S0 xs) x.at' = S := ⟨_, rfl⟩
      obtain ⟨er, hE⟩ : ∃ er, rdE (crash S0 xs) x.at' = er := ⟨_, rfl⟩
      simp only [hS, hE] at D1 D2
      clear hat hx hS hE
      go_wp2_with (first
        | (go_at_call_of 23 (Value.pointer (some ⟨B, 0, none⟩)); refine D1.out.mono ?_; rintro e w1 ⟨rfl, hb1⟩; (have hw1 := hbw.trans (hb1.mono hbw.size)); (obtain ⟨d0, d1, d2⟩ := HAT.out _ (HK.out _ hw1).la.below); clear hb1)
        | (go_at_call_of 23 (Value.pointer (some ⟨B', 0, none⟩)); refine (D2.out _ hw1).mono ?_; rintro e w2 ⟨rfl, hb2⟩; (have hw2 := hw1.trans (hb2.mono hw1.size)); clear hb2))
      go_roundw
      case rel => exact ⟨k + 1, by go_num, by omega, hw2⟩
      case measure => simp [RowKit.intOf]; omega
    · have HB := Lib.hid hbw
      have V1 := waiting_yes (HK.out wr hbw).la.ln.dev
      have V2 := waiting_yes (HK.out wr hbw).lb.ln.dev
      clear hbw
      go_wp2_with (first
        | (go_at_call_of 24 (Value.pointer (some ⟨B, 0, none⟩)); refine V1.mono ?_; rintro e w1 ⟨rfl, rfl⟩)
        | (go_at_call_of 24 (Value.pointer (some ⟨B', 0, none⟩)); refine V2.mono ?_; rintro e w1 ⟨rfl, rfl⟩)
        | (go_at_call 7; refine (awake_any _).mono ?_; rintro e w2 ⟨rfl, hb2⟩))
      go_ret
      exact ⟨rfl, (HK.out _ HB.out).la.below.trans (hb2.mono (HK.out _ HB.out).la.below.size)⟩
set_option maxHeartbeats 8000000 in
theorem cuts_even (y n : Nat) (hy : y < 256) (hn : y % 90 = n) (v : Value) (xs : List Int) (hx20 : xs.length ≤ 20) (A : Option Addr) (l : List Ac) (cap : Nat) (hl : l.length ≤ 80) (W : World) (iv : Sw W W.heap.size v xs) (i0 : Acts W W.heap.size A l)
    (hhigh : n < seen l l.length) (x : Int) (t : List Int) (hxs : xs = x :: t) (hox : (x.tmod 2 != 0) = false) : Calls Try.prog 5 #[.int .u8 (y : Int), v, .slice A l.length cap] W fun e w' => e = .returned (.bool true) ∧ Below W.heap.size W w' := by
  have IV := Lib.hid iv
  obtain ⟨a, cp, rfl, hxa⟩ := iv
  have hx0 : xs[0]? = some x := by rw [hxs]; rfl
  obtain ⟨ad0, rfl, hltx, hcx⟩ := hxa 0 x hx0
  have e0 : ad0.add 0 = ad0 := by simp [Addr.add]
  rw [e0] at hltx hcx
  have HC := Lib.hid (fun (w1 : World) (hb : Below W.heap.size W w1) => (hb.cell (p := ad0) hltx).trans hcx)
  have hmp : 0 < xs.length := by rw [hxs]; simp
  have hodd : oddF xs = false := by rw [hxs]; exact hox
  have hox2 : x.tmod 2 = 0 := by simpa using hox
  clear hx0 e0 hltx hcx hxs
  clear hxa
  have hn90 : n < 90 := by omega
  have hni : (y : Int).tmod 90 = (n : Int) := by rw [Int.tmod_eq_emod_of_nonneg (by omega)]; omega
  have hni' : (y : Int) % 90 = (n : Int) := by omega
  have HF := Lib.hid (few_any A l cap (by unfold maxLen; omega) W W.heap.size i0)
  have HA := Lib.hid i0
  have C8 := Lib.hid (fun w => new512 w)
  have hL1 : (l.length : Nat) = l.length := rfl
  have R1 := Lib.hid (fun (w1 : World) (F B b c : Nat) (z : Int) (u : Value) (h : Lo W w1 F B b c (fresh 512) z u xs 0 false) => run_all (cap := cap) h hl i0)
  have hhi : n < seen l l.length := hhigh
  obtain ⟨j, hj1, hj2, es0⟩ := lst_cut (fresh 512) xs n l l.length hhi
  rw [hodd] at es0
  have es1 : lst (fresh 512) xs (n : Int) l l.length = (crash (dvA (fresh 512) l (j)) xs, n + 1, true) := es0
  clear es0
  obtain ⟨S0, hS0⟩ : ∃ S0, dvA (fresh 512) l (j) = S0 := ⟨_, rfl⟩
  rw [hS0] at es1
  have R2 := Lib.hid (fun (w1 : World) (G B b c : Nat) (u : Value) (h : Lo W w1 G B b c (fresh 512) (-1) u xs 0 false) => run_to (cap := cap) h hl i0 (n) (by omega) (by omega) S0 (fun i hi => by rw [← hS0]; exact dvA_same _ _ (by omega)))
  clear hS0 hj1 hj2 hhi
  obtain ⟨D, hD⟩ : ∃ D, seen l l.length = D := ⟨_, rfl⟩
  obtain ⟨ln, hln⟩ : ∃ ln, l.length = ln := ⟨_, rfl⟩
  have HN := Lib.hid hln
  rw [hln] at hD
  simp only [hln, hD] at R1 R2 HF hl hhigh es1 ⊢
  clear hln hL1 i0
  obtain ⟨m, hm⟩ : ∃ m, xs.length = m := ⟨_, rfl⟩
  rw [hm] at IV hx20 hmp ⊢
  have C9 := Lib.hid (fun (w1 : World) (B b c : Nat) (z : Int) (ho : Own W w1 B b c (fresh 512)) => lo_new ho (IV.out.kept ho.below).sl (by rw [hm]; omega) z)
  clear hm hn
  go_enter Try.func5, Try.ntmps5
  go_wp2_with (first
    | (go_at_call 6; refine HF.out.mono ?_; rintro e w2 ⟨q, rfl, rfl, -⟩)
    | (go_at_call 7; refine (awake_any _).mono ?_; rintro e w2 ⟨rfl, hbq⟩)
    | (go_at_call 8; with_reducible refine (C8.out W).mono ?_; rintro e w1 ⟨B, b, c, rfl, ho⟩)
    | (go_at_call 8; with_reducible refine (C8.out w1).mono ?_; rintro e w2 ⟨B', b', c', rfl, ho'⟩)
    | (go_at_call_of 9 (Value.pointer (some ⟨B, 0, none⟩)); with_reducible refine (C9.out w2 B b c (n : Int) (ho.later ho'.below)).mono ?_; rintro e w3 ⟨F, u, rfl, h3, hF3, h23, -⟩)
    | (go_at_call_of 9 (Value.pointer (some ⟨B', 0, none⟩)); with_reducible refine (C9.out w3 B' b' c' (-1) ((ho'.from ho.below).later h23)).mono ?_; rintro e w4 ⟨G, u', rfl, h4, hG, h34, hu⟩; have HT := Lib.hid (tl_start ho ho' h3 hF3 h34 h4 hG hu); clear ho ho' h3 hF3 h34 h4 hG hu h23)
    | (go_at_call_of 22 (Value.pointer (some ⟨F, 0, none⟩)); refine (R1.out _ F B b c _ u HT.out.la).mono ?_; rintro e w5 ⟨rfl, hl5, hk5⟩; (rw [es1] at hl5); (have HT5 := Lib.hid (HT.out.stepA hl5 hk5)); clear hl5 hk5 HT; have HT := HT5; clear HT5; have hcx5 := HC.out _ HT.out.la.below)
    | (go_at_call_of 22 (Value.pointer (some ⟨G, 0, none⟩)); refine (R2.out _ G B' b' c' u' HT.out.lb).mono ?_; rintro e w6 ⟨r, rfl, hl6, hk6⟩; (have HT6 := Lib.hid (HT.out.stepB hl6 hk6)); clear hl6 hk6 HT; have HT := HT6; clear HT6)
    | (go_at_call 18; refine (blow_up HT.out.lb.ln).mono ?_; rintro e w7 ⟨rfl, hl7, hk7⟩; (have HT7 := Lib.hid (HT.out.stepB (s2 := (crash S0 xs, n, true)) (HT.out.lb.step hl7 hk7) hk7)); clear hl7 hk7 HT; have HT := HT7; clear HT7))
  all_goals try (go_ret; exact ⟨rfl, hbq⟩)
  have hkeep : ∀ w1, Below w7.heap.size w7 w1 → Tl W w1 F B b c G B' b' c' (crash S0 xs, n + 1, true) (crash S0 xs, n, true) (n : Int) u u' xs := fun w1 hb => HT.out.later hb
  have HK := Lib.hid hkeep
  clear hkeep
  go_loopw [13] (fun i wr => ∃ k : Nat, i = .int .i64 (k : Int) ∧ k ≤ ln ∧ Below w7.heap.size w7 wr) (fun i _ => ln - (RowKit.intOf i).toNat)
  case atStart => exact ⟨0, rfl, Nat.zero_le _, Below.refl _ _⟩
  case round =>
    obtain ⟨k, rfl, hkn, hbw⟩ := hrel
    by_cases hlt : k < ln
    · obtain ⟨x, hx⟩ : ∃ x, l[k]? = some x := ⟨_, List.getElem?_eq_getElem (by rw [HN.out]; exact hlt)⟩
      obtain ⟨ad, rfl, hat⟩ := acts_at HA.out hx
      obtain ⟨c0, c1, c2⟩ := hat wr (HK.out wr hbw).la.below
      have HAT := Lib.hid hat
      have D1 := Lib.hid (read_any (HK.out wr hbw).la.ln.dev x.at')
      have D2 := Lib.hid (fun (w1 : World) (hb : Below w7.heap.size w7 w1) => read_any (HK.out w1 hb).lb.ln.dev x.at')
      obtain ⟨S, hS⟩ : ∃ S, rdS (crash S0 xs) x.at' = S := ⟨_, rfl⟩
      obtain ⟨er, hE⟩ : ∃ er, rdE (crash S0 xs) x.at' = er := ⟨_, rfl⟩
      simp only [hS, hE] at D1 D2
      clear hat hx hS hE
      go_wp2_with (first
        | (go_at_call_of 23 (Value.pointer (some ⟨B, 0, none⟩)); refine D1.out.mono ?_; rintro e w1 ⟨rfl, hb1⟩; (have hw1 := hbw.trans (hb1.mono hbw.size)); (obtain ⟨d0, d1, d2⟩ := HAT.out _ (HK.out _ hw1).la.below); clear hb1)
        | (go_at_call_of 23 (Value.pointer (some ⟨B', 0, none⟩)); refine (D2.out _ hw1).mono ?_; rintro e w2 ⟨rfl, hb2⟩; (have hw2 := hw1.trans (hb2.mono hw1.size)); clear hb2))
      go_roundw
      case rel => exact ⟨k + 1, by go_num, by omega, hw2⟩
      case measure => simp [RowKit.intOf]; omega
    · have HB := Lib.hid hbw
      have V1 := waiting_yes (HK.out wr hbw).la.ln.dev
      have V2 := waiting_yes (HK.out wr hbw).lb.ln.dev
      clear hbw
      go_wp2_with (first
        | (go_at_call_of 24 (Value.pointer (some ⟨B, 0, none⟩)); refine V1.mono ?_; rintro e w1 ⟨rfl, rfl⟩)
        | (go_at_call_of 24 (Value.pointer (some ⟨B', 0, none⟩)); refine V2.mono ?_; rintro e w1 ⟨rfl, rfl⟩)
        | (go_at_call 7; refine (awake_any _).mono ?_; rintro e w2 ⟨rfl, hb2⟩))
      go_ret
      exact ⟨rfl, (HK.out _ HB.out).la.below.trans (hb2.mono (HK.out _ HB.out).la.below.size)⟩
set_option maxHeartbeats 8000000 in
theorem cuts_none (y n : Nat) (hy : y < 256) (hn : y % 90 = n) (v : Value) (xs : List Int) (hx20 : xs.length ≤ 20) (A : Option Addr) (l : List Ac) (cap : Nat) (hl : l.length ≤ 80) (W : World) (iv : Sw W W.heap.size v xs) (i0 : Acts W W.heap.size A l)
    (hhigh : n < seen l l.length) (hxs : xs = []) : Calls Try.prog 5 #[.int .u8 (y : Int), v, .slice A l.length cap] W fun e w' => e = .returned (.bool true) ∧ Below W.heap.size W w' := by
  have IV := Lib.hid iv
  obtain ⟨a, cp, rfl, hxa⟩ := iv
  have hodd : oddF xs = false := by rw [hxs]; rfl
  have hmp : xs.length = 0 := by rw [hxs]; rfl
  clear hxs
  clear hxa
  have hn90 : n < 90 := by omega
  have hni : (y : Int).tmod 90 = (n : Int) := by rw [Int.tmod_eq_emod_of_nonneg (by omega)]; omega
  have hni' : (y : Int) % 90 = (n : Int) := by omega
  have HF := Lib.hid (few_any A l cap (by unfold maxLen; omega) W W.heap.size i0)
  have HA := Lib.hid i0
  have C8 := Lib.hid (fun w => new512 w)
  have hL1 : (l.length : Nat) = l.length := rfl
  have R1 := Lib.hid (fun (w1 : World) (F B b c : Nat) (z : Int) (u : Value) (h : Lo W w1 F B b c (fresh 512) z u xs 0 false) => run_all (cap := cap) h hl i0)
  have hhi : n < seen l l.length := hhigh
  obtain ⟨j, hj1, hj2, es0⟩ := lst_cut (fresh 512) xs n l l.length hhi
  rw [hodd] at es0
  have es1 : lst (fresh 512) xs (n : Int) l l.length = (crash (dvA (fresh 512) l (j)) xs, n + 1, true) := es0
  clear es0
  obtain ⟨S0, hS0⟩ : ∃ S0, dvA (fresh 512) l (j) = S0 := ⟨_, rfl⟩
  rw [hS0] at es1
  have R2 := Lib.hid (fun (w1 : World) (G B b c : Nat) (u : Value) (h : Lo W w1 G B b c (fresh 512) (-1) u xs 0 false) => run_to (cap := cap) h hl i0 (n) (by omega) (by omega) S0 (fun i hi => by rw [← hS0]; exact dvA_same _ _ (by omega)))
  clear hS0 hj1 hj2 hhi
  obtain ⟨D, hD⟩ : ∃ D, seen l l.length = D := ⟨_, rfl⟩
  obtain ⟨ln, hln⟩ : ∃ ln, l.length = ln := ⟨_, rfl⟩
  have HN := Lib.hid hln
  rw [hln] at hD
  simp only [hln, hD] at R1 R2 HF hl hhigh es1 ⊢
  clear hln hL1 i0
  obtain ⟨m, hm⟩ : ∃ m, xs.length = m := ⟨_, rfl⟩
  rw [hm] at IV hx20 hmp ⊢
  have C9 := Lib.hid (fun (w1 : World) (B b c : Nat) (z : Int) (ho : Own W w1 B b c (fresh 512)) => lo_new ho (IV.out.kept ho.below).sl (by rw [hm]; omega) z)
  clear hm hn
  subst hmp
  go_enter Try.func5, Try.ntmps5
  go_wp2_with (first
    | (go_at_call 6; refine HF.out.mono ?_; rintro e w2 ⟨q, rfl, rfl, -⟩)
    | (go_at_call 7; refine (awake_any _).mono ?_; rintro e w2 ⟨rfl, hbq⟩)
    | (go_at_call 8; with_reducible refine (C8.out W).mono ?_; rintro e w1 ⟨B, b, c, rfl, ho⟩)
    | (go_at_call 8; with_reducible refine (C8.out w1).mono ?_; rintro e w2 ⟨B', b', c', rfl, ho'⟩)
    | (go_at_call_of 9 (Value.pointer (some ⟨B, 0, none⟩)); with_reducible refine (C9.out w2 B b c (n : Int) (ho.later ho'.below)).mono ?_; rintro e w3 ⟨F, u, rfl, h3, hF3, h23, -⟩)
    | (go_at_call_of 9 (Value.pointer (some ⟨B', 0, none⟩)); with_reducible refine (C9.out w3 B' b' c' (-1) ((ho'.from ho.below).later h23)).mono ?_; rintro e w4 ⟨G, u', rfl, h4, hG, h34, hu⟩; have HT := Lib.hid (tl_start ho ho' h3 hF3 h34 h4 hG hu); clear ho ho' h3 hF3 h34 h4 hG hu h23)
    | (go_at_call_of 22 (Value.pointer (some ⟨F, 0, none⟩)); refine (R1.out _ F B b c _ u HT.out.la).mono ?_; rintro e w5 ⟨rfl, hl5, hk5⟩; (rw [es1] at hl5); (have HT5 := Lib.hid (HT.out.stepA hl5 hk5)); clear hl5 hk5 HT; have HT := HT5; clear HT5)
    | (go_at_call_of 22 (Value.pointer (some ⟨G, 0, none⟩)); refine (R2.out _ G B' b' c' u' HT.out.lb).mono ?_; rintro e w6 ⟨r, rfl, hl6, hk6⟩; (have HT6 := Lib.hid (HT.out.stepB hl6 hk6)); clear hl6 hk6 HT; have HT := HT6; clear HT6)
    | (go_at_call 18; refine (blow_up HT.out.lb.ln).mono ?_; rintro e w7 ⟨rfl, hl7, hk7⟩; (have HT7 := Lib.hid (HT.out.stepB (s2 := (crash S0 xs, n, true)) (HT.out.lb.step hl7 hk7) hk7)); clear hl7 hk7 HT; have HT := HT7; clear HT7))
  all_goals try (go_ret; exact ⟨rfl, hbq⟩)
  have hkeep : ∀ w1, Below w7.heap.size w7 w1 → Tl W w1 F B b c G B' b' c' (crash S0 xs, n + 1, true) (crash S0 xs, n, true) (n : Int) u u' xs := fun w1 hb => HT.out.later hb
  have HK := Lib.hid hkeep
  clear hkeep
  go_loopw [13] (fun i wr => ∃ k : Nat, i = .int .i64 (k : Int) ∧ k ≤ ln ∧ Below w7.heap.size w7 wr) (fun i _ => ln - (RowKit.intOf i).toNat)
  case atStart => exact ⟨0, rfl, Nat.zero_le _, Below.refl _ _⟩
  case round =>
    obtain ⟨k, rfl, hkn, hbw⟩ := hrel
    by_cases hlt : k < ln
    · obtain ⟨x, hx⟩ : ∃ x, l[k]? = some x := ⟨_, List.getElem?_eq_getElem (by rw [HN.out]; exact hlt)⟩
      obtain ⟨ad, rfl, hat⟩ := acts_at HA.out hx
      obtain ⟨c0, c1, c2⟩ := hat wr (HK.out wr hbw).la.below
      have HAT := Lib.hid hat
      have D1 := Lib.hid (read_any (HK.out wr hbw).la.ln.dev x.at')
      have D2 := Lib.hid (fun (w1 : World) (hb : Below w7.heap.size w7 w1) => read_any (HK.out w1 hb).lb.ln.dev x.at')
      obtain ⟨S, hS⟩ : ∃ S, rdS (crash S0 xs) x.at' = S := ⟨_, rfl⟩
      obtain ⟨er, hE⟩ : ∃ er, rdE (crash S0 xs) x.at' = er := ⟨_, rfl⟩
      simp only [hS, hE] at D1 D2
      clear hat hx hS hE
      go_wp2_with (first
        | (go_at_call_of 23 (Value.pointer (some ⟨B, 0, none⟩)); refine D1.out.mono ?_; rintro e w1 ⟨rfl, hb1⟩; (have hw1 := hbw.trans (hb1.mono hbw.size)); (obtain ⟨d0, d1, d2⟩ := HAT.out _ (HK.out _ hw1).la.below); clear hb1)
        | (go_at_call_of 23 (Value.pointer (some ⟨B', 0, none⟩)); refine (D2.out _ hw1).mono ?_; rintro e w2 ⟨rfl, hb2⟩; (have hw2 := hw1.trans (hb2.mono hw1.size)); clear hb2))
      go_roundw
      case rel => exact ⟨k + 1, by go_num, by omega, hw2⟩
      case measure => simp [RowKit.intOf]; omega
    · have HB := Lib.hid hbw
      have V1 := waiting_yes (HK.out wr hbw).la.ln.dev
      have V2 := waiting_yes (HK.out wr hbw).lb.ln.dev
      clear hbw
      go_wp2_with (first
        | (go_at_call_of 24 (Value.pointer (some ⟨B, 0, none⟩)); refine V1.mono ?_; rintro e w1 ⟨rfl, rfl⟩)
        | (go_at_call_of 24 (Value.pointer (some ⟨B', 0, none⟩)); refine V2.mono ?_; rintro e w1 ⟨rfl, rfl⟩)
        | (go_at_call 7; refine (awake_any _).mono ?_; rintro e w2 ⟨rfl, hb2⟩))
      go_ret
      exact ⟨rfl, (HK.out _ HB.out).la.below.trans (hb2.mono (HK.out _ HB.out).la.below.size)⟩
set_option maxHeartbeats 4000000 in
theorem cuts_not (y : Nat) (v : Value) (xs : List Int) (A : Option Addr) (l : List Ac) (cap : Nat) (hl : l.length ≤ maxLen) (h : 20 < xs.length ∨ 80 < l.length) (W : World) (iv : Sw W W.heap.size v xs) (i0 : Acts W W.heap.size A l) :
    Calls Try.prog 5 #[.int .u8 (y : Int), v, .slice A l.length cap] W fun e w' => e = .returned (.bool true) ∧ Below W.heap.size W w' := by
  obtain ⟨a, cp, rfl, -⟩ := iv
  have HF := Lib.hid (few_any A l cap hl W W.heap.size i0)
  obtain ⟨m, hm⟩ : ∃ m, xs.length = m := ⟨_, rfl⟩
  have HH := Lib.hid h
  rw [hm] at HH ⊢
  clear hm h i0
  go_enter Try.func5, Try.ntmps5
  go_wp2_with (first
    | (go_at_call 6; refine HF.out.mono ?_; rintro e w2 ⟨q, rfl, rfl, hq⟩; (have hqm : q = true → 20 < (m : Int) := fun e => by have := hq e; unfold Few at this; have := HH.out; omega); clear hq)
    | (go_at_call 7; refine (awake_any _).mono ?_; rintro e w2 ⟨rfl, hb⟩)
    | (go_at_call 8; exfalso; (have := hqm (by assumption)); omega))
  all_goals first
    | (go_ret; exact ⟨rfl, hb⟩)
    | (exfalso; have := hqm (by assumption); omega)
theorem cuts_law (y : Nat) (hy : y < 256) (v : Value) (xs : List Int) (A : Option Addr) (l : List Ac) (cap : Nat) (hl : l.length ≤ maxLen) (W : World) (iv : Sw W W.heap.size v xs) (i0 : Acts W W.heap.size A l) :
    Calls Try.prog 5 #[.int .u8 (y : Int), v, .slice A l.length cap] W fun e w' => e = .returned (.bool true) ∧ Below W.heap.size W w' := by
  by_cases h : 20 < xs.length ∨ 80 < l.length
  · exact cuts_not y v xs A l cap hl h W iv i0
  · by_cases hlow : seen l l.length ≤ y % 90
    · exact cuts_low y _ hy rfl v xs (by omega) A l cap (by omega) W iv i0 hlow
    · cases xs with
      | nil => exact cuts_none y _ hy rfl v [] (by omega) A l cap (by omega) W iv i0 (by omega) rfl
      | cons x t =>
        cases ho : (x.tmod 2 != 0) with
        | true => exact cuts_odd y _ hy rfl v (x :: t) (by omega) A l cap (by omega) W iv i0 (by omega) x t rfl ho
        | false => exact cuts_even y _ hy rfl v (x :: t) (by omega) A l cap (by omega) W iv i0 (by omega) x t rfl ho
end Go.Proofs.Ytkefopakfjdfkaa
