/- run: acts over a line. Conditions: none. -/
import Derived.Test.YtkefopakfjdfkaaFsF
namespace Go.Proofs.Ytkefopakfjdfkaa
open Go.ChangeShapes Go.WideShapes Go.RowKit Go.Maps
set_option maxRecDepth 100000
/-- A line of the call's own that stands so. -/
abbrev Los (W w : World) (F B b c : Nat) (z : Int) (u : Value) (xs : List Int) (s : List Cel × Nat × Bool) : Prop := Lo W w F B b c s.1 z u xs s.2.1 s.2.2
theorem lsN_le (xs : List Int) (z : Int) (x : Ac) (s : List Cel × Nat × Bool) : (lsN xs z x s).2.1 ≤ s.2.1 + 1 := by
  unfold lsN
  split
  · exact Nat.le_refl _
  · omega
theorem lst_le (st : List Cel) (xs : List Int) (z : Int) (l : List Ac) : ∀ i, (lst st xs z l i).2.1 ≤ i
  | 0 => Nat.le_refl _
  | i + 1 => by
    have ih := lst_le st xs z l i
    cases hx : l[i]? with
    | none => rw [lst_none st xs z hx]; omega
    | some x =>
      rw [lst_succ st xs z hx]
      have := lsN_le xs z x (lst st xs z l i)
      omega
section
variable {W w : World} {F B b c : Nat} {z : Int} {u : Value} {xs : List Int} {s : List Cel × Nat × Bool}
theorem step_write (h : Los W w F B b c z u xs s) (hk : s.2.1 < 1000000) (x : Ac) (hm : x.what % 4 = 0) : Calls Try.prog 16 #[.pointer (some ⟨F, 0, none⟩), .int .i64 x.at', .string x.s] w
    fun e w' => ∃ er, e = .returned (.int .i64 er) ∧ Los W w' F B b c z u xs (lsN xs z x s) ∧ Kp w w' [F, b, c] := by
  obtain ⟨st, k, cut⟩ := s
  cases cut with
  | true =>
    refine (lwrite_not (er := 8) (by decide) (fun _ hb => check_any (h.ln.below hb)) x.at' x.s).mono ?_
    rintro e w' ⟨rfl, hb⟩
    refine ⟨8, rfl, ?_, Kp.of_below hb _⟩
    unfold lsN
    rw [if_neg (fun hh => by cases hh.2)]
    exact h.later hb
  | false =>
    refine (lwrite_up h.ln hk x.at' x.s).mono ?_
    rintro e w' ⟨rfl, hl, hk2⟩
    refine ⟨_, rfl, ?_, hk2⟩
    unfold lsN
    rw [if_pos ⟨by omega, rfl⟩]
    have e1 : doA st x = stW st x.at' x.s := if_pos hm
    show Lo W w' F B b c (aft st (doA st x) xs z k) z u xs (k + 1) (decide ((k : Int) = z))
    rw [e1]
    exact h.step hl hk2
theorem step_barrier (h : Los W w F B b c z u xs s) (hk : s.2.1 < 1000000) (x : Ac) (hm : x.what % 4 = 1) : Calls Try.prog 17 #[.pointer (some ⟨F, 0, none⟩)] w
    fun e w' => ∃ er, e = .returned (.int .i64 er) ∧ Los W w' F B b c z u xs (lsN xs z x s) ∧ Kp w w' [F, b, c] := by
  obtain ⟨st, k, cut⟩ := s
  cases cut with
  | true =>
    refine (lo_barrier_cut h).mono ?_
    rintro e w' ⟨rfl, rfl⟩
    refine ⟨8, rfl, ?_, Kp.refl _ _⟩
    unfold lsN
    rw [if_neg (fun hh => by cases hh.2)]
    exact h
  | false =>
    refine (lbarrier_up h.ln hk).mono ?_
    rintro e w' ⟨rfl, hl, hk2⟩
    refine ⟨_, rfl, ?_, hk2⟩
    unfold lsN
    rw [if_pos ⟨by omega, rfl⟩]
    have e1 : doA st x = bar st := if_neg (by omega)
    show Lo W w' F B b c (aft st (doA st x) xs z k) z u xs (k + 1) (decide ((k : Int) = z))
    rw [e1]
    exact h.step hl hk2
end
theorem kp_drew {w : World} (X : List Nat) : Kp w w.drew X := Kp.drew (Kp.refl _ _)
theorem kp_chain {w w1 w2 : World} {X : List Nat} (h : Kp w w1 X) (h' : Kp w1 w2 X) : Kp w w2 X := h.trans h' (fun _ hy => .inl hy)
theorem bel_drew {w : World} : Below w.heap.size w w.drew := ⟨rfl, rfl, rfl, Nat.le_refl _, fun _ _ => rfl⟩
/-- How run's loop stands. -/
structure Ru (W w : World) (F B b c : Nat) (st : List Cel) (z : Int) (u : Value) (xs : List Int) (l : List Ac) (most k : Nat) (wr : World) : Prop where
  lo : Los W wr F B b c z u xs (lst st xs z l k)
  kp : Kp w wr [F, b, c]
  le : seen l k ≤ most
set_option maxHeartbeats 8000000 in
theorem run_any {W w : World} {F B b c : Nat} {st : List Cel} {z : Int} {u : Value} {xs : List Int} (h : Lo W w F B b c st z u xs 0 false) {A : Option Addr} {l : List Ac} {cap : Nat} (hl : l.length ≤ 80) (hA : Acts W W.heap.size A l) (most : Nat) (hmost : most ≤ 1000) :
    Calls Try.prog 22 #[.pointer (some ⟨F, 0, none⟩), .slice A l.length cap, .int .i64 (most : Int)] w
      fun e w' => ∃ i, i ≤ l.length ∧ (i = l.length ∨ most ≤ seen l i) ∧ e = .returned (.int .i64 (seen l i : Nat)) ∧ Ru W w F B b c st z u xs l most i w' := by
  have HA := Lib.hid hA
  have H0 := Lib.hid (⟨h, Kp.refl _ _, Nat.zero_le _⟩ : Ru W w F B b c st z u xs l most 0 w)
  clear h hA
  obtain ⟨n, hn⟩ : ∃ n, l.length = n := ⟨_, rfl⟩
  have HN := Lib.hid hn
  rw [hn] at hl ⊢
  clear hn
  go_enter Try.func22, Try.ntmps22
  go_wp2
  go_loopw [7, 8] (fun d i wr => ∃ k : Nat, d = .int .i64 (seen l k : Nat) ∧ i = .int .i64 (k : Int) ∧ k ≤ n ∧ Ru W w F B b c st z u xs l most k wr) (fun _ i _ => n - (RowKit.intOf i).toNat)
  case atStart => exact ⟨0, rfl, rfl, Nat.zero_le _, H0.out⟩
  case round =>
    obtain ⟨k, rfl, rfl, hkn, hR⟩ := hrel
    have hs := hR.le
    have HR := Lib.hid hR
    clear hR
    by_cases hlt : k < n
    · by_cases hmo : seen l k < most
      · obtain ⟨x, hx⟩ : ∃ x, l[k]? = some x := ⟨_, List.getElem?_eq_getElem (by rw [HN.out]; exact hlt)⟩
        obtain ⟨ad, rfl, hat⟩ := acts_at HA.out hx
        obtain ⟨c0, c1, c2⟩ := hat wr HR.out.lo.below
        have HD := Lib.hid (HR.out.lo.later bel_drew)
        obtain ⟨d0, d1, d2⟩ := hat _ HD.out.below
        have hkb : (lst st xs z l k).2.1 < 1000000 := by have := lst_le st xs z l k; omega
        have es := lst_succ st xs z hx
        have m4 : x.what % 4 = 0 ∨ x.what % 4 = 1 ∨ x.what % 4 = 2 ∨ x.what % 4 = 3 := by omega
        obtain ⟨sk, hsk⟩ : ∃ sk, seen l k = sk := ⟨_, rfl⟩
        have HX := Lib.hid hx
        have HSK := Lib.hid hsk
        rw [hsk] at hs hmo ⊢
        have hki : (k : Int) < (n : Int) := by omega
        have hk0 : (0 : Int) ≤ (k : Int) := by omega
        rcases m4 with hm | hm | hm | hm
        · have hmi : (x.what : Int).tmod 4 = 0 := by rw [Int.tmod_eq_emod_of_nonneg (by omega)]; omega
          have e1 : seen l (k + 1) = sk + 1 := by rw [seen_yes hx (by omega), hsk]
          have HC := Lib.hid (step_write HD.out hkb x hm)
          have HAT := Lib.hid (fun (w2 : World) (hb : Below W.heap.size W w2) => (hat w2 hb).2)
          have HE := Lib.hid es
          have HE1 := Lib.hid e1
          clear hat hx es hsk hkb hm e1
          go_wp2
          go_region_held3 (fun wx => wx.cell? ⟨(ad.add (k * 3)).block, (ad.add (k * 3)).off + 1, none⟩ = some (.int .i64 x.at') ∧ wx.cell? ⟨(ad.add (k * 3)).block, (ad.add (k * 3)).off + 2, none⟩ = some (.string x.s))
            (first | with_reducible exact ⟨d1, d2⟩ | with_reducible exact HAT.out _ hl2.below)
            (first
              | (go_at_call 16; refine HC.out.mono ?_; rintro e w2 ⟨er, rfl, hl2, hk2⟩))
          all_goals
            have HL2 := Lib.hid hl2
            have HK2 := Lib.hid hk2
            clear hl2 hk2 c0 c1 c2 d0 d1 d2
            go_wp2
            go_roundw
            case rel => exact ⟨k + 1, by rw [HE1.out]; go_num, by go_num, by omega, ⟨by rw [HE.out]; exact HL2.out, kp_chain (kp_chain HR.out.kp (kp_drew _)) HK2.out, by rw [HE1.out]; omega⟩⟩
            case measure => simp [RowKit.intOf]; omega
        · have hmi : (x.what : Int).tmod 4 = 1 := by rw [Int.tmod_eq_emod_of_nonneg (by omega)]; omega
          have e1 : seen l (k + 1) = sk + 1 := by rw [seen_yes hx (by omega), hsk]
          have HC := Lib.hid (step_barrier HR.out.lo hkb x hm)
          have HE := Lib.hid es
          have HE1 := Lib.hid e1
          clear hat hx es hsk hkb hm e1 d0 d1 d2
          go_wp2_with (go_at_call 17; refine HC.out.mono ?_; rintro e w2 ⟨er, rfl, hl2, hk2⟩; have HL2 := Lib.hid hl2; have HK2 := Lib.hid hk2; clear hl2 hk2)
          go_roundw
          case rel => exact ⟨k + 1, by rw [HE1.out]; go_num, by go_num, by omega, ⟨by rw [HE.out]; exact HL2.out, kp_chain HR.out.kp HK2.out, by rw [HE1.out]; omega⟩⟩
          case measure => simp [RowKit.intOf]; omega
        · have hmi : (x.what : Int).tmod 4 = 2 := by rw [Int.tmod_eq_emod_of_nonneg (by omega)]; omega
          have e1 : seen l (k + 1) = sk := by rw [seen_no hx (by omega), hsk]
          have e2 : lsN xs z x (lst st xs z l k) = lst st xs z l k := if_neg (by omega)
          rw [e2] at es
          have HE := Lib.hid es
          have HE1 := Lib.hid e1
          clear hat hx es hsk hkb hm e1 e2 d0 d1 d2
          go_wp2
          go_roundw
          case rel => exact ⟨k + 1, by rw [HE1.out], by go_num, by omega, ⟨by rw [HE.out]; exact HR.out.lo, HR.out.kp, by rw [HE1.out]; omega⟩⟩
          case measure => simp [RowKit.intOf]; omega
        · have hmi : (x.what : Int).tmod 4 = 3 := by rw [Int.tmod_eq_emod_of_nonneg (by omega)]; omega
          have e1 : seen l (k + 1) = sk := by rw [seen_no hx (by omega), hsk]
          have e2 : lsN xs z x (lst st xs z l k) = lst st xs z l k := if_neg (by omega)
          rw [e2] at es
          have HE := Lib.hid es
          have HE1 := Lib.hid e1
          clear hat hx es hsk hkb hm e1 e2 d0 d1 d2
          go_wp2
          go_roundw
          case rel => exact ⟨k + 1, by rw [HE1.out], by go_num, by omega, ⟨by rw [HE.out]; exact HR.out.lo, HR.out.kp, by rw [HE1.out]; omega⟩⟩
          case measure => simp [RowKit.intOf]; omega
      · obtain ⟨sk, hsk⟩ : ∃ sk, seen l k = sk := ⟨_, rfl⟩
        have HSK := Lib.hid hsk
        rw [hsk] at hs hmo ⊢
        clear hsk
        go_wp2
        go_ret
        exact ⟨k, by omega, .inr (by rw [HSK.out]; omega), by rw [HSK.out]; rfl, HR.out⟩
    · obtain ⟨sk, hsk⟩ : ∃ sk, seen l k = sk := ⟨_, rfl⟩
      have HSK := Lib.hid hsk
      rw [hsk] at hs ⊢
      clear hsk
      go_wp2
      go_ret
      exact ⟨k, by omega, .inl (by omega), by rw [HSK.out]; rfl, HR.out⟩
end Go.Proofs.Ytkefopakfjdfkaa
