/- Names that come in; which of them are few; which begin with others; which are alike. Conditions: lengths as they may be. -/
import Derived.Test.YtnpgoahdemfkpaaDoorWalksC
namespace Go.Proofs.YtnpgoahdemfkpaaDoor
open Go.ChangeShapes Go.WideShapes Go.RowKit Go.Path
set_option maxRecDepth 100000
set_option linter.unusedVariables false
set_option linter.unusedSimpArgs false
/-- No more than 20 names, of no more than 200 bytes each. -/
def Few (xs : List B) : Prop := xs.length ≤ 20 ∧ ∀ x ∈ xs, x.length ≤ 200
def FewPost (xs : List B) (w : World) (e : Ending) (w' : World) : Prop := ∃ b : Bool, e = .returned (.bool b) ∧ w = w' ∧ (b = true → Few xs)
theorem few_any (A : Option Addr) (xs : List B) (cap : Nat) (hl : xs.length ≤ maxLen) (w : World) (h : Rs w A xs) (hx : ∀ x ∈ xs, x.length ≤ maxLen) : Calls Tryd.prog 9 #[.slice A xs.length cap] w (FewPost xs w) := by
  unfold maxLen at hl hx
  have HI := Lib.hid h; clear h
  have HX := Lib.hid hx; clear hx
  obtain ⟨n, hn⟩ : ∃ n, n = xs.length := ⟨_, rfl⟩
  rw [← hn] at hl
  rw [← hn]
  have HN := Lib.hid hn; clear hn
  go_enter Tryd.func9, Tryd.ntmps9
  go_wp2
  go_loop [3] (fun i => ∃ k : Nat, k ≤ n ∧ k ≤ 30 ∧ i = .int .i64 k ∧ ∀ j x, j < k → xs[j]? = some x → x.length ≤ 200) (fun i => 31 - (intOf i).toNat)
  case atStart => exact ⟨0, by omega, by omega, rfl, fun j x hj => by omega⟩
  case round =>
    obtain ⟨k, hk, hk7, rfl, hall⟩ := hrel
    have HA := Lib.hid hall; clear hall
    by_cases hlt : k < n ∧ k < 30
    · obtain ⟨hkn, hk70⟩ := hlt
      obtain ⟨x, hx⟩ : ∃ x, xs[k]? = some x := ⟨_, List.getElem?_eq_getElem (by rw [← HN.out]; exact hkn)⟩
      obtain ⟨b, o, rfl, hB, hc⟩ := HI.out.at_ hx
      have hz := HX.out x (List.mem_of_getElem? hx)
      have hs := bs_size x
      generalize bs x = s at *
      rw [← hs] at hz
      have HS := Lib.hid hs; clear hs
      have HK := Lib.hid hx; clear hx
      by_cases h2 : 200 < s.size
      · go_wp2
        go_ret; exact ⟨false, rfl, rfl, fun h => by cases h⟩
      · go_wp2
        have := HS.out
        refine ⟨⟨k + 1, by omega, by omega, by go_num, fun j y hj hy => ?_⟩, by simp [intOf]; omega⟩
        by_cases e : j < k
        · exact HA.out j y e hy
        · obtain rfl : j = k := by omega
          rw [HK.out] at hy
          injection hy with hy
          rw [← hy]; omega
    · have hfin : ∀ b : Bool, b = decide ((n : Int) ≤ 20) → b = true → Few xs := by
        intro b hb hbt
        rw [hb, decide_eq_true_eq] at hbt
        have hn := HN.out
        refine ⟨by omega, fun y hy => ?_⟩
        obtain ⟨j, hj⟩ := List.getElem?_of_mem hy
        have hjl : j < xs.length := (List.getElem?_eq_some_iff.1 hj).1
        exact HA.out j y (by omega) hj
      have HFin := Lib.hid hfin; clear hfin
      by_cases hkn : k < n
      all_goals
        go_wp2
        go_ret
        exact ⟨_, rfl, rfl, HFin.out _ rfl⟩
theorem below_drewN (w : World) (n : Nat) : Below w.heap.size w (w.drewN n) := ⟨rfl, rfl, rfl, Nat.le_refl _, fun _ _ => rfl⟩
theorem same_text {a b : ByteArray} : (a.toList == b.toList) = true ↔ a.data.toList = b.data.toList := by
  rw [text_list, text_list, beq_iff_eq]
theorem other_text {a b : ByteArray} : (a.toList == b.toList) = false ↔ ¬ a.data.toList = b.data.toList := by
  rw [text_list, text_list, beq_eq_false_iff_ne]
theorem rwithin_any (A C : Option Addr) (ys xs : List B) (c d : Nat) (hm : ys.length ≤ 1000000) (hl : xs.length ≤ 1000000) (w : World) (h' : Rs w A ys) (h : Rs w C xs) :
    Calls Tryd.prog 45 #[.slice A ys.length c, .slice C xs.length d] w fun e w' => e = .returned (.bool (within xs ys)) ∧ Below w.heap.size w w' := by
  obtain ⟨v, hv⟩ : ∃ v, v = within xs ys := ⟨_, rfl⟩
  rw [← hv]
  obtain ⟨n, hn⟩ : ∃ n, n = xs.length := ⟨_, rfl⟩
  obtain ⟨m, hm'⟩ : ∃ m, m = ys.length := ⟨_, rfl⟩
  have HX := Lib.hid h; have HY := Lib.hid h'; clear h h'
  rw [← hn] at hl ⊢; rw [← hm'] at hm ⊢
  have hd : ¬ n ≤ m → v = false := fun hlt => by rw [hv]; unfold within; rw [decide_eq_false]; rintro ⟨h, _⟩; omega
  have hno : ∀ (k : Nat) (x y : B), xs[k]? = some x → ys[k]? = some y → ¬ y = x → v = false := fun k x y hx hy hne => by
    rw [hv]; unfold within; rw [decide_eq_false]
    rintro ⟨_, h⟩
    rw [← h, List.getElem?_take] at hx
    split at hx
    · rw [hy] at hx; injection hx with hx; exact hne hx
    · cases hx
  have hyes : n ≤ m → (∀ j : Nat, j < n → xs[j]? = ys[j]?) → v = true := fun hlt hall => by
    rw [hv]; unfold within
    rw [decide_eq_true_eq]
    refine ⟨by omega, ?_⟩
    apply List.ext_getElem?
    intro j
    rw [List.getElem?_take]
    split
    · exact (hall j (by omega)).symm
    · rw [List.getElem?_eq_none (by omega)]
  have HN := Lib.hid hn; have HM := Lib.hid hm'; have HD := Lib.hid hd; have HNo := Lib.hid hno; have HYes := Lib.hid hyes; clear hn hm' hd hno hyes hv
  by_cases hle : n ≤ m
  · have HC := Lib.hid hle
    go_enter Tryd.func45, Tryd.ntmps45
    go_wp2
    go_loopw [5] (fun i wr => Below w.heap.size w wr ∧ ∃ k : Nat, k ≤ n ∧ i = .int .i64 k ∧ ∀ j : Nat, j < k → xs[j]? = ys[j]?) (fun i _ => n - (intOf i).toNat)
    case atStart => exact ⟨Below.refl _ _, 0, by omega, rfl, fun j hj => by omega⟩
    case round =>
      obtain ⟨hb, k, hk, rfl, hall⟩ := hrel
      have HB := Lib.hid hb; clear hb
      have HA := Lib.hid hall; clear hall
      by_cases hkn : k < n
      · obtain ⟨x, hx⟩ : ∃ x, xs[k]? = some x := ⟨_, List.getElem?_eq_getElem (by rw [← HN.out]; exact hkn)⟩
        obtain ⟨y, hy⟩ : ∃ y, ys[k]? = some y := ⟨_, List.getElem?_eq_getElem (by rw [← HM.out]; omega)⟩
        obtain ⟨b, o, rfl, hB, hc⟩ := (HX.out.kept HB.out).at_ hx
        obtain ⟨b', o', rfl, hB', hc'⟩ := (HY.out.kept HB.out).at_ hy
        have HE : Hid ((((bs y).toList == (bs x).toList) = true ∧ y = x) ∨ (((bs y).toList == (bs x).toList) = false ∧ ¬ y = x)) := by
          refine Lib.hid ?_
          by_cases e : y = x
          · exact .inl ⟨same_text.2 (by rw [e]), e⟩
          · exact .inr ⟨other_text.2 (by rw [bs_data, bs_data]; exact e), e⟩
        have HKX := Lib.hid hx; have HKY := Lib.hid hy; clear hx hy
        have hkm : k < m := by omega
        generalize bs x = s at *
        generalize bs y = t at *
        rcases HE.out with ⟨e1, e2⟩ | ⟨e1, e2⟩
        · have HE2 := Lib.hid e2; clear e2 HE
          go_wp2
          go_quiet (fail)
          go_wp2
          refine ⟨⟨HB.out.trans ((below_drewN _ _).mono HB.out.size), k + 1, by omega, rfl, fun j hj => ?_⟩, by simp [intOf]; omega⟩
          by_cases e : j < k
          · exact HA.out j e
          · obtain rfl : j = k := by omega
            rw [HKX.out, HKY.out, HE2.out]
        · have hv := HNo.out k x y HKX.out HKY.out e2
          have HV := Lib.hid hv; clear hv e2 HE
          go_wp2
          go_quiet (fail)
          go_wp2
          go_ret
          rw [HV.out]
          exact ⟨rfl, HB.out.trans ((below_drewN _ _).mono HB.out.size)⟩
      · have hv := HYes.out HC.out (fun j hj => HA.out j (by omega))
        have HV := Lib.hid hv; clear hv
        go_wp2
        go_ret
        rw [HV.out]
        exact ⟨rfl, HB.out⟩
  · have hv := HD.out hle
    rw [hv]
    go_enter Tryd.func45, Tryd.ntmps45
    go_wp2
    go_ret
    exact ⟨rfl, Below.refl _ _⟩
theorem begins_any (A C : Option Addr) (ys xs : List B) (c d : Nat) (hm : ys.length ≤ 1000000) (hl : xs.length ≤ 1000000) (w : World) (h' : Rs w A ys) (h : Rs w C xs) :
    Calls Tryd.prog 29 #[.slice A ys.length c, .slice C xs.length d] w fun e w' => e = .returned (.bool (within xs ys)) ∧ Below w.heap.size w w' := by
  obtain ⟨v, hv⟩ : ∃ v, v = within xs ys := ⟨_, rfl⟩
  rw [← hv]
  obtain ⟨n, hn⟩ : ∃ n, n = xs.length := ⟨_, rfl⟩
  obtain ⟨m, hm'⟩ : ∃ m, m = ys.length := ⟨_, rfl⟩
  have HX := Lib.hid h; have HY := Lib.hid h'; clear h h'
  rw [← hn] at hl ⊢; rw [← hm'] at hm ⊢
  have hd : ¬ n ≤ m → v = false := fun hlt => by rw [hv]; unfold within; rw [decide_eq_false]; rintro ⟨h, _⟩; omega
  have hno : ∀ (k : Nat) (x y : B), xs[k]? = some x → ys[k]? = some y → ¬ y = x → v = false := fun k x y hx hy hne => by
    rw [hv]; unfold within; rw [decide_eq_false]
    rintro ⟨_, h⟩
    rw [← h, List.getElem?_take] at hx
    split at hx
    · rw [hy] at hx; injection hx with hx; exact hne hx
    · cases hx
  have hyes : n ≤ m → (∀ j : Nat, j < n → xs[j]? = ys[j]?) → v = true := fun hlt hall => by
    rw [hv]; unfold within
    rw [decide_eq_true_eq]
    refine ⟨by omega, ?_⟩
    apply List.ext_getElem?
    intro j
    rw [List.getElem?_take]
    split
    · exact (hall j (by omega)).symm
    · rw [List.getElem?_eq_none (by omega)]
  have HN := Lib.hid hn; have HM := Lib.hid hm'; have HD := Lib.hid hd; have HNo := Lib.hid hno; have HYes := Lib.hid hyes; clear hn hm' hd hno hyes hv
  by_cases hle : n ≤ m
  · have HC := Lib.hid hle
    go_enter Tryd.func29, Tryd.ntmps29
    go_wp2
    go_loopw [5] (fun i wr => Below w.heap.size w wr ∧ ∃ k : Nat, k ≤ n ∧ i = .int .i64 k ∧ ∀ j : Nat, j < k → xs[j]? = ys[j]?) (fun i _ => n - (intOf i).toNat)
    case atStart => exact ⟨Below.refl _ _, 0, by omega, rfl, fun j hj => by omega⟩
    case round =>
      obtain ⟨hb, k, hk, rfl, hall⟩ := hrel
      have HB := Lib.hid hb; clear hb
      have HA := Lib.hid hall; clear hall
      by_cases hkn : k < n
      · obtain ⟨x, hx⟩ : ∃ x, xs[k]? = some x := ⟨_, List.getElem?_eq_getElem (by rw [← HN.out]; exact hkn)⟩
        obtain ⟨y, hy⟩ : ∃ y, ys[k]? = some y := ⟨_, List.getElem?_eq_getElem (by rw [← HM.out]; omega)⟩
        obtain ⟨b, o, rfl, hB, hc⟩ := (HX.out.kept HB.out).at_ hx
        obtain ⟨b', o', rfl, hB', hc'⟩ := (HY.out.kept HB.out).at_ hy
        have HE : Hid ((((bs y).toList == (bs x).toList) = true ∧ y = x) ∨ (((bs y).toList == (bs x).toList) = false ∧ ¬ y = x)) := by
          refine Lib.hid ?_
          by_cases e : y = x
          · exact .inl ⟨same_text.2 (by rw [e]), e⟩
          · exact .inr ⟨other_text.2 (by rw [bs_data, bs_data]; exact e), e⟩
        have HKX := Lib.hid hx; have HKY := Lib.hid hy; clear hx hy
        have hkm : k < m := by omega
        generalize bs x = s at *
        generalize bs y = t at *
        rcases HE.out with ⟨e1, e2⟩ | ⟨e1, e2⟩
        · have HE2 := Lib.hid e2; clear e2 HE
          go_wp2
          go_quiet (fail)
          go_wp2
          refine ⟨⟨HB.out.trans ((below_drewN _ _).mono HB.out.size), k + 1, by omega, rfl, fun j hj => ?_⟩, by simp [intOf]; omega⟩
          by_cases e : j < k
          · exact HA.out j e
          · obtain rfl : j = k := by omega
            rw [HKX.out, HKY.out, HE2.out]
        · have hv := HNo.out k x y HKX.out HKY.out e2
          have HV := Lib.hid hv; clear hv e2 HE
          go_wp2
          go_quiet (fail)
          go_wp2
          go_ret
          rw [HV.out]
          exact ⟨rfl, HB.out.trans ((below_drewN _ _).mono HB.out.size)⟩
      · have hv := HYes.out HC.out (fun j hj => HA.out j (by omega))
        have HV := Lib.hid hv; clear hv
        go_wp2
        go_ret
        rw [HV.out]
        exact ⟨rfl, HB.out⟩
  · have hv := HD.out hle
    rw [hv]
    go_enter Tryd.func29, Tryd.ntmps29
    go_wp2
    go_ret
    exact ⟨rfl, Below.refl _ _⟩
theorem within_eq {xs ys : List B} (h : xs.length = ys.length) : within xs ys = decide (xs = ys) := by
  unfold within
  rw [decide_eq_decide]
  constructor
  · rintro ⟨_, h2⟩
    rw [← h2, h, List.take_length]
  · rintro rfl
    exact ⟨Nat.le_refl _, List.take_length⟩
theorem rsame_any (A C : Option Addr) (ys xs : List B) (c d : Nat) (hl : ys.length ≤ 1000000) (hm : xs.length ≤ 1000000) (w : World) (h : Rs w A ys) (h' : Rs w C xs) :
    Calls Tryd.prog 28 #[.slice A ys.length c, .slice C xs.length d] w fun e w' => e = .returned (.bool (decide (xs = ys))) ∧ Below w.heap.size w w' := by
  by_cases he : ys.length = xs.length
  · have K := Lib.hid (fun w => rwithin_any A C ys xs c d hl hm w)
    rw [within_eq he.symm] at K
    generalize decide (xs = ys) = v at *
    have HX := Lib.hid h; have HY := Lib.hid h'; clear h h'
    rw [he] at K hl ⊢
    generalize xs.length = n at *
    clear he
    go_enter Tryd.func28, Tryd.ntmps28
    go_wp2_with fail
    refine (K.out _ HX.out HY.out).mono ?_; rintro e w1 ⟨rfl, b1⟩
    have B1 := Lib.hid b1; clear b1
    go_wp2
    go_ret
    exact ⟨rfl, B1.out⟩
  · have hv : decide (xs = ys) = false := by rw [decide_eq_false]; rintro rfl; exact he rfl
    rw [hv]
    have hne : ¬ (ys.length : Int) = (xs.length : Int) := by omega
    have hne' : ((ys.length : Int) == (xs.length : Int)) = false := by simpa using hne
    clear hv
    generalize ys.length = n at *
    generalize xs.length = m at *
    go_enter Tryd.func28, Tryd.ntmps28
    go_wp2
    go_ret
    exact ⟨rfl, Below.refl _ _⟩
end Go.Proofs.YtnpgoahdemfkpaaDoor
