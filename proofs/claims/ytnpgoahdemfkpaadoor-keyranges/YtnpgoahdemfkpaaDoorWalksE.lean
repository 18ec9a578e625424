/- Names and right paths, in the program and in the document. Conditions: lengths as they may be. -/
import Derived.Test.YtnpgoahdemfkpaaDoorWalksD
namespace Go.Proofs.YtnpgoahdemfkpaaDoor
open Go.ChangeShapes Go.WideShapes Go.RowKit Go.Path
set_option maxRecDepth 100000
set_option linter.unusedVariables false
set_option linter.unusedSimpArgs false
theorem name_has {l : B} {c : UInt8} {k : Nat} (h : l[k]? = some c) (hc : c = 0 ∨ c = 47) : name l = false := by
  have := has_yes h
  unfold name formed
  rcases hc with rfl | rfl <;> simp [this] <;> simp at this <;> simp [this]
theorem name_yes {l : B} (h0 : l ≠ []) (h1 : l ≠ [46]) (h2 : l ≠ [46, 46]) (h16 : l.length ≤ 16) (h : ∀ j, j < l.length → l[j]? ≠ some 0 ∧ l[j]? ≠ some 47) : name l = true := by
  have a := has_no (l := l) (c := 0) (fun j hj => (h j hj).1)
  have b := has_no (l := l) (c := 47) (fun j hj => (h j hj).2)
  unfold name formed
  rw [a, b]
  simp [h0, h1, h2, h16]
theorem name_long {l : B} (h : 16 < l.length) : name l = false := by
  unfold name
  rw [decide_eq_false (by omega), Bool.and_false]
set_option maxHeartbeats 1000000 in
theorem rname_any (s : ByteArray) (hs : s.size ≤ 9223372036854775807) (w : World) : Calls Tryd.prog 55 #[.string s] w fun e w' => e = .returned (.bool (name s.data.toList)) ∧ w = w' := by
  have hz : s.data.toList.length = s.size := (Lib.size_eq s).symm
  obtain ⟨l, hl⟩ : ∃ l, l = s.data.toList := ⟨_, rfl⟩
  rw [← hl] at hz ⊢
  have ht : s.toList = l := by rw [text_list, hl]
  have HL := Lib.hid hl; clear hl
  by_cases h0 : l = []
  · rw [h0] at hz ⊢
    have hz : s.size = 0 := by simpa using hz.symm
    go_enter Tryd.func55, Tryd.ntmps55
    go_wp2
    go_ret; exact ⟨rfl, rfl⟩
  have hpos : 0 < s.size := by rw [← hz]; exact List.length_pos_iff.2 h0
  by_cases h16 : 16 < s.size
  · rw [name_long (by omega)]
    clear hz
    go_enter Tryd.func55, Tryd.ntmps55
    go_wp2
    go_ret; exact ⟨rfl, rfl⟩
  by_cases h1 : l = [46]
  · rw [h1] at ht ⊢
    go_enter Tryd.func55, Tryd.ntmps55
    go_wp2
    go_ret; exact ⟨rfl, rfl⟩
  by_cases h2 : l = [46, 46]
  · rw [h2] at ht ⊢
    go_enter Tryd.func55, Tryd.ntmps55
    go_wp2
    go_ret; exact ⟨rfl, rfl⟩
  have q1 : (s.toList == [46]) = false := beq_eq_false_iff_ne.2 (by rw [ht]; exact h1)
  have q2 : (s.toList == [46, 46]) = false := beq_eq_false_iff_ne.2 (by rw [ht]; exact h2)
  have g1 : ¬ s.toList = [46] := by rw [ht]; exact h1
  have g2 : ¬ s.toList = [46, 46] := by rw [ht]; exact h2
  obtain ⟨b, hb⟩ : ∃ b, b = name l := ⟨_, rfl⟩
  rw [← hb]
  have HYes := Lib.hid (fun h => hb.trans (name_yes h0 h1 h2 (by omega) h))
  have HNo := Lib.hid (fun k c h hc => hb.trans (name_has (l := l) (c := c) (k := k) h hc))
  have HZ := Lib.hid hz
  clear hb hz h0 h1 h2 ht
  go_enter Tryd.func55, Tryd.ntmps55
  go_wp2
  go_loop [3] (fun i => ∃ k : Nat, k ≤ s.size ∧ i = .int .i64 k ∧ ∀ j : Nat, j < k → l[j]? ≠ some 0 ∧ l[j]? ≠ some 47) (fun i => s.size - (intOf i).toNat)
  case atStart => exact ⟨0, by omega, rfl, fun j hj => by omega⟩
  case round =>
    obtain ⟨k, hk, rfl, hall⟩ := hrel
    have HA := Lib.hid hall; clear hall
    by_cases hlt : k < s.size
    · have I0 := byte_is (c := 0) hlt (by omega)
      have I1 := byte_is (c := 47) hlt (by omega)
      rw [← HL.out] at I0 I1
      by_cases e0 : (s[k].toNat : Int) = 0
      · have hv := HNo.out k 0 (I0.1 (by simpa using e0)) (.inl rfl)
        have HV := Lib.hid hv
        clear hv I0 I1
        go_wp2
        go_ret
        rw [HV.out]; exact ⟨rfl, rfl⟩
      · have e0' : ((s[k].toNat : Int) == 0) = false := by simpa using e0
        by_cases e1 : (s[k].toNat : Int) = 47
        · have hv := HNo.out k 47 (I1.1 (by simpa using e1)) (.inr rfl)
          have HV := Lib.hid hv
          clear hv I0 I1
          go_wp2
          go_ret
          rw [HV.out]; exact ⟨rfl, rfl⟩
        · have e1' : ((s[k].toNat : Int) == 47) = false := by simpa using e1
          have HI := Lib.hid (show l[k]? ≠ some 0 ∧ l[k]? ≠ some 47 from ⟨fun h => e0 (by simpa using I0.2 h), fun h => e1 (by simpa using I1.2 h)⟩)
          clear I0 I1
          go_wp2
          refine ⟨⟨k + 1, by omega, rfl, fun j hj => ?_⟩, by simp [intOf]; omega⟩
          by_cases e : j < k
          · exact HA.out j e
          · obtain rfl : j = k := by omega
            exact HI.out
    · have hv := HYes.out (fun j hj => HA.out j (by have := HZ.out; omega))
      have HV := Lib.hid hv
      clear hv
      go_wp2
      go_ret
      rw [HV.out]; exact ⟨rfl, rfl⟩
theorem wrong_any (s : ByteArray) (hs : s.size ≤ 9223372036854775807) (b : Bool) (hb : name s.data.toList = b) (w : World) : Calls Tryd.prog 52 #[.string s] w fun e w' => e = .returned (.bool (!b)) ∧ w = w' := by
  have C := Lib.hid (name_any s hs)
  rw [hb] at C
  clear hb
  go_enter Tryd.func52, Tryd.ntmps52
  go_wp2_with fail
  refine (C.out _).mono ?_; rintro e w1 ⟨rfl, rfl⟩
  go_wp2
  go_ret; exact ⟨rfl, rfl⟩
/-- The first that is no name, or -1. -/
def firstBad (xs : List B) : Int := match xs.findIdx? (fun x => !name x) with | some k => k | none => -1
theorem firstBad_all {xs : List B} : (0 ≤ firstBad xs) ↔ xs.all name = false := by
  unfold firstBad
  cases h : xs.findIdx? (fun x => !name x) with
  | none =>
    rw [List.findIdx?_eq_none_iff] at h
    have : xs.all name = true := by
      rw [List.all_eq_true]; intro x hx; simpa using h x hx
    rw [this]; simp
  | some k =>
    have := List.findIdx?_eq_some_iff_getElem.1 h
    obtain ⟨hk, h1, _⟩ := this
    have : xs.all name = false := by
      rw [List.all_eq_false]
      exact ⟨xs[k], List.getElem_mem hk, by simpa using h1⟩
    rw [this]; simp
theorem index_any (A : Option Addr) (xs : List B) (c : Nat) (hl : xs.length ≤ maxLen) (hx : ∀ x ∈ xs, x.length ≤ maxLen) (w : World) (h : Rs w A xs) :
    Calls Tryd.prog 64 #[.slice A xs.length c, .func (.func 52) #[] #[]] w fun e w' => e = .returned (.int .i64 (firstBad xs)) ∧ w = w' := by
  unfold maxLen at hl hx
  obtain ⟨v, hv⟩ : ∃ v, v = firstBad xs := ⟨_, rfl⟩
  rw [← hv]
  obtain ⟨n, hn⟩ : ∃ n, n = xs.length := ⟨_, rfl⟩
  rw [← hn] at hl ⊢
  have HAt := Lib.hid (show ∀ (k : Nat) (x : B), (∀ (j : Nat) y, j < k → xs[j]? = some y → name y = true) → xs[k]? = some x → name x = false → v = (k : Int) from fun k x h1 h2 h3 => by
    obtain ⟨hk, he⟩ := List.getElem?_eq_some_iff.1 h2
    have : xs.findIdx? (fun x => !name x) = some k := by
      rw [List.findIdx?_eq_some_iff_getElem]
      refine ⟨hk, by rw [he, h3]; rfl, fun j hj => ?_⟩
      have := h1 j xs[j] hj (List.getElem?_eq_getElem (by omega))
      simp [this]
    rw [hv, firstBad, this])
  have HNone := Lib.hid (show (∀ (j : Nat) y, j < n → xs[j]? = some y → name y = true) → v = -1 from fun h => by
    have : xs.findIdx? (fun x => !name x) = none := by
      rw [List.findIdx?_eq_none_iff]
      intro x hx
      obtain ⟨j, hj⟩ := List.getElem?_of_mem hx
      have hjl := (List.getElem?_eq_some_iff.1 hj).1
      rw [h j x (by omega) hj]; rfl
    rw [hv, firstBad, this])
  have HI := Lib.hid h; have HN := Lib.hid hn; have HX := Lib.hid hx
  clear h hn hx hv
  go_enter Tryd.func64, Tryd.ntmps64
  go_wp2
  go_loop [8] (fun i => ∃ k : Nat, k ≤ n ∧ i = .int .i64 k ∧ ∀ j y, j < k → xs[j]? = some y → name y = true) (fun i => n - (intOf i).toNat)
  case atStart => exact ⟨0, by omega, rfl, fun j y hj => by omega⟩
  case round =>
    obtain ⟨k, hk, rfl, hall⟩ := hrel
    have HA := Lib.hid hall; clear hall
    by_cases hlt : k < n
    · obtain ⟨x, hx⟩ : ∃ x, xs[k]? = some x := ⟨_, List.getElem?_eq_getElem (by rw [← HN.out]; exact hlt)⟩
      obtain ⟨b, o, rfl, hB, hc⟩ := HI.out.at_ hx
      have hz := HX.out x (List.mem_of_getElem? hx)
      cases hb : name x
      · have CF := Lib.hid (wrong_any (bs x) (by rw [bs_size]; omega) false (by rw [bs_data]; exact hb))
        have HV := Lib.hid (HAt.out k x HA.out hx hb)
        generalize bs x = xb at *
        clear hb hx hz
        go_wp2_with fail
        refine (CF.out _).mono ?_; rintro e w2 ⟨rfl, rfl⟩
        go_wp2
        go_ret
        rw [HV.out]; exact ⟨rfl, rfl⟩
      · have CF := Lib.hid (wrong_any (bs x) (by rw [bs_size]; omega) true (by rw [bs_data]; exact hb))
        have HK := Lib.hid hx; have HNx := Lib.hid hb
        generalize bs x = xb at *
        clear hb hx hz
        go_wp2_with fail
        refine (CF.out _).mono ?_; rintro e w2 ⟨rfl, rfl⟩
        go_wp2
        refine ⟨⟨k + 1, by omega, by go_num, fun j y hj hy => ?_⟩, by simp [intOf]; omega⟩
        by_cases e : j < k
        · exact HA.out j y e hy
        · obtain rfl : j = k := by omega
          rw [HK.out] at hy
          injection hy with hy
          rw [← hy]; exact HNx.out
    · have HV := Lib.hid (HNone.out (fun j y hj hy => HA.out j y (by omega) hy))
      go_wp2
      go_ret
      rw [HV.out]; exact ⟨rfl, rfl⟩
theorem containsF_any (A : Option Addr) (xs : List B) (c : Nat) (hl : xs.length ≤ maxLen) (hx : ∀ x ∈ xs, x.length ≤ maxLen) (w : World) (h : Rs w A xs) :
    Calls Tryd.prog 54 #[.slice A xs.length c, .func (.func 52) #[] #[]] w fun e w' => e = .returned (.bool (!xs.all name)) ∧ w = w' := by
  have H := Lib.hid (index_any A xs c hl hx w h)
  have hq := firstBad_all (xs := xs)
  have hv : (!xs.all name) = decide (0 ≤ firstBad xs) := by
    cases e : xs.all name
    · rw [decide_eq_true (hq.2 e)]; rfl
    · rw [decide_eq_false (fun h => by have := hq.1 h; rw [e] at this; cases this)]; rfl
  rw [hv]
  generalize firstBad xs = f at *
  clear hq hv h hx
  generalize xs.length = n at *
  go_enter Tryd.func54, Tryd.ntmps54
  go_wp2_with fail
  refine H.out.mono ?_; rintro e w1 ⟨rfl, rfl⟩
  go_wp2
  go_ret
  exact ⟨rfl, rfl⟩
theorem right_any (A : Option Addr) (xs : List B) (c : Nat) (hl : xs.length ≤ maxLen) (hx : ∀ x ∈ xs, x.length ≤ maxLen) (w : World) (h : Rs w A xs) :
    Calls Tryd.prog 36 #[.slice A xs.length c] w fun e w' => e = .returned (.bool (right xs)) ∧ w = w' := by
  have H := Lib.hid (containsF_any A xs c hl hx w h)
  have hr : right xs = (decide (xs.length ≤ 6) && xs.all name) := rfl
  rw [hr]
  unfold maxLen at hl
  generalize xs.all name = b at *
  generalize xs.length = n at *
  clear hr h hx
  by_cases h6 : n ≤ 6
  · rw [decide_eq_true h6]
    go_enter Tryd.func36, Tryd.ntmps36
    go_wp2_with fail
    refine H.out.mono ?_; rintro e w1 ⟨rfl, rfl⟩
    go_wp2
    go_ret
    refine ⟨?_, rfl⟩
    cases b <;> rfl
  · rw [decide_eq_false h6]
    go_enter Tryd.func36, Tryd.ntmps36
    go_wp2
    go_ret
    exact ⟨rfl, rfl⟩
theorem right_short {xs : List B} (h : ¬ 6 < xs.length) : right xs = xs.all name := by
  unfold right; rw [decide_eq_true (by omega), Bool.true_and]
theorem rright_any (A : Option Addr) (xs : List B) (c : Nat) (hl : xs.length ≤ maxLen) (hx : ∀ x ∈ xs, x.length ≤ maxLen) (w : World) (h : Rs w A xs) :
    Calls Tryd.prog 38 #[.slice A xs.length c] w fun e w' => e = .returned (.bool (right xs)) ∧ w = w' := by
  unfold maxLen at hl hx
  obtain ⟨n, hn⟩ : ∃ n, n = xs.length := ⟨_, rfl⟩
  have hno := fun h => right_short (xs := xs) h
  have hbig : 6 < xs.length → right xs = false := fun h => by unfold right; rw [decide_eq_false (by omega), Bool.false_and]
  obtain ⟨v, hv⟩ : ∃ v, v = right xs := ⟨_, rfl⟩
  rw [← hv] at hno hbig ⊢
  rw [← hn] at hl hno hbig ⊢
  have HN := Lib.hid hn; have HX := Lib.hid hx; have HI := Lib.hid h
  by_cases h6 : 6 < n
  · rw [hbig h6]
    clear hno hbig hv hn hx h
    go_enter Tryd.func38, Tryd.ntmps38
    go_wp2
    go_ret
    exact ⟨rfl, rfl⟩
  · have HV := Lib.hid (hno h6)
    clear hno hbig hv hn hx h
    go_enter Tryd.func38, Tryd.ntmps38
    go_wp2
    go_loop [3] (fun i => ∃ k : Nat, k ≤ n ∧ i = .int .i64 k ∧ ∀ j y, j < k → xs[j]? = some y → name y = true) (fun i => n - (intOf i).toNat)
    case atStart => exact ⟨0, by omega, rfl, fun j y hj => by omega⟩
    case round =>
      obtain ⟨k, hk, rfl, hall⟩ := hrel
      have HA := Lib.hid hall; clear hall
      by_cases hlt : k < n
      · obtain ⟨x, hx⟩ : ∃ x, xs[k]? = some x := ⟨_, List.getElem?_eq_getElem (by rw [← HN.out]; exact hlt)⟩
        obtain ⟨b, o, rfl, hB, hc⟩ := HI.out.at_ hx
        have hm := List.mem_of_getElem? hx
        have CF := Lib.hid (rname_any (bs x) (by rw [bs_size]; have := HX.out x hm; omega))
        rw [bs_data] at CF
        generalize bs x = xb at *
        by_cases hn : name x = true
        · rw [hn] at CF
          have HNx := Lib.hid hn; have HK := Lib.hid hx
          clear hn hx hm
          go_wp2_with fail
          refine (CF.out _).mono ?_; rintro e w2 ⟨rfl, rfl⟩
          go_wp2
          refine ⟨⟨k + 1, by omega, by go_num, fun j y hj hy => ?_⟩, by simp [intOf]; omega⟩
          by_cases e : j < k
          · exact HA.out j y e hy
          · obtain rfl : j = k := by omega
            rw [HK.out] at hy
            injection hy with hy
            rw [← hy]; exact HNx.out
        · have hn' : name x = false := by simpa using hn
          have hf : xs.all name = false := List.all_eq_false.2 ⟨x, hm, hn⟩
          have HF := Lib.hid (HV.out.trans hf)
          rw [hn'] at CF
          clear hn hn' hf hm hx
          go_wp2_with fail
          refine (CF.out _).mono ?_; rintro e w2 ⟨rfl, rfl⟩
          go_wp2
          go_ret
          rw [HF.out]; exact ⟨rfl, rfl⟩
      · have ht : xs.all name = true := by
          rw [List.all_eq_true]
          intro x hx
          obtain ⟨j, hj⟩ := List.getElem?_of_mem hx
          have := (List.getElem?_eq_some_iff.1 hj).1
          exact HA.out j x (by have := HN.out; omega) hj
        have HF := Lib.hid (HV.out.trans ht)
        clear ht
        go_wp2
        go_ret
        rw [HF.out]; exact ⟨rfl, rfl⟩
end Go.Proofs.YtnpgoahdemfkpaaDoor
