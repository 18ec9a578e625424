/- Calls that touch nothing old, as words; the first part of the stage's theorem. Conditions: the listed families as the program's text lays them. -/
import Derived.Test.YtnpgoahdemfkpaaDoorWalksT
import Derived.Deep.Cut
namespace Go.Proofs.YtnpgoahdemfkpaaDoor
open Go.ChangeShapes Go.WideShapes Go.RowKit Go.Path
set_option maxRecDepth 100000
set_option linter.unusedVariables false
set_option linter.unusedSimpArgs false
/-- Behind w, this call returns this, and touches nothing old. -/
def Cb (w : World) (f : Nat) (args : Array Value) (v : Value) : Prop := ∀ wx, Below w.heap.size w wx → Calls Tryd.prog f args wx fun e w' => e = .returned v ∧ Below wx.heap.size wx w'
/-- Where P holds, this call returns this, and P holds behind it. -/
def Ct (P : World → Prop) (f : Nat) (args : Array Value) (v : Value) : Prop := ∀ wx, P wx → Calls Tryd.prog f args wx fun e w' => e = .returned v ∧ P w'
theorem Cb.ct {w w1 : World} {f : Nat} {args : Array Value} {v : Value} (h : Cb w f args v) (hb : Below w.heap.size w w1) (ta : TypeId) (a : Array Value) (tb : TypeId) (b : Array Value) : Ct (Boxes w1 ta a tb b) f args v :=
  fun wx hp => (h wx (hb.trans (hp.below.mono hb.size))).mono fun _ _ hh => ⟨hh.1, hp.later hh.2⟩
theorem same_cb {w : World} {f : Nat} {args : Array Value} {v : Value} (h : ∀ wx, Below w.heap.size w wx → Calls Tryd.prog f args wx fun e w' => e = .returned v ∧ wx = w') : Cb w f args v :=
  fun wx hb => (h wx hb).mono fun _ _ hh => ⟨hh.1, by rw [hh.2]; exact Below.refl _ _⟩
/-- Are names few? -/
def fewB (xs : List B) : Bool := decide (xs.length ≤ 20) && xs.all fun x => decide (x.length ≤ 200)
theorem fewB_iff (xs : List B) : fewB xs = true ↔ Few xs := by simp [fewB, Few]
theorem few2_any (A : Option Addr) (xs : List B) (cap : Nat) (hl : xs.length ≤ maxLen) (w : World) (h : Rs w A xs) (hx : ∀ x ∈ xs, x.length ≤ maxLen) : Calls Tryd.prog 9 #[.slice A xs.length cap] w fun e w' => e = .returned (.bool (fewB xs)) ∧ w = w' := by
  unfold maxLen at hl hx
  have HI := Lib.hid h; clear h
  have HX := Lib.hid hx; clear hx
  obtain ⟨n, hn⟩ : ∃ n, n = xs.length := ⟨_, rfl⟩
  obtain ⟨v, hv⟩ : ∃ v, v = fewB xs := ⟨_, rfl⟩
  rw [← hv]
  have HNo := Lib.hid (show ∀ (k : Nat) x, xs[k]? = some x → 200 < x.length → v = false from fun k x h1 h2 => by
    rw [hv, Bool.eq_false_iff]
    intro hf
    have := ((fewB_iff xs).1 hf).2 x (List.mem_of_getElem? h1)
    omega)
  have HEnd := Lib.hid (show (∀ (j : Nat) x, j < n → j < 30 → xs[j]? = some x → x.length ≤ 200) → v = decide ((n : Int) ≤ 20) from fun hall => by
    rw [hv]
    by_cases h20 : n ≤ 20
    · rw [decide_eq_true (by omega), fewB_iff]
      refine ⟨by omega, fun y hy => ?_⟩
      obtain ⟨j, hj⟩ := List.getElem?_of_mem hy
      have hjl : j < xs.length := (List.getElem?_eq_some_iff.1 hj).1
      exact hall j y (by omega) (by omega) hj
    · rw [decide_eq_false (by omega), Bool.eq_false_iff]
      intro hf
      have := ((fewB_iff xs).1 hf).1
      omega)
  rw [← hn] at hl
  rw [← hn]
  have HN := Lib.hid hn; clear hn hv
  go_enter Tryd.func9, Tryd.ntmps9
  go_wp2
  go_loop [3] (fun i => ∃ k : Nat, k ≤ n ∧ k ≤ 30 ∧ i = .int .i64 k ∧ ∀ j x, j < k → xs[j]? = some x → x.length ≤ 200) (fun i => 31 - (intOf i).toNat)
  case atStart => exact ⟨0, by omega, by omega, rfl, fun j x hj => by omega⟩
  case round =>
    obtain ⟨k, hk, hk7, rfl, hall⟩ := hrel
    have HA := Lib.hid hall; clear hall
    by_cases hlt : k < n ∧ k < 30
    · obtain ⟨hkn, hk70⟩ := hlt
      obtain ⟨x, hx⟩ : ∃ x, xs[k]? = some x := ⟨_, List.getElem?_eq_getElem (by rw [← HN.out]; exact hkn)⟩
      obtain ⟨b, o, rfl, hB, hc⟩ := HI.out.at_ hx
      have hz := HX.out x (List.mem_of_getElem? hx)
      have hs := bs_size x
      generalize bs x = s at *
      rw [← hs] at hz
      have HS := Lib.hid hs; clear hs
      have HK := Lib.hid hx; clear hx
      by_cases h2 : 200 < s.size
      · have HV := Lib.hid (HNo.out k x HK.out (by have := HS.out; omega))
        go_wp2
        go_ret; rw [HV.out]; exact ⟨rfl, rfl⟩
      · go_wp2
        have := HS.out
        refine ⟨⟨k + 1, by omega, by omega, by go_num, fun j y hj hy => ?_⟩, by simp [intOf]; omega⟩
        by_cases e : j < k
        · exact HA.out j y e hy
        · obtain rfl : j = k := by omega
          rw [HK.out] at hy
          injection hy with hy
          rw [← hy]; omega
    · have HV := Lib.hid (HEnd.out (fun j x hj hj' hx => HA.out j x (by omega) hx))
      by_cases hkn : k < n
      all_goals
        go_wp2
        go_ret
        rw [HV.out]
        exact ⟨rfl, rfl⟩
end Go.Proofs.YtnpgoahdemfkpaaDoor
