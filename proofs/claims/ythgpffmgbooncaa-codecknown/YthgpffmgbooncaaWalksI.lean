/- Items that come in; which of them may be gone through. Conditions: texts as long as may be. -/
import Derived.Test.YthgpffmgbooncaaWalksH
namespace Go.Proofs.Ythgpffmgbooncaa
open Go.ChangeShapes Go.WideShapes Go.RowKit Go.Codec
structure It where
  kind : Nat
  n : Nat
  s : ByteArray
/-- The items lie from A on, below block B. -/
def Items (w : World) (B : Nat) (A : Option Addr) (xs : List It) : Prop := ∀ i x, xs[i]? = some x → x.kind < 256 ∧ x.n < 18446744073709551616 ∧ x.s.size ≤ maxLen ∧
  ∃ ad, A = some ad ∧ (ad.add (i * 3)).block < B ∧ w.cell? (ad.add (i * 3)) = some (.int .u8 x.kind) ∧ w.cell? ⟨(ad.add (i * 3)).block, (ad.add (i * 3)).off + 1, none⟩ = some (.int .u64 x.n) ∧ w.cell? ⟨(ad.add (i * 3)).block, (ad.add (i * 3)).off + 2, none⟩ = some (.string x.s)
theorem Items.kept {w w' : World} {B : Nat} {A : Option Addr} {xs : List It} (h : Items w B A xs) (hb : Below B w w') : Items w' B A xs := by
  intro i x hx
  obtain ⟨h1, h2, h3, ad, e, hB, c0, c1, c2⟩ := h i x hx
  exact ⟨h1, h2, h3, ad, e, hB, (hb.cell (p := ad.add (i * 3)) hB).trans c0, (hb.cell (p := ⟨(ad.add (i * 3)).block, (ad.add (i * 3)).off + 1, none⟩) hB).trans c1, (hb.cell (p := ⟨(ad.add (i * 3)).block, (ad.add (i * 3)).off + 2, none⟩) hB).trans c2⟩
def okIt (x : It) : Prop := ¬ (300 < x.s.size ∧ x.s.size ≤ 65535) ∧ x.s.size ≤ 70000
def Few (xs : List It) : Prop := xs.length ≤ 60 ∧ ∀ x ∈ xs, okIt x
def FewPost (xs : List It) (w : World) (e : Ending) (w' : World) : Prop := ∃ b : Bool, e = .returned (.bool b) ∧ w = w' ∧ (b = true → Few xs)
set_option maxHeartbeats 1000000 in
theorem few_any (A : Option Addr) (xs : List It) (cap : Nat) (hl : xs.length ≤ maxLen) (w : World) (B : Nat) (h : Items w B A xs) : Calls Try.prog 8 #[.slice A xs.length cap] w (FewPost xs w) := by
  unfold maxLen at hl
  have HI := Lib.hid h; clear h
  obtain ⟨n, hn⟩ : ∃ n, n = xs.length := ⟨_, rfl⟩
  rw [← hn] at hl
  rw [← hn]
  have HN := Lib.hid hn; clear hn
  go_enter Try.func8, Try.ntmps8
  go_wp2
  go_loop [3] (fun i => ∃ k : Nat, k ≤ n ∧ k ≤ 70 ∧ i = .int .i64 k ∧ ∀ j x, j < k → xs[j]? = some x → okIt x) (fun i => 71 - (intOf i).toNat)
  case atStart => exact ⟨0, by omega, by omega, rfl, fun j x hj => by omega⟩
  case round =>
    obtain ⟨k, hk, hk7, rfl, hall⟩ := hrel
    have HA := Lib.hid hall; clear hall
    by_cases hlt : k < n ∧ k < 70
    · obtain ⟨hkn, hk70⟩ := hlt
      obtain ⟨x, hx⟩ : ∃ x, xs[k]? = some x := ⟨_, List.getElem?_eq_getElem (by rw [← HN.out]; exact hkn)⟩
      obtain ⟨h1, h2, h3, ad, rfl, hB, c0, c1, c2⟩ := HI.out k x hx
      unfold maxLen at h3
      have HX := Lib.hid hx; clear hx
      go_wp2
      all_goals first
        | (go_ret; exact ⟨false, rfl, rfl, fun h => by cases h⟩)
        | (have hok : okIt x := ⟨by omega, by omega⟩
           refine ⟨⟨k + 1, by omega, by omega, by go_num, fun j y hj hy => ?_⟩, by simp [intOf]; omega⟩
           by_cases e : j < k
           · exact HA.out j y e hy
           · obtain rfl : j = k := by omega
             rw [HX.out] at hy
             injection hy with hy
             rw [← hy]; exact hok)
    · have hfin : ∀ b : Bool, b = decide ((n : Int) ≤ 60) → b = true → Few xs := by
        intro b hb hbt
        rw [hb, decide_eq_true_eq] at hbt
        have hn := HN.out
        refine ⟨by omega, fun y hy => ?_⟩
        obtain ⟨j, hj⟩ := List.getElem?_of_mem hy
        have hjl : j < xs.length := (List.getElem?_eq_some_iff.1 hj).1
        exact HA.out j y (by omega) hj
      have HFin := Lib.hid hfin; clear hfin
      by_cases hkn : k < n
      all_goals
        go_wp2
        go_ret
        exact ⟨_, rfl, rfl, HFin.out _ rfl⟩
end Go.Proofs.Ythgpffmgbooncaa
