/- The document's device: Copy. Conditions: none. -/
import Derived.Test.YtolbegjjakobeaaDvS
import Derived.Deep.RegionLaw
import Derived.Deep.AppendLies
namespace Go.Proofs.Ytolbegjjakobeaa
open Go.ChangeShapes Go.WideShapes Go.RowKit Go.Maps
set_option maxRecDepth 100000
theorem rcopy_nil (w : World) : Calls Try.prog 29 #[.pointer none] w fun e w' => e = .returned (.pointer none) ∧ w = w' := by
  go_enter Try.func29, Try.ntmps29
  go_wp2
  go_ret
  exact ⟨rfl, rfl⟩
/-- A copy by the document: blocks of its own. -/
structure RCp (w w' : World) (B' g' : Nat) (L : List Sc) : Prop where
  dev : Rv w' B' g' L
  below : Below w.heap.size w w'
  new : w.heap.size ≤ B' ∧ w.heap.size ≤ g'
/-- The cells of a row, written out. -/
theorem Row.news {w : World} {g : Nat} {L : List Sc} (h : Row w g L) : ∃ news : List Value, news.length = L.length * 3 ∧ (∀ j u, news[j]? = some u → w.cell? ⟨g, j, none⟩ = some u) ∧ (∀ u ∈ news, u.oneCell' = true) ∧
    ∀ (cur : Array Value), cur.toList.take (L.length * 3) = news → ∀ (i : Nat) (x : Sc), L[i]? = some x → cur[i * 3]? = some (.string x.sure) ∧ cur[i * 3 + 1]? = some (.string x.shows) ∧ cur[i * 3 + 2]? = some (.bool x.w) := by
  obtain ⟨cur, hi, hc⟩ := h
  have hget : ∀ j, j < L.length * 3 → ∃ u, cur[j]? = some u ∧ u.oneCell' = true := fun j hj => by
    have hx := List.getElem?_eq_getElem (show j / 3 < L.length by omega)
    obtain ⟨h1, h2, h3⟩ := hc _ _ hx
    have : j % 3 = 0 ∨ j % 3 = 1 ∨ j % 3 = 2 := by omega
    rcases this with e | e | e
    · rw [show j / 3 * 3 = j by omega] at h1; exact ⟨_, h1, rfl⟩
    · rw [show j / 3 * 3 + 1 = j by omega] at h2; exact ⟨_, h2, rfl⟩
    · rw [show j / 3 * 3 + 2 = j by omega] at h3; exact ⟨_, h3, rfl⟩
  have hsz : L.length * 3 ≤ cur.size := by
    by_cases h0 : L.length = 0
    · omega
    · obtain ⟨u, hu, _⟩ := hget (L.length * 3 - 1) (by omega)
      have := (Array.getElem?_eq_some_iff.1 hu).1
      omega
  refine ⟨cur.toList.take (L.length * 3), by rw [List.length_take]; simp; omega, fun j u hu => ?_, fun u hu => ?_, fun cur' he i x hx => ?_⟩
  · rw [List.getElem?_take] at hu
    split at hu
    · rw [hi.cell j]; simpa using hu
    · cases hu
  · obtain ⟨j, hj⟩ := List.getElem?_of_mem hu
    rw [List.getElem?_take] at hj
    split at hj
    · rename_i hlt
      obtain ⟨u', hu', h1⟩ := hget j hlt
      rw [Array.getElem?_toList, hu'] at hj
      injection hj with hj
      rw [← hj]; exact h1
    · cases hj
  · have hlt := (List.getElem?_eq_some_iff.1 hx).1
    have key : ∀ j, j < L.length * 3 → cur'[j]? = cur[j]? := fun j hj => by
      have := congrArg (fun l : List Value => l[j]?) he
      simp only [List.getElem?_take, if_pos hj, Array.getElem?_toList] at this
      exact this
    rw [key _ (by omega), key _ (by omega), key _ (by omega)]
    exact hc i x hx
theorem grow2 {w w' : World} (h : Below w.drew.heap.size w.drew w') : w.grownBy w' none := ⟨h.os, h.tape, h.output, h.size, fun i hi _ => h.block i hi⟩
theorem below_nil {w w' : World} (h : w.grownBy w' (Value.slice none 0 0).ownBlock) : Below w.heap.size w w' := ⟨h.os, h.tape, h.output, h.size, fun k hk => h.block k hk (by show some k ≠ none; simp)⟩
set_option maxHeartbeats 4000000 in
theorem rcopy_any {w : World} {B g : Nat} {L : List Sc} (h : Rv w B g L) : Calls Try.prog 29 #[.pointer (some ⟨B, 0, none⟩)] w
    fun e w' => ∃ B' g', e = .returned (.pointer (some ⟨B', 0, none⟩)) ∧ RCp w w' B' g' L := by
  obtain ⟨w1, e1⟩ : ∃ w1, w.alloc (.cells #[.slice none 0 0] 40) = w1 := ⟨_, rfl⟩
  have i1 : Is w1 w.heap.size 40 #[.slice none 0 0] := by rw [← e1]; exact Is.new _ _ _
  have b1 : Below w.heap.size w w1 := by rw [← e1]; exact below_alloc (Below.refl _ _) _
  have z1 : w1.heap.size = w.heap.size + 1 := by rw [← e1]; simp
  have h1 := (h.below b1).drew
  obtain ⟨news, n1, n2, n3, n4⟩ := h1.row.news
  obtain ⟨cap, ho⟩ := h1.one
  have c0 := ho.cell 0
  have d0 := i1.cell 0
  simp at c0 d0
  have hinfo := info90
  obtain ⟨ti, ht⟩ : ∃ ti, Try.prog.info? 90 = some ti := by
    cases hq : Try.prog.info? 90 with
    | none => rw [hq] at hinfo; cases hinfo
    | some i => exact ⟨i, rfl⟩
  rw [ht] at hinfo
  simp at hinfo
  obtain ⟨t1, t2, t3⟩ := hinfo
  have hlo := h.lo
  have hhi := h.hi
  obtain ⟨n, hn⟩ : ∃ n, L.length = n := ⟨_, rfl⟩
  have HN := Lib.hid hn
  rw [hn] at c0 n1 n4 hlo hhi
  have hadd : ∀ j, (⟨g, 0, none⟩ : Addr).add j = ⟨g, j, none⟩ := fun j => by unfold Addr.add; split <;> simp_all
  have N2 := Lib.hid (show ∀ j u, news[j]? = some u → w1.drew.cell? ((⟨g, 0, none⟩ : Addr).add j) = some u from fun j u hj => by rw [hadd]; exact n2 j u hj)
  have N3 := Lib.hid n3
  have N4 := Lib.hid n4
  have hown0 : w1.drew.ownsRow w1.heap.size 90 3 (.slice none 0 0) 0 [] := World.ownsRow_nil _ _ _ _
  have HO := Lib.hid hown0
  have HI := Lib.hid i1
  have HB1 := Lib.hid b1
  have HSM := Lib.hid h.small
  have HT := Lib.hid ht
  have HT1 := Lib.hid t1; have HT2 := Lib.hid t2; have HT3 := Lib.hid t3
  have HZ := Lib.hid z1
  have HN1 := Lib.hid n1
  have HLO := Lib.hid hlo
  have HHI := Lib.hid hhi
  clear h h1 n2 n3 n4 hadd ho hown0 i1 b1 ht t1 t2 t3 hn z1 n1 hlo hhi
  go_enter Try.func29, Try.ntmps29
  go_wp2
  go_region_law (refine step_append_lies w1.drew rfl (.tmp 12) (.tmp 16) 38 rfl w1.heap.size 90 ti _ 3 40 Try.underlying38 HT.out HT1.out HT2.out HT3.out rfl (by decide) (.slice none 0 0) 0 [] (by simp [Act.eval]) HO.out ⟨g, 0, none⟩ n cap news (by simp [Act.eval]) HN1.out N2.out N3.out (by have := HLO.out; omega) (by have := HHI.out; unfold maxLen; omega) (by have := HHI.out; omega) (Nat.le_refl _) _ rfl ?_; intro g' cap' w2 hrow hgr hg hlt; (have hb2 := below_nil hgr); (have d2 := (HI.out.kept (grow2 hb2) (by simp)).cell 0); (have f2 := (HI.out.kept (grow2 hb2) (by simp)).frozen 0); simp at d2)
  all_goals
    have HR := Lib.hid hrow
    have HG := Lib.hid hg
    have HB2 := Lib.hid hb2
    clear hrow hg hb2 hgr hlt d2 f2
    go_wp2
    go_ret
    have hz := HZ.out
    have hg' : g' = w1.heap.size := by
      rcases HG.out with h | h
      · cases h
      · exact h
    have hrow : Row w2 g' L := by
      obtain ⟨_, h2⟩ := HR.out
      rcases h2 with ⟨e, _⟩ | ⟨g2, cap2, cur, e, _, hcell, _, _, _, htk⟩
      · cases e
      · injection e with e _ _
        injection e with e
        injection e with e _ _
        subst e
        refine ⟨cur, hcell, N4.out cur ?_⟩
        simpa using htk
    have hi2 : Is w2 w.heap.size 40 #[.slice none 0 0] := HI.out.kept (grow2 HB2.out) (by simp)
    have hi3 := hi2.put 0 (.slice (some ⟨g', 0, none⟩) n cap')
    have k3 := kp_set w2 w.heap.size 0 (.slice (some ⟨g', 0, none⟩) n cap')
    have hbw : Below w.heap.size w w2 := HB1.out.trans (⟨HB2.out.os, HB2.out.tape, HB2.out.output, HB2.out.size, fun k hk => HB2.out.block k (by show k < w1.heap.size; omega)⟩)
    refine ⟨_, g', rfl, ⟨⟨cap', by rw [HN.out]; simpa using hi3⟩, hrow.kept k3 (by simp; omega), HSM.out, by rw [HN.out]; exact HLO.out, by rw [HN.out]; exact HHI.out⟩, hbw.trans (k3.below hbw.size (by simp)), by omega, by omega⟩
end Go.Proofs.Ytolbegjjakobeaa
