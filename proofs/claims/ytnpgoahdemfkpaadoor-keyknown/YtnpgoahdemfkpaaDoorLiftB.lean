/- What arguments say that are arrays: two bytes; two slices of texts. Conditions: none. -/
import Derived.Test.YtnpgoahdemfkpaaDoorLift
namespace Go.Proofs.YtnpgoahdemfkpaaDoor
open Go.ChangeShapes Go.WideShapes Go.ChangeAt Go.RowKit Go.Deep Go.Path
set_option maxRecDepth 100000
section
variable {H : Type} {enc : TypeId × Value → H} {W : World}
theorem cell5 : Tryd.prog.cellsOf 5 = 1 := by kernel_rfl
theorem cell22 : Tryd.prog.cellsOf 22 = 1 := by kernel_rfl
theorem cell47 : Tryd.prog.cellsOf 47 = 2 := by kernel_rfl
theorem cell52 : Tryd.prog.cellsOf 52 = 2 := by kernel_rfl
theorem wf_nat8 {x : Int} (h : (Lit.int .u8 x).wf = true) : ∃ n : Nat, x = (n : Int) ∧ n < 256 := by
  have h' : 0 ≤ x ∧ x ≤ 255 := by simpa [Lit.wf, IntKind.min, IntKind.max, IntKind.bits, IntKind.signed] using h
  exact ⟨x.toNat, by omega, by omega⟩
theorem names_cells {cs : List Value} {x : DataW H × List MemPlace} {sp : Nat → Bool} {hd : Bool} {fuel : Nat} (hf : DataW.trod enc Tryd.prog W 0 sp hd fuel 22 cs = some x) :
    ∃ (A : Option Addr) (xs : List B) (cap : Nat), cs = [.slice A xs.length cap] ∧ xs.length ≤ maxLen ∧ xs.length ≤ cap ∧ (∀ x ∈ xs, x.length ≤ maxLen) ∧ Rs W A xs := by
  rcases open_slice Tryd.underlying22 hf with ⟨hcs, _⟩ | ⟨ad, len, cap, m, n, D, Pl, hcs, _, hl, hcap, hm, _, hi⟩
  · exact ⟨none, [], 0, hcs, by simp, by simp, by simp, Rs.nil⟩
  · have hle : len ≤ m := by rw [hm]; split <;> omega
    have key : ∀ i, i < len → ∃ y : B, y.length ≤ maxLen ∧ (ad.add i).block < W.heap.size ∧ W.cell? (ad.add i) = some (.string (bs y)) := fun i hlt => by
      obtain ⟨cs, hc, ht⟩ := hi i (by omega)
      rw [cells9, Nat.mul_one] at hc
      obtain ⟨s, rfl, _, ws⟩ := DataW.trod_string Tryd.underlying9 ht
      obtain ⟨_, _, hat⟩ := World.cells?_some hc
      have a0 := hat 0 (by omega)
      rw [add_zero] at a0
      exact ⟨s.data.toList, by rw [← Lib.size_eq]; exact ws, lt_of_cell a0, by rw [bs_of]; exact a0⟩
    obtain ⟨xs, rfl, hx⟩ := pick len key
    refine ⟨some ad, xs, cap, hcs, by omega, by omega, fun x hx' => ?_, ?_⟩
    · obtain ⟨i, hi⟩ := List.getElem?_of_mem hx'
      exact (hx i x hi).1
    · rcases xs with _ | ⟨y, r⟩
      · exact Rs.nil
      · have h0 := (hx 0 y rfl).2
        rw [add_zero] at h0
        have hp := plain_of h0.2
        refine .inr ⟨ad.block, ad.off, by rw [← hp], h0.1, fun i x hi => ?_⟩
        have := (hx i x hi).2.2
        rcases i with _ | i
        · rw [add_zero, hp] at this; exact this
        · rw [add_succ] at this; exact this
theorem okWide_array {P : Program} {w : World} {r : Reach} {base n : Nat} {t e : TypeId} {v : Value} (ht : P.underlying t = some (.array n e)) (h : Value.okWide P w r base t v) : ∃ cs, v = .agg cs ∧ cs.size = P.cellsOf t := by
  simp only [Value.okWide, ht] at h
  obtain ⟨cs, h1, h2, _⟩ := h
  exact ⟨cs, h1, h2⟩
theorem u8two_of {v : Value} {d : DataW H} {ps : List MemPlace} {sp : Nat → Bool} {hd : Bool} {r : Reach} {b0 : Nat} (hval : Value.okWide Tryd.prog W r b0 47 v) (h : DataW.Trod enc Tryd.prog W 0 sp hd 47 v d ps) :
    ∃ m n : Nat, m < 256 ∧ n < 256 ∧ v = .agg #[.int .u8 m, .int .u8 n] := by
  obtain ⟨cs, rfl, hsz⟩ := okWide_array Tryd.underlying47 hval
  rw [cell47] at hsz
  obtain ⟨fuel, hf⟩ := h
  obtain ⟨xs, m, _, _, hlen, hxl, he⟩ := DataW.trod_array Tryd.underlying47 hf
  obtain ⟨L, hL⟩ : ∃ L, L = cs.toList := ⟨_, rfl⟩
  have hLl : L.length = 2 := by rw [hL, Array.length_toList, hsz]
  have hcs : cs = L.toArray := by rw [hL]
  subst hcs
  match L, hLl with
  | [c0, c1], _ =>
    match xs, hxl with
    | [y0, y1], _ =>
      have f0 := he 0 (by decide)
      have f1 := he 1 (by decide)
      simp [Value.cells, cell5] at f0 f1
      obtain ⟨k, hk, _, wk⟩ := DataW.trod_int Tryd.underlying5 f0
      obtain ⟨q, hq, _, wq⟩ := DataW.trod_int Tryd.underlying5 f1
      injection hk with hk; injection hq with hq
      subst hk; subst hq
      obtain ⟨k', rfl, hk'⟩ := wf_nat8 wk
      obtain ⟨q', rfl, hq'⟩ := wf_nat8 wq
      exact ⟨k', q', hk', hq', rfl⟩
theorem names2_of {v : Value} {d : DataW H} {ps : List MemPlace} {sp : Nat → Bool} {hd : Bool} {r : Reach} {b0 : Nat} (hval : Value.okWide Tryd.prog W r b0 52 v) (h : DataW.Trod enc Tryd.prog W 0 sp hd 52 v d ps) :
    ∃ (A : Option Addr) (xs : List B) (c : Nat) (C : Option Addr) (zs : List B) (d : Nat), v = .agg #[.slice A xs.length c, .slice C zs.length d] ∧ xs.length ≤ maxLen ∧ xs.length ≤ c ∧ (∀ x ∈ xs, x.length ≤ maxLen) ∧ Rs W A xs ∧ zs.length ≤ maxLen ∧ zs.length ≤ d ∧ (∀ x ∈ zs, x.length ≤ maxLen) ∧ Rs W C zs := by
  obtain ⟨cs, rfl, hsz⟩ := okWide_array Tryd.underlying52 hval
  rw [cell52] at hsz
  obtain ⟨fuel, hf⟩ := h
  obtain ⟨xs, m, _, _, hlen, hxl, he⟩ := DataW.trod_array Tryd.underlying52 hf
  obtain ⟨L, hL⟩ : ∃ L, L = cs.toList := ⟨_, rfl⟩
  have hLl : L.length = 2 := by rw [hL, Array.length_toList, hsz]
  have hcs : cs = L.toArray := by rw [hL]
  subst hcs
  match L, hLl with
  | [c0, c1], _ =>
    match xs, hxl with
    | [y0, y1], _ =>
      have f0 := he 0 (by decide)
      have f1 := he 1 (by decide)
      simp [Value.cells, cell22] at f0 f1
      obtain ⟨A, x, c, hA, a1, a2, a3, a4⟩ := names_cells f0
      obtain ⟨C, z, d', hC, b1, b2, b3, b4⟩ := names_cells f1
      injection hA with hA; injection hC with hC
      subst hA; subst hC
      exact ⟨A, x, c, C, z, d', rfl, a1, a2, a3, a4, b1, b2, b3, b4⟩
end
end Go.Proofs.YtnpgoahdemfkpaaDoor
