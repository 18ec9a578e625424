/- The document's allocator: cells of its list that are written; what its calls leave of the other one; Hold. Conditions: none. The document's Hold and Drop of a reference that is not the last one. Conditions: none. The document's Drop. Conditions: none. The document's Drop, walked. Conditions: none. The document's Commit. Conditions: none. The document's Alloc. Conditions: none. Both allocators beside each other; one call of both. Conditions: none. Whatever is done with an allocator, it answers, and holds, what the document says. Conditions: none. -/
import Derived.Test.YtnpjbddannkgfaaLdA
namespace Go.Proofs.Ytnpjbddannkgfaa
open Go.ChangeShapes Go.WideShapes Go.RowKit Go.Maps Go.Spans Go.Alloc
set_option maxRecDepth 100000
/-- A list of chains, one of which has become another. -/
theorem kcs_set (l : List (Value × Ch)) (i : Nat) (x : Value × Ch) (hx : l[i]? = some x) (c : Ch) (o : Nat) (u : Value) (ho : (o = 1 ∧ u = .int .i64 (c.refs : Nat) ∧ c.sure = x.2.sure) ∨ (o = 2 ∧ u = .bool c.sure ∧ c.refs = x.2.refs)) :
    (kcs l).set (3 * i + o) u = kcs (l.set i (x.1, c)) := by
  induction l generalizing i with
  | nil => simp at hx
  | cons e ys ih =>
    have e1 : ∀ (z : Value × Ch) (zs : List (Value × Ch)), kcs (z :: zs) = z.1 :: .int .i64 (z.2.refs : Nat) :: .bool z.2.sure :: kcs zs := fun _ _ => rfl
    cases i with
    | zero =>
      simp at hx; subst hx
      rw [List.set_cons_zero, e1, e1]
      rcases ho with ⟨rfl, rfl, hs⟩ | ⟨rfl, rfl, hs⟩
      · simp [hs]
      · simp [hs]
    | succ i =>
      have := ih i (by simpa using hx)
      rw [List.set_cons_succ, e1, e1, ← this]
      have e2 : 3 * (i + 1) + o = 3 * i + o + 3 := by omega
      rw [e2]
      rfl
section
variable {w w' : World} {B R hF hW f n : Nat} {fr wt : Nat → Bool} {vL : Value} {ks : List (Value × Ch)}
/-- The blocks that its calls turn. -/
def rb (R hF hW : Nat) (vL : Value) : List Nat := R :: hF :: hW :: ob vL
theorem Rf.xs (h : Rf w B R hF hW f n fr wt vL ks) : ∀ x ∈ rb R hF hW vL, (∃ t cs, Is w x t cs ∧ (t = 72 ∨ t = 4 ∨ t = 85)) ∧ B ≤ x := by
  intro x hx
  simp only [rb, List.mem_cons] at hx
  have hlo := h.lo
  rcases hx with rfl | rfl | rfl | hx
  · exact ⟨⟨72, _, h.one, .inl rfl⟩, hlo.1⟩
  · obtain ⟨cur, hi, _⟩ := h.fb
    exact ⟨⟨4, _, hi, .inr (.inl rfl)⟩, hlo.2.1⟩
  · obtain ⟨cur, hi, _⟩ := h.wb
    exact ⟨⟨4, _, hi, .inr (.inl rfl)⟩, hlo.2.2⟩
  · rcases h.row.2 with ⟨e, h0⟩ | ⟨g, cap, cur, e, hb, hi, _⟩
    · subst e; simp [ob, Value.ownBlock] at hx
    · subst e
      have : x = g := by simpa [ob, Value.ownBlock] using hx
      subst this
      exact ⟨⟨85, cur, hi, .inr (.inr rfl)⟩, hb⟩
/-- What the document's calls leave of the program's allocator. -/
theorem Oi.rf {BA : Nat} {wA : World} {A : Nat} {xs : List Sp} {L : List Ch} {W : List Nat} (ha : Oi BA wA w A f n xs L W) (h : Rf w B R hF hW f n fr wt vL ks) (hB : BA ≤ B) (hk : Kp w w' (rb R hF hW vL)) : Oi BA wA w' A f n xs L W := by
  obtain ⟨S, v, bc, bw, ho, hi⟩ := ha
  have hx := h.xs
  have off : ∀ (k : Nat) (t : TypeId) (cs : Array Value), Is w k t cs → t ≠ 72 → t ≠ 4 → t ≠ 85 → k ∉ rb R hF hW vL := fun k t cs hk' h1 h2 h3 hm => by
    obtain ⟨⟨t', cs', hi', ht⟩, _⟩ := hx k hm
    rcases ht with rfl | rfl | rfl
    · exact hk'.ne hi' h1 rfl
    · exact hk'.ne hi' h2 rfl
    · exact hk'.ne hi' h3 rfl
  have hN : NoI w (rb R hF hW vL) := fun g hg cs hi' => off g 3 cs hi' (by decide) (by decide) (by decide) hg
  have hv : ∀ g ∈ ob v, g ∉ rb R hF hW vL := fun g hg => by
    obtain ⟨cs, hv⟩ := ho.am.set.vs g hg
    exact off g 101 cs hv (by decide) (by decide) (by decide)
  have hm : ∀ b : Nat, (∀ cs t, ¬ Is w b t cs) → b ∉ rb R hF hW vL := fun b hb hm => by
    obtain ⟨⟨t', cs', hi', ht⟩, _⟩ := hx b hm
    exact hb _ _ hi'
  exact ⟨S, v, bc, bw, ⟨⟨hk.is ho.am.one (off _ _ _ ho.am.one (by decide) (by decide) (by decide)), ho.am.set.kept hk (off _ _ _ ho.am.set.one (by decide) (by decide) (by decide)) hv, ho.am.ch.kept hk (hm bc ho.am.ch.no) hN, ho.am.wt.kept hk (hm bw ho.am.wt.no), ho.am.ne⟩, ho.loA, ho.lo, ho.below.trans (hk.below ho.lt (fun x hx' => Nat.le_trans hB (hx x hx').2))⟩, hi⟩
/-- A cell of the list is written. -/
theorem Rf.setAt (h : Rf w B R hF hW f n fr wt vL ks) {i : Nat} {x : Value × Ch} (hx : ks[i]? = some x) {c : Ch} (hc : c.secs = x.2.secs) {o : Nat} {u : Value} (ho : (o = 1 ∧ u = .int .i64 (c.refs : Nat) ∧ c.sure = x.2.sure) ∨ (o = 2 ∧ u = .bool c.sure ∧ c.refs = x.2.refs))
    {ad : Addr} {cap m : Nat} (hv : vL = .slice (some ad) m cap) :
    Rf (w.setCell ⟨(ad.add (i * 3)).block, (ad.add (i * 3)).off + o, none⟩ u) B R hF hW f n fr wt vL (ks.set i (x.1, c)) ∧ Kp w (w.setCell ⟨(ad.add (i * 3)).block, (ad.add (i * 3)).off + o, none⟩ u) (rb R hF hW vL) ∧ w.frozen? ⟨(ad.add (i * 3)).block, (ad.add (i * 3)).off + o, none⟩ = false := by
  have hlt := (List.getElem?_eq_some_iff.1 hx).1
  obtain ⟨hl0, h3⟩ := h.row
  rcases h3 with ⟨e, h0⟩ | ⟨g, cap', cur, e, hb, hi, hn, hcap, hsz, htk⟩
  · omega
  · rw [hv] at e
    injection e with e e2 ecap
    injection e with e
    subst e
    have e3 : (⟨g, 0, none⟩ : Addr).add (i * 3) = ⟨g, 3 * i, none⟩ := by rw [add_at, Nat.zero_add, Nat.mul_comm]
    rw [e3]
    simp only
    have hi' : Is w g 85 cur := hi
    have hg : g ∈ rb R hF hW vL := by rw [hv]; simp [rb, ob, Value.ownBlock]
    have kk : Kp w (w.setCell ⟨g, 3 * i + o, none⟩ u) [g] := (Kp.refl w [g]).put ⟨g, 3 * i + o, none⟩ _ (.inl (by simp))
    have hX : ∀ e : Nat, e ≠ 85 → ∀ g' ∈ [g], ∀ cs, ¬ Is w g' e cs := fun e he g' hg' cs hi2 => by
      simp at hg'; subst hg'
      exact hi2.ne hi' he rfl
    obtain ⟨c1, i1, _⟩ := h.fb
    obtain ⟨c2, i2, _⟩ := h.wb
    refine ⟨⟨kk.is h.one (fun hm => hX 72 (by decide) _ hm _ h.one), h.fb.kept kk (fun hm => hX 4 (by decide) _ hm _ i1), h.wb.kept kk (fun hm => hX 4 (by decide) _ hm _ i2), h.ne, h.lo, ?_, ?_⟩, kk.more (fun y hy => by simp at hy; subst hy; exact hg), hi'.frozen _⟩
    · have hs : (ks.set i (x.1, c)).length = ks.length := List.length_set
      rw [hs]
      refine ⟨by rw [← hl0, kcs_len, kcs_len, hs], .inr ⟨g, cap', cur.setIfInBounds (3 * i + o) u, ?_, hb, ?_, hn, hcap, by simpa using hsz, ?_⟩⟩
      · rw [hv, e2, ecap]
      · exact hi'.put _ _
      · rw [Array.toList_setIfInBounds, List.take_set, htk]
        exact kcs_set ks i x hx c o u ho
    · intro k hk
      rcases List.mem_or_eq_of_mem_set hk with hk | rfl
      · exact row_kpe (h.rows k hk) kk (hX 3 (by decide))
      · simp only
        rw [hc]
        exact row_kpe (h.rows x (List.mem_of_getElem? hx)) kk (hX 3 (by decide))
end
end Go.Proofs.Ytnpjbddannkgfaa
namespace Go.Proofs.Ytnpjbddannkgfaa
open Go.ChangeShapes Go.WideShapes Go.RowKit Go.Maps Go.Spans Go.Alloc
set_option maxRecDepth 100000
theorem setC_at {L : List Ch} {p : Int} {g : Ch → Ch} {k : Nat} {c : Ch} (hs : Srt L) (hk : L[k]? = some c) (hp : (c.place : Int) = p) : setC L p g = L.set k (g c) := by
  apply List.ext_getElem?
  intro j
  unfold setC
  rw [List.getElem?_map, List.getElem?_set]
  have hkl := (List.getElem?_eq_some_iff.1 hk).1
  have hkc : L[k] = c := (List.getElem?_eq_some_iff.1 hk).2
  by_cases e : k = j
  · subst e
    rw [hk, if_pos rfl, if_pos hkl, Option.map_some, if_pos hp]
  · rw [if_neg e]
    cases hj : L[j]? with
    | none => rfl
    | some d =>
      have hjl := (List.getElem?_eq_some_iff.1 hj).1
      have hjd : L[j] = d := (List.getElem?_eq_some_iff.1 hj).2
      have hpw := List.pairwise_iff_getElem.1 hs
      rw [Option.map_some, if_neg]
      intro e2
      rcases Nat.lt_or_ge j k with h | h
      · have := hpw j k hjl hkl h
        rw [hjd, hkc] at this
        omega
      · have := hpw k j hkl hjl (by omega)
        rw [hjd, hkc] at this
        omega
theorem map_set {ks : List (Value × Ch)} {L : List Ch} (hs : ks.map (·.2) = L) (k : Nat) (x : Value × Ch) : (ks.set k x).map (·.2) = L.set k x.2 := by
  rw [List.map_set, hs]
theorem at_L {ks : List (Value × Ch)} {L : List Ch} (hs : ks.map (·.2) = L) {k : Nat} {y : Value × Ch} (hk : ks[k]? = some y) : L[k]? = some y.2 := by
  rw [← hs, List.getElem?_map, hk]; rfl
section
variable {w : World} {B R hF hW f n : Nat} {fr wt : Nat → Bool} {vL : Value} {ks : List (Value × Ch)} {xs : List Sp} {L : List Ch} {W : List Nat}
set_option maxHeartbeats 2000000 in
theorem rhold_c (h : Rf w B R hF hW f n fr wt vL ks) (hs : ks.map (·.2) = L) (hi : Go.Alloc.Inv f n xs L W) (p : Int) (hp : i64r p) :
    Calls Try.prog 43 #[.pointer (some ⟨R, 0, none⟩), .int .i64 p] w fun e w' => e = .returned (.int .i64 (holdE L p)) ∧ ∃ ks', Rf w' B R hF hW f n fr wt vL ks' ∧ ks'.map (·.2) = holdL L p ∧ Kp w w' (rb R hF hW vL) := by
  unfold holdE holdL
  cases hf : findC L p with
  | none =>
    have HA := Lib.hid (at_none h hs hi p hp hf)
    have HR := Lib.hid h
    have HS := Lib.hid hs
    clear h hs hi hf hp
    go_enter Try.func43, Try.ntmps43
    go_wp2_with fail
    refine HA.out.mono ?_; rintro e w1 ⟨rfl, rfl⟩
    go_wp2_with fail
    go_ret
    exact ⟨rfl, ks, HR.out, HS.out, Kp.refl _ _⟩
  | some c =>
    obtain ⟨k, y, hk, rfl, hat⟩ := at_some h hs hi p hp hf
    obtain ⟨hcm, hcp⟩ := findC_some hf
    have hrf := hi.refs y.2 hcm
    obtain ⟨ad, cap, P, c', e1, e2, d0, d1, d2, d3⟩ := h.at hk
    obtain ⟨_, _, _, _, a4⟩ := h.cells
    have hlt := (List.getElem?_eq_some_iff.1 hk).1
    obtain ⟨m, hm⟩ : ∃ m, ks.length = m := ⟨_, rfl⟩
    have hml : m ≤ 4096 := by have := hi.llen; rw [← hs, List.length_map, hm] at this; exact this
    rw [hm] at e1 hlt
    rw [e1] at a4
    obtain ⟨q, hq⟩ : ∃ q, y.2.refs = q := ⟨_, rfl⟩
    have hst := h.setAt (c := { y.2 with refs := y.2.refs + 1 }) hk rfl (.inl ⟨rfl, rfl, rfl⟩) e1
    have hmap := setC_at (g := fun c => { c with refs := c.refs + 1 }) hi.srt (at_L hs hk) hcp
    rw [← map_set hs k (y.1, { y.2 with refs := y.2.refs + 1 })] at hmap
    simp only [hq] at hrf d1 hst hmap ⊢
    obtain ⟨A3, hA3⟩ : ∃ A3, ad.add (k * 3) = A3 := ⟨_, rfl⟩
    rw [hA3] at d1 hst
    have HA := Lib.hid hat
    have HR := Lib.hid h
    have HS := Lib.hid hs
    have HST := Lib.hid hst
    have HM := Lib.hid hmap
    have eq1 : ((q + 1 : Nat) : Int) = (q : Int) + 1 := by omega
    rw [eq1] at HST
    obtain ⟨r, hr⟩ : ∃ r : Int, (q : Int) = r := ⟨_, rfl⟩
    have hrb : 1 ≤ r ∧ r ≤ 65535 := by omega
    have hrq : r = 65535 ↔ q = 65535 := by omega
    rw [hr] at HST d1
    have hfz := HST.out.2.2
    clear h hs hi hf hp hk hat hcm hcp e2 d0 d2 d3 hst hmap hm eq1 hq e1 hml hr hrf
    by_cases hq6 : q = 65535
    · have hq7 : (65535 : Int) ≤ r := by omega
      simp only [if_pos hq6]
      clear hq6 hrq
      go_enter Try.func43, Try.ntmps43
      go_wp2_with fail
      refine HA.out.mono ?_; rintro e w1 ⟨rfl, rfl⟩
      go_wp2_with fail
      go_ret
      exact ⟨rfl, ks, HR.out, HS.out, Kp.refl _ _⟩
    · have hq7 : ¬ (65535 : Int) ≤ r := by omega
      simp only [if_neg hq6]
      clear hq6 hrq
      go_enter Try.func43, Try.ntmps43
      go_wp2_with fail
      refine HA.out.mono ?_; rintro e w1 ⟨rfl, rfl⟩
      go_wp2_with fail
      go_ret
      exact ⟨rfl, _, HST.out.1, HM.out.symm, HST.out.2.1⟩
end
end Go.Proofs.Ytnpjbddannkgfaa
namespace Go.Proofs.Ytnpjbddannkgfaa
open Go.ChangeShapes Go.WideShapes Go.RowKit Go.Maps Go.Spans Go.Alloc
set_option maxRecDepth 100000
section
variable {w w' : World} {B R hF hW f n : Nat} {fr wt : Nat → Bool} {vL : Value} {ks : List (Value × Ch)}
theorem Rf.putW (h : Rf w B R hF hW f n fr wt vL ks) (k : Nat) (u : Bool) : Rf (w.setCell ⟨hW, k, none⟩ (.bool u)) B R hF hW f n fr (fun j => if j = k then u else wt j) vL ks ∧ Kp w (w.setCell ⟨hW, k, none⟩ (.bool u)) [hW] := by
  have kk : Kp w (w.setCell ⟨hW, k, none⟩ (.bool u)) [hW] := (Kp.refl w [hW]).put ⟨hW, k, none⟩ _ (.inl (by simp))
  refine ⟨⟨kk.is h.one (fun hm => h.wb.is (e := 72) (by decide) R hm _ h.one), h.fb.kept kk (fun hm => h.ne (by simp at hm; exact hm)), h.wb.put k u, h.ne, h.lo, row_kpe h.row kk (h.wb.is (by decide)), fun x hx => row_kpe (h.rows x hx) kk (h.wb.is (by decide))⟩, kk⟩
theorem Rf.ext (h : Rf w B R hF hW f n fr wt vL ks) {fr' wt' : Nat → Bool} (h1 : ∀ j, j < n → fr j = fr' j) (h2 : ∀ j, j < n → wt j = wt' j) : Rf w B R hF hW f n fr' wt' vL ks :=
  ⟨h.one, h.fb.ext h1, h.wb.ext h2, h.ne, h.lo, h.row, h.rows⟩
/-- What Drop does with its list. -/
theorem del_steps {V : World} {P0 : Option Addr} {m C0 : Nat} (hR : Rf V B R hF hW f n fr wt (.slice P0 m C0) ks) (hm : ks.length = m) (hl : m ≤ 4096) {k : Nat} (hk : k < m) (Ca Cb : Nat) {Pa Pb : Option Addr} (ha : 0 < k → Pa = P0) (hb2 : ∀ ad, k + 1 < m → P0 = some ad → Pb = some (ad.add ((k + 1) * 3))) :
    ∃ P1 C1 w1, (Builtin.append_ #[70, 70] 70 #[.slice none 0 0, .slice Pa k Ca]).run Try.prog V = .ok (.slice P1 k C1) w1 ∧ w1.cell? ⟨R, 4, none⟩ = some (.slice P0 m C0) ∧
    ∃ P3 C3 w4, (Builtin.append_ #[70, 70] 70 #[.slice P1 k C1, .slice Pb (m - (k + 1)) Cb]).run Try.prog w1 = .ok (.slice P3 (m - 1) C3) w4 ∧ w4.frozen? ⟨R, 4, none⟩ = false ∧ (∃ v, w4.cell? ⟨R, 4, none⟩ = some v) ∧
      Rf (w4.setCell ⟨R, 4, none⟩ (.slice P3 (m - 1) C3)) B R hF hW f n fr wt (.slice P3 (m - 1) C3) (ks.take k ++ ks.drop (k + 1)) ∧ Kp V (w4.setCell ⟨R, 4, none⟩ (.slice P3 (m - 1) C3)) [R] := by
  have hBV := hR.lt
  have hshape : ∀ y ∈ ks, ∃ P n c, y.1 = .slice P n c := fun y hy => by
    obtain ⟨P, C, e⟩ := own_shape (hR.rows y hy)
    exact ⟨P, _, C, e⟩
  have hsplit : kcs ks = kcs (ks.take k) ++ kcs (ks.drop k) := by rw [← kcs_app, List.take_append_drop]
  have hsplit2 : kcs ks = kcs (ks.take (k + 1)) ++ kcs (ks.drop (k + 1)) := by rw [← kcs_app, List.take_append_drop]
  have hlt : (ks.take k).length = k := by rw [List.length_take]; omega
  have hlt2 : (ks.take (k + 1)).length = k + 1 := by rw [List.length_take]; omega
  have hld : (ks.drop (k + 1)).length = m - (k + 1) := by rw [List.length_drop]; omega
  obtain ⟨P1, C1, w1, r1, o1, g1⟩ := app_k (w := V) (base := V.heap.size) (v := .slice none 0 0) (l := []) (m := ks.take k) ⟨rfl, .inl ⟨rfl, rfl⟩⟩ (P := Pa) (fun j u hj => by
    have hjl := (List.getElem?_eq_some_iff.1 hj).1
    rw [kcs_len, hlt] at hjl
    obtain ⟨ad, e, _, hc⟩ := krow_cells hR.row j u (by rw [hsplit, List.getElem?_append_left (by rw [kcs_len, hlt]; exact hjl)]; exact hj)
    exact ⟨ad, (ha (by omega)).trans e, hc⟩) (fun y hy => hshape y (List.mem_of_mem_take hy)) Ca k hlt (by simp; omega) (Nat.le_refl _) 70
  simp only [List.length_nil, Nat.zero_add, List.nil_append] at r1 o1
  have b1 : Below V.heap.size V w1 := Below.grown_own (Below.refl _ V) (show V.ownsRow V.heap.size 85 3 (.slice none 0 0) 0 [] from ⟨rfl, .inl ⟨rfl, rfl⟩⟩) g1
  have hR1 := hR.below b1
  obtain ⟨_, _, _, _, a4⟩ := hR1.cells
  refine ⟨P1, C1, w1, r1, a4, ?_⟩
  obtain ⟨P3, C3, w4, r4, o4, g4⟩ := app_k (m := ks.drop (k + 1)) (P := Pb) o1 (fun j u hj => by
    have hjl := (List.getElem?_eq_some_iff.1 hj).1
    rw [kcs_len, hld] at hjl
    obtain ⟨ad, e, hadd, hc⟩ := krow_cells hR1.row ((k + 1) * 3 + j) u (by rw [hsplit2, List.getElem?_append_right (by rw [kcs_len, hlt2]; omega), kcs_len, hlt2, Nat.add_sub_cancel_left]; exact hj)
    refine ⟨_, hb2 ad (by omega) e, ?_⟩
    rw [hadd] at hc
    rw [hadd ((k + 1) * 3), add_at, Nat.add_assoc]
    exact hc) (fun y hy => hshape y (List.mem_of_mem_drop hy)) Cb (m - (k + 1)) hld (by rw [hlt]; omega) b1.size 70
  have e22 : (ks.take k).length + (m - (k + 1)) = m - 1 := by rw [hlt]; omega
  rw [hlt] at r4 o4
  have e23 : k + (m - (k + 1)) = m - 1 := by omega
  rw [e23] at r4 o4
  have b4 : Below V.heap.size V w4 := Below.grown_own b1 (by rw [hlt] at o1; exact o1) g4
  have hR4 := hR.below b4
  obtain ⟨rf, kk⟩ := hR4.setL (vL' := .slice P3 (m - 1) C3) (ks' := ks.take k ++ ks.drop (k + 1)) (low_row o4 hBV) (fun y hy => by
    rcases List.mem_append.1 hy with hy | hy
    · exact hR4.rows y (List.mem_of_mem_take hy)
    · exact hR4.rows y (List.mem_of_mem_drop hy))
  obtain ⟨_, _, _, _, a44⟩ := hR4.cells
  exact ⟨P3, C3, w4, r4, hR4.one.frozen 4, ⟨_, a44⟩, rf, (Kp.of_below b4 [R]).trans kk (fun y hy => .inl hy)⟩
end
end Go.Proofs.Ytnpjbddannkgfaa
namespace Go.Proofs.Ytnpjbddannkgfaa
open Go.ChangeShapes Go.WideShapes Go.RowKit Go.Maps Go.Spans Go.Alloc
set_option maxRecDepth 100000
section
variable {w : World} {B R hF hW f n : Nat} {fr wt : Nat → Bool} {vL : Value} {ks : List (Value × Ch)} {xs : List Sp} {L : List Ch} {W : List Nat}
theorem rdrop_none (h : Rf w B R hF hW f n fr wt vL ks) (hs : ks.map (·.2) = L) (hi : Go.Alloc.Inv f n xs L W) (p : Int) (hp : i64r p) (hf : findC L p = none) :
    Calls Try.prog 44 #[.pointer (some ⟨R, 0, none⟩), .int .i64 p] w fun e w' => e = .returned (.tuple #[.bool false, .int .i64 5]) ∧ w = w' := by
  have HA := Lib.hid (at_none h hs hi p hp hf)
  clear h hs hi hf hp
  go_enter Try.func44, Try.ntmps44
  go_wp2_with fail
  refine HA.out.mono ?_; rintro e w1 ⟨rfl, rfl⟩
  go_wp2_with fail
  go_ret2
  exact ⟨rfl, rfl⟩
set_option maxHeartbeats 2000000 in
theorem rdrop_down (h : Rf w B R hF hW f n fr wt vL ks) (hs : ks.map (·.2) = L) (hi : Go.Alloc.Inv f n xs L W) (p : Int) (hp : i64r p) {c : Ch} (hf : findC L p = some c) (hr : ¬ c.refs ≤ 1) :
    Calls Try.prog 44 #[.pointer (some ⟨R, 0, none⟩), .int .i64 p] w fun e w' => e = .returned (.tuple #[.bool false, .int .i64 0]) ∧ ∃ ks', Rf w' B R hF hW f n fr wt vL ks' ∧ ks'.map (·.2) = setC L p (fun c => { c with refs := c.refs - 1 }) ∧ Kp w w' (rb R hF hW vL) := by
  obtain ⟨k, y, hk, rfl, hat⟩ := at_some h hs hi p hp hf
  obtain ⟨hcm, hcp⟩ := findC_some hf
  have hrf := hi.refs y.2 hcm
  obtain ⟨ad, cap, P, c', e1, e2, d0, d1, d2, d3⟩ := h.at hk
  obtain ⟨_, _, _, _, a4⟩ := h.cells
  have hlt := (List.getElem?_eq_some_iff.1 hk).1
  obtain ⟨m, hm⟩ : ∃ m, ks.length = m := ⟨_, rfl⟩
  have hml : m ≤ 4096 := by have := hi.llen; rw [← hs, List.length_map, hm] at this; exact this
  rw [hm] at e1 hlt
  rw [e1] at a4
  have hst := h.setAt (c := { y.2 with refs := y.2.refs - 1 }) hk rfl (.inl ⟨rfl, rfl, rfl⟩) e1
  have hmap := setC_at (g := fun c => { c with refs := c.refs - 1 }) hi.srt (at_L hs hk) hcp
  rw [← map_set hs k (y.1, { y.2 with refs := y.2.refs - 1 })] at hmap
  have hk1 : (ks.set k (y.1, { y.2 with refs := y.2.refs - 1 }))[k]? = some (y.1, { y.2 with refs := y.2.refs - 1 }) := by rw [List.getElem?_set, if_pos rfl, if_pos (by rw [hm]; exact hlt)]
  have hm1 : (ks.set k (y.1, { y.2 with refs := y.2.refs - 1 })).length = m := by rw [List.length_set, hm]
  obtain ⟨_, _, _, _, a4'⟩ := hst.1.cells
  obtain ⟨ad', cap', P', c'', e1', e2', b0, b1, b2, b3⟩ := hst.1.at hk1
  rw [e1] at e1' a4'
  have hac : ad = ad' ∧ cap = cap' := by
    injection e1' with e5 e6 e7
    injection e5 with e5
    exact ⟨e5, e7⟩
  clear e1'
  obtain ⟨rfl, rfl⟩ := hac
  obtain ⟨q, hq⟩ : ∃ q, y.2.refs = q := ⟨_, rfl⟩
  simp only [hq] at hr hrf d1 hst hmap b1 a4'
  obtain ⟨r, hrr⟩ : ∃ r : Int, (q : Int) = r := ⟨_, rfl⟩
  have eq1 : ((q - 1 : Nat) : Int) = r - 1 := by omega
  rw [eq1] at hst b1 a4'
  rw [hrr] at d1
  have hrb : 1 < r ∧ r ≤ 65535 := by omega
  obtain ⟨w1, ew1⟩ : ∃ w1, w.setCell ⟨(ad.add (k * 3)).block, (ad.add (k * 3)).off + 1, none⟩ (.int .i64 (r - 1)) = w1 := ⟨_, rfl⟩
  have hfz := hst.2.2
  rw [ew1] at hst b1 a4'
  have HA := Lib.hid hat
  have HST := Lib.hid hst
  have HM := Lib.hid hmap
  clear h hs hi hf hp hk hat hcm hcp e2 d0 d2 d3 hst hmap hm hrf hml hrr hq eq1 hr e2' b0 b2 b3 hk1 hm1 e1
  go_enter Try.func44, Try.ntmps44
  go_wp2_with fail
  refine HA.out.mono ?_; rintro e w2 ⟨rfl, rfl⟩
  go_wp2_with fail
  go_ret2
  exact ⟨rfl, _, HST.out.1, HM.out.symm, HST.out.2.1⟩
set_option maxHeartbeats 4000000 in
theorem rdrop_sure (h : Rf w B R hF hW f n fr wt vL ks) (hs : ks.map (·.2) = L) (hi : Go.Alloc.Inv f n xs L W) (p : Int) (hp : i64r p) {c : Ch} (hf : findC L p = some c) (hr : c.refs ≤ 1) (hsu : c.sure = true) :
    Calls Try.prog 44 #[.pointer (some ⟨R, 0, none⟩), .int .i64 p] w fun e w' => e = .returned (.tuple #[.bool true, .int .i64 0]) ∧ ∃ vL' ks', Rf w' B R hF hW f n fr (fun j => wt j || decide (j ∈ c.secs)) vL' ks' ∧ ks'.map (·.2) = eraC L p ∧ Kp w w' (rb R hF hW vL) := by
  have hsec := fun q hq => hi.sec (findC_some hf).1 (k := q) hq
  obtain ⟨k, y, hk, rfl, hat⟩ := at_some h hs hi p hp hf
  obtain ⟨hcm, hcp⟩ := findC_some hf
  have hrf := hi.refs y.2 hcm
  obtain ⟨ad, cap, P, c', e1, e2, d0, d1, d2, d3⟩ := h.at hk
  obtain ⟨_, _, _, _, a4⟩ := h.cells
  have hlt := (List.getElem?_eq_some_iff.1 hk).1
  obtain ⟨m, hm⟩ : ∃ m, ks.length = m := ⟨_, rfl⟩
  have hml : m ≤ 4096 := by have := hi.llen; rw [← hs, List.length_map, hm] at this; exact this
  rw [hm] at e1 hlt
  rw [e1] at a4
  have hst := h.setAt (c := { y.2 with refs := y.2.refs - 1 }) hk rfl (.inl ⟨rfl, rfl, rfl⟩) e1
  have hmap := setC_at (g := fun c => { c with refs := c.refs - 1 }) hi.srt (at_L hs hk) hcp
  rw [← map_set hs k (y.1, { y.2 with refs := y.2.refs - 1 })] at hmap
  have hk1 : (ks.set k (y.1, { y.2 with refs := y.2.refs - 1 }))[k]? = some (y.1, { y.2 with refs := y.2.refs - 1 }) := by rw [List.getElem?_set, if_pos rfl, if_pos (by rw [hm]; exact hlt)]
  have hm1 : (ks.set k (y.1, { y.2 with refs := y.2.refs - 1 })).length = m := by rw [List.length_set, hm]
  have hera := eraC_at hi.srt (at_L hs hk) hcp
  have hr1 : y.2.refs = 1 := by omega
  simp only [hr1, hsu, Nat.sub_self] at hst hk1 hm1 d1
  have e11 : ((1 : Nat) : Int) = 1 := rfl
  have e00 : ((0 : Nat) : Int) = 0 := rfl
  rw [e11] at d1
  rw [e00] at hst
  obtain ⟨w1, ew1⟩ : ∃ w1, w.setCell ⟨(ad.add (k * 3)).block, (ad.add (k * 3)).off + 1, none⟩ (.int .i64 0) = w1 := ⟨_, rfl⟩
  have hfz := hst.2.2
  rw [ew1] at hst
  obtain ⟨ad', cap', P', c'', e1', e2', b0, b1, b2, b3⟩ := hst.1.at hk1
  rw [e1] at e1'
  have hac : ad = ad' ∧ cap = cap' := by
    injection e1' with e5 e6 e7
    injection e5 with e5
    exact ⟨e5, e7⟩
  clear e1'
  obtain ⟨rfl, rfl⟩ := hac
  rw [e00] at b1
  obtain ⟨_, _, _, a3', a4'⟩ := hst.1.cells
  rw [e1] at a4'
  obtain ⟨z, hz⟩ : ∃ z, y.2.secs.length = z := ⟨_, rfl⟩
  have hzl : z ≤ 4096 := by rw [← hz]; exact hi.slen hcm
  simp only [hz] at b0 e2'
  have hC0 : m ≤ cap := by
    rcases h.row.2 with ⟨e, h0⟩ | ⟨g, cap9, cur, e, _, _, h5, _⟩
    · omega
    · rw [e1] at e
      injection e with _ _ e; rw [e, ← hm]; exact h5
  have HA := Lib.hid hat
  have HR1 := Lib.hid hst.1
  have HK1 := Lib.hid hst.2.1
  have HM1 := Lib.hid hm1
  have HZ := Lib.hid hz
  have HSEC := Lib.hid hsec
  have HE1 := Lib.hid e1
  have HB3 := Lib.hid b3
  have HEra : Hid (eraC L p = ((ks.set k (y.1, { y.2 with refs := 0, sure := true })).take k ++ (ks.set k (y.1, { y.2 with refs := 0, sure := true })).drop (k + 1)).map (·.2)) := Lib.hid (by
    rw [hera, List.map_append, List.map_take, List.map_drop, map_set hs, List.take_set_of_le (Nat.le_refl k), List.drop_set_of_lt (Nat.lt_succ_self k)])
  have HSU := Lib.hid hsu
  have HKY := Lib.hid hk1
  have HML := Lib.hid hml
  have hye : ({ secs := y.2.secs, refs := 0, sure := true } : Ch) = { y.2 with refs := 0, sure := true } := rfl
  clear h hs hi hf hp hk hat hcm hcp e2 d0 d2 d3 hst hmap hm hera hr hr1 hsec b3 hk1 hm1 hz hrf hye HE1 HB3 HSU
  clear hml
  subst e1
  go_enter Try.func44, Try.ntmps44
  go_wp2_with fail
  refine HA.out.mono ?_; rintro e w2 ⟨rfl, rfl⟩
  go_wp2_with fail
  generalize ks.set k (y.1, { y.2 with refs := 0, sure := true }) = ks1 at HR1 HM1 HEra HKY
  obtain ⟨X, hX⟩ : ∃ X, w1.heap.size = X := ⟨_, rfl⟩
  have hiX : Is (w1.alloc (.cells #[.slice P' z c'', .int .i64 0, .bool true] 85)) X 85 #[.slice P' z c'', .int .i64 0, .bool true] := by rw [← hX]; exact Is.new _ _ _
  have hrX := HR1.out.below (below_alloc (Below.refl _ w1) (.cells #[.slice P' z c'', .int .i64 0, .bool true] 85))
  have hkX := HK1.out.alloc (.cells #[.slice P' z c'', .int .i64 0, .bool true] 85)
  have HIX := Lib.hid hiX
  have HRX := Lib.hid hrX
  have HKX := Lib.hid hkX
  clear hiX hrX hkX HR1 HK1 a3' a4' a4 b0 b1 b2 d1 hfz ew1
  simp only [hX]
  clear hX
  go_loopw [8] (fun i wr => ∃ t : Nat, i = .int .i64 (t : Int) ∧ t ≤ z ∧ Rf wr B R hF hW f n fr (fun j => wt j || decide (j ∈ y.2.secs.take t)) (.slice (some ad) m cap) ks1 ∧ Is wr X 85 #[.slice P' z c'', .int .i64 0, .bool true] ∧ Kp w wr (rb R hF hW (.slice (some ad) m cap))) (fun i _ => z - (RowKit.intOf i).toNat)
  case atStart => exact ⟨0, rfl, Nat.zero_le _, HRX.out.ext (fun j _ => by simp) (fun j _ => by simp), HIX.out, HKX.out⟩
  case round =>
    obtain ⟨t, rfl, ht, hr, hiX, hkp⟩ := hrel
    clear HRX HIX HKX
    have x0 := hiX.cell 0
    have x2 := hiX.cell 2
    simp at x0 x2
    obtain ⟨_, _, a2, a3, a4⟩ := hr.cells
    have HR := Lib.hid hr
    have HI := Lib.hid hiX
    have HK := Lib.hid hkp
    by_cases hlt2 : t < z
    · have hqs : y.2.secs[t]? = some (y.2.secs[t]'(by rw [HZ.out]; exact hlt2)) := List.getElem?_eq_getElem _
      obtain ⟨q, hqe⟩ : ∃ q, y.2.secs[t]'(by rw [HZ.out]; exact hlt2) = q := ⟨_, rfl⟩
      rw [hqe] at hqs
      obtain ⟨-, hqn, -⟩ := HSEC.out q (List.mem_of_getElem? hqs)
      obtain ⟨_, _, P2, c2, -, eP, -, -, -, d3⟩ := hr.at HKY.out
      simp only at eP d3
      rw [e2'] at eP
      injection eP with eP _ _
      subst eP
      obtain ⟨pp, rfl, s0⟩ := d3 t (q : Nat) (by rw [show nz y.2.secs = y.2.secs.map (fun x : Nat => (x : Int)) from rfl, List.getElem?_map, hqs]; rfl)
      have fq := hr.wb.frozen q
      have cq := hr.wb.cell q hqn
      have hpu := hr.putW q true
      have HPU := Lib.hid hpu
      have HQS := Lib.hid hqs
      clear hr hiX hkp d3 hqs hqe hpu
      go_wp2
      go_region
      all_goals
        go_wp2
        go_roundw
        case rel =>
          have hbd := below_drew (Below.refl (wr.setCell ⟨hW, q, none⟩ (.bool true)).heap.size (wr.setCell ⟨hW, q, none⟩ (.bool true)))
          have hk3 := HPU.out.2.trans (Kp.of_below hbd []) (by simp)
          refine ⟨t + 1, by go_num, by omega, (HPU.out.1.below hbd).ext (fun j _ => ?_) (fun j _ => ?_), hk3.is HI.out (fun hm => HR.out.wb.is (e := 85) (by decide) _ hm _ HI.out), HK.out.trans hk3 (fun g hg => .inl (by simp at hg; subst hg; simp [rb]))⟩
          all_goals
            first
              | rfl
              | (rw [List.take_add_one, HQS.out]
                 by_cases e : j = q
                 · subst e; simp
                 · simp [e])
        case measure => simp [RowKit.intOf]; omega
    · obtain rfl : t = z := by omega
      have hk1 := HKY.out
      clear a2 a3 x2
      by_cases hcc : cap = k + 1
      · obtain rfl : m = k + 1 := by omega
        subst hcc
        obtain ⟨P1, C1, w3, r1, a5, P3, C3, w6, r4, f6, ⟨v6, a46⟩, hrf, hkp2⟩ := del_steps hr HM1.out (by have := HML.out; omega) hlt (k + 1) (k + 1 - (k + 1)) (Pa := some ad) (Pb := some ad) (fun _ => rfl) (fun ad2 h1 h2 => by omega)
        have HF := Lib.hid (hrf.ext (fr' := fr) (wt' := (fun j => wt j || decide (j ∈ y.2.secs))) (fun j _ => by rfl) (fun j _ => by simp only [← HZ.out, List.take_length]))
        have HKP := Lib.hid (hkp.trans hkp2 (fun g hg => .inl (by simp at hg; subst hg; simp [rb])))
        clear hr hiX hkp hrf hkp2
        have hk0 : (0 : Int) ≤ (k : Int) := by omega
        have hk9 : (k : Int) < 4096 := by have := HML.out; omega
        have hk8 : k < 4096 := by omega
        simp only [Nat.sub_self] at r4 a46 f6
        go_wp2_with (first
          | (at_builtin; refine Lib.wpList_append_run _ rfl _ _ _ _ rfl _ _ rfl rfl _ _ r1 ?_; clear r1)
          | (at_builtin; refine Lib.wpList_append_run _ rfl _ _ _ _ rfl _ _ rfl rfl _ _ r4 ?_; clear r4))
        all_goals
          go_ret2
          exact ⟨rfl, _, _, HF.out, HEra.out.symm, HKP.out⟩
      · obtain ⟨P1, C1, w3, r1, a5, P3, C3, w6, r4, f6, ⟨v6, a46⟩, hrf, hkp2⟩ := del_steps hr HM1.out (by have := HML.out; omega) hlt cap (cap - (k + 1)) (Pa := some ad) (Pb := some (ad.add ((k + 1) * 3))) (fun _ => rfl) (fun ad2 h1 h2 => by injection h2 with h2; rw [← h2])
        have HF := Lib.hid (hrf.ext (fr' := fr) (wt' := (fun j => wt j || decide (j ∈ y.2.secs))) (fun j _ => by rfl) (fun j _ => by simp only [← HZ.out, List.take_length]))
        have HKP := Lib.hid (hkp.trans hkp2 (fun g hg => .inl (by simp at hg; subst hg; simp [rb])))
        clear hr hiX hkp hrf hkp2
        have hk0 : (0 : Int) ≤ (k : Int) := by omega
        have hk9 : (k : Int) < 4096 := by have := HML.out; omega
        have hk8 : k < 4096 := by omega
        have hcc' : ¬ k + 1 = cap := fun h => hcc h.symm
        go_wp2_with (first
          | (at_builtin; refine Lib.wpList_append_run _ rfl _ _ _ _ rfl _ _ rfl rfl _ _ r1 ?_; clear r1)
          | (at_builtin; refine Lib.wpList_append_run _ rfl _ _ _ _ rfl _ _ rfl rfl _ _ r4 ?_; clear r4))
        all_goals
          go_ret2
          exact ⟨rfl, _, _, HF.out, HEra.out.symm, HKP.out⟩
set_option maxHeartbeats 4000000 in
theorem rdrop_new (h : Rf w B R hF hW f n fr wt vL ks) (hs : ks.map (·.2) = L) (hi : Go.Alloc.Inv f n xs L W) (p : Int) (hp : i64r p) {c : Ch} (hf : findC L p = some c) (hr : c.refs ≤ 1) (hsu : c.sure = false) :
    Calls Try.prog 44 #[.pointer (some ⟨R, 0, none⟩), .int .i64 p] w fun e w' => e = .returned (.tuple #[.bool true, .int .i64 0]) ∧ ∃ vL' ks', Rf w' B R hF hW f n (fun j => fr j || decide (j ∈ c.secs)) wt vL' ks' ∧ ks'.map (·.2) = eraC L p ∧ Kp w w' (rb R hF hW vL) := by
  have hsec := fun q hq => hi.sec (findC_some hf).1 (k := q) hq
  obtain ⟨k, y, hk, rfl, hat⟩ := at_some h hs hi p hp hf
  obtain ⟨hcm, hcp⟩ := findC_some hf
  have hrf := hi.refs y.2 hcm
  obtain ⟨ad, cap, P, c', e1, e2, d0, d1, d2, d3⟩ := h.at hk
  obtain ⟨_, _, _, _, a4⟩ := h.cells
  have hlt := (List.getElem?_eq_some_iff.1 hk).1
  obtain ⟨m, hm⟩ : ∃ m, ks.length = m := ⟨_, rfl⟩
  have hml : m ≤ 4096 := by have := hi.llen; rw [← hs, List.length_map, hm] at this; exact this
  rw [hm] at e1 hlt
  rw [e1] at a4
  have hst := h.setAt (c := { y.2 with refs := y.2.refs - 1 }) hk rfl (.inl ⟨rfl, rfl, rfl⟩) e1
  have hmap := setC_at (g := fun c => { c with refs := c.refs - 1 }) hi.srt (at_L hs hk) hcp
  rw [← map_set hs k (y.1, { y.2 with refs := y.2.refs - 1 })] at hmap
  have hk1 : (ks.set k (y.1, { y.2 with refs := y.2.refs - 1 }))[k]? = some (y.1, { y.2 with refs := y.2.refs - 1 }) := by rw [List.getElem?_set, if_pos rfl, if_pos (by rw [hm]; exact hlt)]
  have hm1 : (ks.set k (y.1, { y.2 with refs := y.2.refs - 1 })).length = m := by rw [List.length_set, hm]
  have hera := eraC_at hi.srt (at_L hs hk) hcp
  have hr1 : y.2.refs = 1 := by omega
  simp only [hr1, hsu, Nat.sub_self] at hst hk1 hm1 d1
  have e11 : ((1 : Nat) : Int) = 1 := rfl
  have e00 : ((0 : Nat) : Int) = 0 := rfl
  rw [e11] at d1
  rw [e00] at hst
  obtain ⟨w1, ew1⟩ : ∃ w1, w.setCell ⟨(ad.add (k * 3)).block, (ad.add (k * 3)).off + 1, none⟩ (.int .i64 0) = w1 := ⟨_, rfl⟩
  have hfz := hst.2.2
  rw [ew1] at hst
  obtain ⟨ad', cap', P', c'', e1', e2', b0, b1, b2, b3⟩ := hst.1.at hk1
  rw [e1] at e1'
  have hac : ad = ad' ∧ cap = cap' := by
    injection e1' with e5 e6 e7
    injection e5 with e5
    exact ⟨e5, e7⟩
  clear e1'
  obtain ⟨rfl, rfl⟩ := hac
  rw [e00] at b1
  obtain ⟨_, _, _, a3', a4'⟩ := hst.1.cells
  rw [e1] at a4'
  obtain ⟨z, hz⟩ : ∃ z, y.2.secs.length = z := ⟨_, rfl⟩
  have hzl : z ≤ 4096 := by rw [← hz]; exact hi.slen hcm
  simp only [hz] at b0 e2'
  have hC0 : m ≤ cap := by
    rcases h.row.2 with ⟨e, h0⟩ | ⟨g, cap9, cur, e, _, _, h5, _⟩
    · omega
    · rw [e1] at e
      injection e with _ _ e; rw [e, ← hm]; exact h5
  have HA := Lib.hid hat
  have HR1 := Lib.hid hst.1
  have HK1 := Lib.hid hst.2.1
  have HM1 := Lib.hid hm1
  have HZ := Lib.hid hz
  have HSEC := Lib.hid hsec
  have HE1 := Lib.hid e1
  have HB3 := Lib.hid b3
  have HEra : Hid (eraC L p = ((ks.set k (y.1, { y.2 with refs := 0, sure := false })).take k ++ (ks.set k (y.1, { y.2 with refs := 0, sure := false })).drop (k + 1)).map (·.2)) := Lib.hid (by
    rw [hera, List.map_append, List.map_take, List.map_drop, map_set hs, List.take_set_of_le (Nat.le_refl k), List.drop_set_of_lt (Nat.lt_succ_self k)])
  have HSU := Lib.hid hsu
  have HKY := Lib.hid hk1
  have HML := Lib.hid hml
  have hye : ({ secs := y.2.secs, refs := 0, sure := false } : Ch) = { y.2 with refs := 0, sure := false } := rfl
  clear h hs hi hf hp hk hat hcm hcp e2 d0 d2 d3 hst hmap hm hera hr hr1 hsec b3 hk1 hm1 hz hrf hye HE1 HB3 HSU
  clear hml
  subst e1
  go_enter Try.func44, Try.ntmps44
  go_wp2_with fail
  refine HA.out.mono ?_; rintro e w2 ⟨rfl, rfl⟩
  go_wp2_with fail
  generalize ks.set k (y.1, { y.2 with refs := 0, sure := false }) = ks1 at HR1 HM1 HEra HKY
  obtain ⟨X, hX⟩ : ∃ X, w1.heap.size = X := ⟨_, rfl⟩
  have hiX : Is (w1.alloc (.cells #[.slice P' z c'', .int .i64 0, .bool false] 85)) X 85 #[.slice P' z c'', .int .i64 0, .bool false] := by rw [← hX]; exact Is.new _ _ _
  have hrX := HR1.out.below (below_alloc (Below.refl _ w1) (.cells #[.slice P' z c'', .int .i64 0, .bool false] 85))
  have hkX := HK1.out.alloc (.cells #[.slice P' z c'', .int .i64 0, .bool false] 85)
  have HIX := Lib.hid hiX
  have HRX := Lib.hid hrX
  have HKX := Lib.hid hkX
  clear hiX hrX hkX HR1 HK1 a3' a4' a4 b0 b1 b2 d1 hfz ew1
  simp only [hX]
  clear hX
  go_loopw [8] (fun i wr => ∃ t : Nat, i = .int .i64 (t : Int) ∧ t ≤ z ∧ Rf wr B R hF hW f n (fun j => fr j || decide (j ∈ y.2.secs.take t)) wt (.slice (some ad) m cap) ks1 ∧ Is wr X 85 #[.slice P' z c'', .int .i64 0, .bool false] ∧ Kp w wr (rb R hF hW (.slice (some ad) m cap))) (fun i _ => z - (RowKit.intOf i).toNat)
  case atStart => exact ⟨0, rfl, Nat.zero_le _, HRX.out.ext (fun j _ => by simp) (fun j _ => by simp), HIX.out, HKX.out⟩
  case round =>
    obtain ⟨t, rfl, ht, hr, hiX, hkp⟩ := hrel
    clear HRX HIX HKX
    have x0 := hiX.cell 0
    have x2 := hiX.cell 2
    simp at x0 x2
    obtain ⟨_, _, a2, a3, a4⟩ := hr.cells
    have HR := Lib.hid hr
    have HI := Lib.hid hiX
    have HK := Lib.hid hkp
    by_cases hlt2 : t < z
    · have hqs : y.2.secs[t]? = some (y.2.secs[t]'(by rw [HZ.out]; exact hlt2)) := List.getElem?_eq_getElem _
      obtain ⟨q, hqe⟩ : ∃ q, y.2.secs[t]'(by rw [HZ.out]; exact hlt2) = q := ⟨_, rfl⟩
      rw [hqe] at hqs
      obtain ⟨-, hqn, -⟩ := HSEC.out q (List.mem_of_getElem? hqs)
      obtain ⟨_, _, P2, c2, -, eP, -, -, -, d3⟩ := hr.at HKY.out
      simp only at eP d3
      rw [e2'] at eP
      injection eP with eP _ _
      subst eP
      obtain ⟨pp, rfl, s0⟩ := d3 t (q : Nat) (by rw [show nz y.2.secs = y.2.secs.map (fun x : Nat => (x : Int)) from rfl, List.getElem?_map, hqs]; rfl)
      have fq := hr.fb.frozen q
      have cq := hr.fb.cell q hqn
      have hpu := hr.putF q true
      have HPU := Lib.hid hpu
      have HQS := Lib.hid hqs
      clear hr hiX hkp d3 hqs hqe hpu
      go_wp2
      go_region
      all_goals
        go_wp2
        go_roundw
        case rel =>
          have hbd := below_drew (Below.refl (wr.setCell ⟨hF, q, none⟩ (.bool true)).heap.size (wr.setCell ⟨hF, q, none⟩ (.bool true)))
          have hk3 := HPU.out.2.trans (Kp.of_below hbd []) (by simp)
          refine ⟨t + 1, by go_num, by omega, (HPU.out.1.below hbd).ext (fun j _ => ?_) (fun j _ => ?_), hk3.is HI.out (fun hm => HR.out.fb.is (e := 85) (by decide) _ hm _ HI.out), HK.out.trans hk3 (fun g hg => .inl (by simp at hg; subst hg; simp [rb]))⟩
          all_goals
            first
              | rfl
              | (rw [List.take_add_one, HQS.out]
                 by_cases e : j = q
                 · subst e; simp
                 · simp [e])
        case measure => simp [RowKit.intOf]; omega
    · obtain rfl : t = z := by omega
      have hk1 := HKY.out
      clear a2 a3 x2
      by_cases hcc : cap = k + 1
      · obtain rfl : m = k + 1 := by omega
        subst hcc
        obtain ⟨P1, C1, w3, r1, a5, P3, C3, w6, r4, f6, ⟨v6, a46⟩, hrf, hkp2⟩ := del_steps hr HM1.out (by have := HML.out; omega) hlt (k + 1) (k + 1 - (k + 1)) (Pa := some ad) (Pb := some ad) (fun _ => rfl) (fun ad2 h1 h2 => by omega)
        have HF := Lib.hid (hrf.ext (fr' := (fun j => fr j || decide (j ∈ y.2.secs))) (wt' := wt) (fun j _ => by simp only [← HZ.out, List.take_length]) (fun j _ => by rfl))
        have HKP := Lib.hid (hkp.trans hkp2 (fun g hg => .inl (by simp at hg; subst hg; simp [rb])))
        clear hr hiX hkp hrf hkp2
        have hk0 : (0 : Int) ≤ (k : Int) := by omega
        have hk9 : (k : Int) < 4096 := by have := HML.out; omega
        have hk8 : k < 4096 := by omega
        simp only [Nat.sub_self] at r4 a46 f6
        go_wp2_with (first
          | (at_builtin; refine Lib.wpList_append_run _ rfl _ _ _ _ rfl _ _ rfl rfl _ _ r1 ?_; clear r1)
          | (at_builtin; refine Lib.wpList_append_run _ rfl _ _ _ _ rfl _ _ rfl rfl _ _ r4 ?_; clear r4))
        all_goals
          go_ret2
          exact ⟨rfl, _, _, HF.out, HEra.out.symm, HKP.out⟩
      · obtain ⟨P1, C1, w3, r1, a5, P3, C3, w6, r4, f6, ⟨v6, a46⟩, hrf, hkp2⟩ := del_steps hr HM1.out (by have := HML.out; omega) hlt cap (cap - (k + 1)) (Pa := some ad) (Pb := some (ad.add ((k + 1) * 3))) (fun _ => rfl) (fun ad2 h1 h2 => by injection h2 with h2; rw [← h2])
        have HF := Lib.hid (hrf.ext (fr' := (fun j => fr j || decide (j ∈ y.2.secs))) (wt' := wt) (fun j _ => by simp only [← HZ.out, List.take_length]) (fun j _ => by rfl))
        have HKP := Lib.hid (hkp.trans hkp2 (fun g hg => .inl (by simp at hg; subst hg; simp [rb])))
        clear hr hiX hkp hrf hkp2
        have hk0 : (0 : Int) ≤ (k : Int) := by omega
        have hk9 : (k : Int) < 4096 := by have := HML.out; omega
        have hk8 : k < 4096 := by omega
        have hcc' : ¬ k + 1 = cap := fun h => hcc h.symm
        go_wp2_with (first
          | (at_builtin; refine Lib.wpList_append_run _ rfl _ _ _ _ rfl _ _ rfl rfl _ _ r1 ?_; clear r1)
          | (at_builtin; refine Lib.wpList_append_run _ rfl _ _ _ _ rfl _ _ rfl rfl _ _ r4 ?_; clear r4))
        all_goals
          go_ret2
          exact ⟨rfl, _, _, HF.out, HEra.out.symm, HKP.out⟩
/-- What Drop lets go: of new chains, of sure ones. -/
def gone (L : List Ch) (p : Int) (s : Bool) : List Nat := match findC L p with | none => [] | some c => if c.refs ≤ 1 ∧ c.sure = s then c.secs else []
theorem rdrop_c (h : Rf w B R hF hW f n fr wt vL ks) (hs : ks.map (·.2) = L) (hi : Go.Alloc.Inv f n xs L W) (p : Int) (hp : i64r p) :
    Calls Try.prog 44 #[.pointer (some ⟨R, 0, none⟩), .int .i64 p] w fun e w' => e = .returned (.tuple #[.bool (dropB L p), .int .i64 (dropE L p)]) ∧ ∃ vL' ks', Rf w' B R hF hW f n (fun j => fr j || decide (j ∈ gone L p false)) (fun j => wt j || decide (j ∈ gone L p true)) vL' ks' ∧ ks'.map (·.2) = dropL' L p ∧ Kp w w' (rb R hF hW vL) := by
  unfold dropB dropE dropL' gone
  cases hf : findC L p with
  | none =>
    refine (rdrop_none h hs hi p hp hf).mono ?_
    rintro e w' ⟨rfl, rfl⟩
    exact ⟨rfl, vL, ks, h.ext (fun j _ => by simp) (fun j _ => by simp), hs, Kp.refl _ _⟩
  | some c =>
    by_cases hr : c.refs ≤ 1
    · cases hsu : c.sure with
      | true =>
        refine (rdrop_sure h hs hi p hp hf hr hsu).mono ?_
        rintro e w' ⟨rfl, vL', ks', h1, h2, h3⟩
        exact ⟨by simp [hr], vL', ks', h1.ext (fun j _ => by simp [hsu]) (fun j _ => by simp [hr, hsu]), by simp [hr, h2], h3⟩
      | false =>
        refine (rdrop_new h hs hi p hp hf hr hsu).mono ?_
        rintro e w' ⟨rfl, vL', ks', h1, h2, h3⟩
        exact ⟨by simp [hr], vL', ks', h1.ext (fun j _ => by simp [hr, hsu]) (fun j _ => by simp [hsu]), by simp [hr, h2], h3⟩
    · refine (rdrop_down h hs hi p hp hf hr).mono ?_
      rintro e w' ⟨rfl, ks', h1, h2, h3⟩
      exact ⟨by simp [hr], vL, ks', h1.ext (fun j _ => by simp [hr]) (fun j _ => by simp [hr]), by simp [hr, h2], h3⟩
end
end Go.Proofs.Ytnpjbddannkgfaa
namespace Go.Proofs.Ytnpjbddannkgfaa
open Go.ChangeShapes Go.WideShapes Go.RowKit Go.Maps Go.Spans Go.Alloc
set_option maxRecDepth 100000
/-- The first t chains are sure. -/
def su (ks : List (Value × Ch)) (t : Nat) : List (Value × Ch) := ks.mapIdx fun i x => if i < t then (x.1, { x.2 with sure := true }) else x
theorem su_get (ks : List (Value × Ch)) (t i : Nat) : (su ks t)[i]? = ks[i]?.map fun x => if i < t then (x.1, { x.2 with sure := true }) else x := by simp [su]
theorem su_len (ks : List (Value × Ch)) (t : Nat) : (su ks t).length = ks.length := by simp [su]
theorem su_zero (ks : List (Value × Ch)) : su ks 0 = ks := by
  apply List.ext_getElem?
  intro i
  rw [su_get]
  cases ks[i]? <;> simp
theorem su_next {ks : List (Value × Ch)} {t : Nat} {x : Value × Ch} (hx : ks[t]? = some x) : (su ks t).set t (x.1, { x.2 with sure := true }) = su ks (t + 1) := by
  have hlt := (List.getElem?_eq_some_iff.1 hx).1
  apply List.ext_getElem?
  intro i
  rw [List.getElem?_set, su_get, su_get, su_len]
  by_cases e : t = i
  · subst e
    rw [if_pos rfl, if_pos hlt, hx, Option.map_some, if_pos (Nat.lt_succ_self t)]
  · rw [if_neg e]
    cases ks[i]? with
    | none => rfl
    | some y =>
      have : (i < t) = (i < t + 1) := propext ⟨fun h => by omega, fun h => by omega⟩
      simp [this]
theorem su_all (ks : List (Value × Ch)) : (su ks ks.length).map (·.2) = sureC (ks.map (·.2)) := by
  apply List.ext_getElem?
  intro i
  unfold sureC
  rw [List.getElem?_map, su_get, List.getElem?_map, List.getElem?_map]
  cases hi : ks[i]? with
  | none => rfl
  | some y =>
    have := (List.getElem?_eq_some_iff.1 hi).1
    simp [this]
section
variable {w : World} {B R hF hW f n : Nat} {fr wt : Nat → Bool} {vL : Value} {ks : List (Value × Ch)}
set_option maxHeartbeats 4000000 in
theorem rcommit_c (h : Rf w B R hF hW f n fr wt vL ks) (hl : ks.length ≤ 4096) (hn : n ≤ 4096) :
    Calls Try.prog 45 #[.pointer (some ⟨R, 0, none⟩)] w fun e w' => e = .returned (.tuple #[]) ∧ ∃ ks', Rf w' B R hF hW f n (fun j => fr j || wt j) (fun _ => false) vL ks' ∧ ks'.map (·.2) = sureC (ks.map (·.2)) ∧ Kp w w' (rb R hF hW vL) := by
  obtain ⟨m, hm⟩ : ∃ m, ks.length = m := ⟨_, rfl⟩
  obtain ⟨P, C, e1⟩ := h.shape
  rw [hm] at e1 hl
  subst e1
  have HM := Lib.hid hm
  have H0 : Hid (Rf w B R hF hW f n fr wt (.slice P m C) (su ks 0)) := Lib.hid (by rw [su_zero]; exact h)
  clear h hm
  go_enter Try.func45, Try.ntmps45
  go_wp2_with fail
  go_loopw [2] (fun i wr => ∃ t : Nat, i = .int .i64 (t : Int) ∧ t ≤ m ∧ Rf wr B R hF hW f n fr wt (.slice P m C) (su ks t) ∧ Kp w wr (rb R hF hW (.slice P m C))) (fun i _ => m - (RowKit.intOf i).toNat)
  case atStart => exact ⟨0, rfl, Nat.zero_le _, H0.out, Kp.refl _ _⟩
  case round =>
    obtain ⟨t, rfl, ht, hr, hkp⟩ := hrel
    clear H0
    obtain ⟨_, _, _, _, a4⟩ := hr.cells
    have HR := Lib.hid hr
    have HK := Lib.hid hkp
    by_cases hlt : t < m
    · obtain ⟨x, hx⟩ : ∃ x, ks[t]? = some x := ⟨_, List.getElem?_eq_getElem (by rw [HM.out]; exact hlt)⟩
      have hx' : (su ks t)[t]? = some x := by rw [su_get, hx]; simp
      obtain ⟨ad, cap, P2, c2, e1, e2, d0, d1, d2, d3⟩ := hr.at hx'
      injection e1 with e1 _ e3
      subst e1
      have hst := hr.setAt (c := { x.2 with sure := true }) hx' rfl (.inr ⟨rfl, rfl, rfl⟩) rfl (m := m) (cap := C) (ad := ad)
      rw [su_next hx] at hst
      simp only at hst
      have HST := Lib.hid hst
      have hfz := hst.2.2
      clear hr hkp hx hx' d0 d1 d3 hst e2 e3
      go_wp2
      go_roundw
      case rel => exact ⟨t + 1, by go_num, by omega, HST.out.1, HK.out.trans HST.out.2.1 (fun g hg => .inl hg)⟩
      case measure => simp [RowKit.intOf]; omega
    · obtain rfl : t = m := by omega
      clear hr hkp
      have HS : Hid ((su ks t).map (·.2) = sureC (ks.map (·.2))) := Lib.hid (by rw [← HM.out]; exact su_all ks)
      generalize su ks t = ks2 at HR HS
      go_wp2
      go_loopw [3] (fun i wz => ∃ q : Nat, i = .int .i64 (q : Int) ∧ q ≤ n ∧ Rf wz B R hF hW f n (fun j => fr j || (wt j && decide (j < q))) (fun j => wt j && !decide (j < q)) (.slice P t C) ks2 ∧ Kp w wz (rb R hF hW (.slice P t C))) (fun i _ => n - (RowKit.intOf i).toNat)
      case atStart => exact ⟨0, rfl, Nat.zero_le _, HR.out.ext (fun j _ => by simp) (fun j _ => by simp), HK.out⟩
      case round =>
        obtain ⟨q, rfl, hq, hr, hkp⟩ := hrel
        clear HR HK a4
        obtain ⟨_, a1, a2, a3, _⟩ := hr.cells
        have HR := Lib.hid hr
        have HK := Lib.hid hkp
        by_cases hlt2 : q < n
        · have cW := hr.wb.cell q hlt2
          have cF := hr.fb.cell q hlt2
          simp only [Nat.lt_irrefl, decide_false, Bool.not_false, Bool.and_true, Bool.and_false, Bool.or_false] at cW cF
          by_cases hwq : wt q = true
          · rw [hwq] at cW
            have fW := hr.wb.frozen q
            obtain ⟨r1, k1⟩ := hr.putW q false
            obtain ⟨r2, k2⟩ := r1.putF q true
            have fF := r1.fb.frozen q
            have cF2 := r1.fb.cell q hlt2
            obtain ⟨_, _, b2, _, _⟩ := r1.cells
            have HR2 := Lib.hid r2
            have HK2 := Lib.hid ((hkp.trans k1 (fun g hg => .inl (by simp at hg; subst hg; simp [rb]))).trans k2 (fun g hg => .inl (by simp at hg; subst hg; simp [rb])))
            clear hr hkp r1 r2 k1 k2
            go_wp2
            go_roundw
            case rel =>
              refine ⟨q + 1, by go_num, by omega, HR2.out.ext (fun j _ => ?_) (fun j _ => ?_), HK2.out⟩
              · by_cases e : j = q
                · subst e; simp [hwq]
                · have : (j < q) = (j < q + 1) := propext ⟨fun h => by omega, fun h => by omega⟩
                  simp [e, this]
              · by_cases e : j = q
                · subst e; simp
                · have : (j < q) = (j < q + 1) := propext ⟨fun h => by omega, fun h => by omega⟩
                  simp [e, this]
            case measure => simp [RowKit.intOf]; omega
          · have hwf : wt q = false := by simpa using hwq
            rw [hwf] at cW
            clear hr hkp hwq
            go_wp2
            go_roundw
            case rel =>
              refine ⟨q + 1, by go_num, by omega, HR.out.ext (fun j _ => ?_) (fun j _ => ?_), HK.out⟩
              · by_cases e : j = q
                · subst e; simp [hwf]
                · have : (j < q) = (j < q + 1) := propext ⟨fun h => by omega, fun h => by omega⟩
                  simp [this]
              · by_cases e : j = q
                · subst e; simp [hwf]
                · have : (j < q) = (j < q + 1) := propext ⟨fun h => by omega, fun h => by omega⟩
                  simp [this]
            case measure => simp [RowKit.intOf]; omega
        · obtain rfl : q = n := by omega
          clear hr hkp
          go_wp2
          go_end0
          refine ⟨rfl, ks2, HR.out.ext (fun j hj => ?_) (fun j hj => ?_), HS.out, HK.out⟩
          · simp [hj]
          · simp [hj]
end
end Go.Proofs.Ytnpjbddannkgfaa
namespace Go.Proofs.Ytnpjbddannkgfaa
open Go.ChangeShapes Go.WideShapes Go.RowKit Go.Maps Go.Spans Go.Alloc
set_option maxRecDepth 100000
/-- The free sectors below i. -/
def fre (xs : List Sp) (i : Nat) : List Nat := (List.range i).filter (hasB xs)
theorem fre_yes {xs : List Sp} {i : Nat} (h : hasB xs i = true) : fre xs (i + 1) = fre xs i ++ [i] := by
  unfold fre
  rw [List.range_succ, List.filter_append]
  simp [h]
theorem fre_no {xs : List Sp} {i : Nat} (h : hasB xs i = false) : fre xs (i + 1) = fre xs i := by
  unfold fre
  rw [List.range_succ, List.filter_append]
  simp [h]
theorem fre_mem {xs : List Sp} {i j : Nat} : j ∈ fre xs i ↔ j < i ∧ hasB xs j = true := by simp [fre]
theorem fre_pre {xs : List Sp} {i n : Nat} (h : i ≤ n) : ∃ l, fre xs n = fre xs i ++ l := by
  induction n with
  | zero => exact ⟨[], by simp [show i = 0 by omega]⟩
  | succ n ih =>
    by_cases e : i = n + 1
    · exact ⟨[], by rw [e]; simp⟩
    · obtain ⟨l, hl⟩ := ih (by omega)
      by_cases hb : hasB xs n = true
      · exact ⟨l ++ [n], by rw [fre_yes hb, hl, List.append_assoc]⟩
      · exact ⟨l, by rw [fre_no (by simpa using hb), hl]⟩
theorem cb_ext {h h' : Nat → Bool} {n : Nat} (e : ∀ j, j < n → h j = h' j) : cb h n = cb h' n := by
  unfold cb
  rw [List.filter_congr (fun x hx => e x (by simpa using hx))]
/-- How the loop stands: only the row of what is free has been turned; a chain of the call's own. -/
structure Ag (w wr : World) (hF n : Nat) (fr : Nat → Bool) (P : Option Addr) (C z : Nat) (T : List Nat) : Prop where
  kp : Kp w wr [hF]
  fb : Bs wr hF n fr
  box : Is wr w.heap.size 85 #[.slice P z C, .int .i64 1, .bool false]
  row : wr.ownsRow w.heap.size 3 1 (.slice P z C) z (zs (nz T))
  len : T.length = z
section
variable {w wr : World} {B R hF hW f n : Nat} {fr fr0 wt : Nat → Bool} {vL : Value} {ks : List (Value × Ch)} {P : Option Addr} {C z : Nat} {T : List Nat}
theorem Ag.rf (h : Ag w wr hF n fr P C z T) (h0 : Rf w B R hF hW f n fr0 wt vL ks) : Rf wr B R hF hW f n fr wt vL ks :=
  ⟨h.kp.is h0.one (fun hm => h0.fb.is (e := 72) (by decide) R hm _ h0.one), h.fb, h0.wb.kept h.kp (fun hm => h0.ne (by simp at hm; exact hm.symm)), h0.ne, h0.lo, row_kpe h0.row h.kp (h0.fb.is (by decide)), fun x hx => row_kpe (h0.rows x hx) h.kp (h0.fb.is (by decide))⟩
theorem Ag.ext (h : Ag w wr hF n fr P C z T) {fr' : Nat → Bool} (e : ∀ j, j < n → fr j = fr' j) : Ag w wr hF n fr' P C z T := ⟨h.kp, h.fb.ext e, h.box, h.row, h.len⟩
theorem ag_step (h : Ag w wr hF n fr P C z T) (hz : z ≤ 8192) (i : Nat) {w1 : World} (e1 : wr.setCell ⟨hF, i, none⟩ (.bool false) = w1) :
    Is w1 w.heap.size 85 #[.slice P z C, .int .i64 1, .bool false] ∧ ∃ P' C' V3, (Builtin.append_ #[46, 46] 46 #[.slice P z C, .slice (some ⟨w1.heap.size, 0, none⟩) 1 1]).run Try.prog (w1.alloc (.cells #[.int .i64 (i : Nat)] 3)) = .ok (.slice P' (z + 1) C') V3 ∧ Is V3 w.heap.size 85 #[.slice P z C, .int .i64 1, .bool false] ∧
      Ag w (V3.setCell ⟨w.heap.size, 0, none⟩ (.slice P' (z + 1) C')) hF n (fun j => if j = i then false else fr j) P' C' (z + 1) (T ++ [i]) := by
  have k1 : Kp wr w1 [hF] := by rw [← e1]; exact (Kp.refl wr [hF]).put ⟨hF, i, none⟩ _ (.inl (by simp))
  have f1 : Bs w1 hF n (fun j => if j = i then false else fr j) := by rw [← e1]; exact h.fb.put i false
  have b1 := k1.is h.box (fun hm => h.fb.is (e := 85) (by decide) _ hm _ h.box)
  have r1 := row_kpe h.row k1 (h.fb.is (e := 3) (by decide))
  have kp1 := h.kp.trans k1 (fun g hg => .inl hg)
  refine ⟨b1, ?_⟩
  have hb2 := below_alloc (Below.refl w1.heap.size w1) (.cells #[.int .i64 (i : Nat)] 3)
  have it : Is (w1.alloc (.cells #[.int .i64 (i : Nat)] 3)) w1.heap.size 3 #[.int .i64 (i : Nat)] := Is.new w1 3 _
  generalize w1.alloc (.cells #[.int .i64 (i : Nat)] 3) = w2 at *
  have kp2 := kp1.trans (Kp.of_below hb2 []) (by simp)
  have f2 := f1.below hb2
  have b2 := (Kp.of_below hb2 []).is b1 (by simp)
  have r2 := Kq.row (Kq.below hb2) r1 (by decide) (by decide)
  have hsl1 : Sl w2 (.slice (some ⟨w1.heap.size, 0, none⟩) 1 1) [(i : Int)] := ⟨_, 1, rfl, fun j y hj => ⟨_, rfl, by
    have : j = 0 := by have := (List.getElem?_eq_some_iff.1 hj).1; simp at this; omega
    subst this
    simp at hj
    subst hj
    rw [add_at, it.cell]
    rfl⟩⟩
  have e2 : (nz T).length = z := by rw [← h.len]; simp [nz]
  have r2' : w2.ownsRow w.heap.size 3 1 (.slice P z C) (nz T).length (zs (nz T)) := by rw [e2]; exact r2
  obtain ⟨P', C', V3, hrun, o3, g3, hob⟩ := app_ints (base := w.heap.size) (l := nz T) (v := .slice P z C) r2' hsl1 (by rw [e2]; simp; omega) kp2.size 46
  have e3 : (nz T ++ [(i : Int)]).length = z + 1 := by rw [List.length_append, e2]; rfl
  have e4 : nz T ++ [(i : Int)] = nz (T ++ [i]) := by simp [nz]
  rw [e3] at hrun o3
  rw [e4] at o3
  refine ⟨P', C', V3, hrun, ?_⟩
  have b3 : Is V3 w.heap.size 85 #[.slice P z C, .int .i64 1, .bool false] := b2.kept g3 (own_ne r2 b2 (by decide))
  have hlow : ∀ r, (Value.slice P z C).ownBlock = some r → w.heap.size ≤ r := fun r hr => by
    rcases r2.2 with ⟨e, _⟩ | ⟨g, cap, cur, e, hb, _⟩
    · rw [e] at hr; cases hr
    · rw [e] at hr
      have : g = r := by simpa [Value.ownBlock] using hr
      omega
  have kp3 : Kp w V3 [hF] := kp2.grow g3 hlow
  have f3 : Bs V3 hF n (fun j => if j = i then false else fr j) := by
    refine f2.kept (Kp.of_grown g3) (fun hm => ?_)
    obtain ⟨cur, hi, _⟩ := f2
    exact own_ne r2 hi (by decide) (by simpa using hm : (Value.slice P z C).ownBlock = some hF).symm
  refine ⟨b3, ?_⟩
  have k4 : Kp V3 (V3.setCell ⟨w.heap.size, 0, none⟩ (.slice P' (z + 1) C')) [w.heap.size] := (Kp.refl V3 [w.heap.size]).put ⟨w.heap.size, 0, none⟩ _ (.inl (by simp))
  refine ⟨kp3.trans k4 (fun g hg => .inr (by simp at hg; omega)), f3.kept k4 (fun hm => ?_), ?_, row_kpe o3 k4 (fun g hg cs hi => by simp at hg; exact hi.ne b3 (by decide) hg), by rw [List.length_append, h.len]; rfl⟩
  · obtain ⟨cur, hi, _⟩ := f3
    exact hi.ne b3 (by decide) (by simpa using hm)
  · have := b3.put 0 (.slice P' (z + 1) C')
    simpa using this
end
section
variable {w : World} {B R hF hW f n : Nat} {fr wt : Nat → Bool} {vL : Value} {ks : List (Value × Ch)} {xs : List Sp} {L : List Ch} {W : List Nat}
theorem ralloc_arg (k : Int) (hk : k < 1) (v : Value) (w : World) : Calls Try.prog 41 #[v, .int .i64 k] w fun e w' => e = .returned (.tuple #[.slice none 0 0, .int .i64 2]) ∧ w = w' := by
  go_enter Try.func41, Try.ntmps41
  go_wp2_with fail
  go_ret2
  exact ⟨rfl, rfl⟩
theorem ralloc_full (h : Rf w B R hF hW f n fr wt vL ks) (hn : n ≤ 4096) (k : Int) (hk : 1 ≤ k) (hc : (cb fr n : Int) < k) : Calls Try.prog 41 #[.pointer (some ⟨R, 0, none⟩), .int .i64 k] w fun e w' => e = .returned (.tuple #[.slice none 0 0, .int .i64 7]) ∧ w = w' := by
  have HF := Lib.hid (frees_c h hn)
  generalize cb fr n = c at *
  clear h
  go_enter Try.func41, Try.ntmps41
  go_wp2_with fail
  refine HF.out.mono ?_; rintro e w1 ⟨rfl, rfl⟩
  go_wp2_with fail
  go_ret2
  exact ⟨rfl, rfl⟩
set_option maxHeartbeats 8000000 in
theorem ralloc_some (h : Rf w B R hF hW f n fr wt vL ks) (hs : ks.map (·.2) = L) (hi : Go.Alloc.Inv f n xs L W) (hfr : ∀ j, j < n → fr j = hasB xs j) (k : Int) (hk : 1 ≤ k) (hc : k ≤ (cnt xs : Int)) :
    Calls Try.prog 41 #[.pointer (some ⟨R, 0, none⟩), .int .i64 k] w fun e w' => ∃ P C, e = .returned (.tuple #[.slice P ((elems xs).take k.toNat).length C, .int .i64 0]) ∧ Sl w' (.slice P ((elems xs).take k.toNat).length C) (nz ((elems xs).take k.toNat)) ∧
      ∃ vL' ks', Rf w' B R hF hW f n (fun j => hasB xs j && !decide (j ∈ (elems xs).take k.toNat)) wt vL' ks' ∧ ks'.map (·.2) = insC ⟨(elems xs).take k.toNat, 1, false⟩ L ∧ Kp w w' (rb R hF hW vL) := by
  have hcb : cb fr n = cnt xs := (cb_ext hfr).trans (cb_cnt hi.ok (fun _ => rfl))
  have hfr0 := (frees_c h hi.hi).mono (fun _ _ hh => (⟨hh.1, hh.2.symm⟩ : _ ∧ _))
  rw [hcb] at hfr0
  have HFR := Lib.hid hfr0
  clear hfr0
  have hcn := cnt_le hi.ok
  have hhi := hi.hi
  obtain ⟨K, hK⟩ : ∃ K : Nat, k.toNat = K := ⟨_, rfl⟩
  have hkK : k = (K : Int) := by omega
  rw [hK]
  subst hkK
  have hel : fre xs n = elems xs := elems_eq hi.ok
  have hlo : ∀ j, hasB xs j = true → f ≤ j := fun j hj => (hi.mem.1 (.inl hj)).1
  have hf0 : fre xs f = [] := by
    apply List.eq_nil_iff_forall_not_mem.2
    intro j hj
    obtain ⟨h1, h2⟩ := fre_mem.1 hj
    have := hlo j h2
    omega
  have helen : (elems xs).length = cnt xs := elems_len xs
  have hfn := hi.lt
  obtain ⟨_, a1, _, _, _⟩ := h.cells
  obtain ⟨w1, ew1⟩ : ∃ w1, w.alloc (.cells #[.slice none 0 0, .int .i64 1, .bool false] 85) = w1 := ⟨_, rfl⟩
  have hb1 : Below w.heap.size w w1 := by rw [← ew1]; exact below_alloc (Below.refl _ w) _
  have hA : Ag w w1 hF n (fun j => hasB xs j && !decide (j < f)) none 0 0 (fre xs f) := by
    refine ⟨Kp.of_below hb1 _, (h.fb.below hb1).ext (fun j hj => ?_), by rw [← ew1]; exact Is.new w 85 _, by rw [hf0]; exact ⟨rfl, .inl ⟨rfl, rfl⟩⟩, by rw [hf0]; rfl⟩
    rw [hfr j hj]
    cases hb : hasB xs j with
    | false => rfl
    | true => simp [hlo j hb]
  have hne : ∀ x ∈ ks, x.2.secs ≠ [] := fun x hx => hi.ne x.2 (by rw [← hs]; exact List.mem_map.2 ⟨x, hx, rfl⟩)
  have hkl : ks.length ≤ 4096 := by have := hi.llen; rw [← hs, List.length_map] at this; exact this
  obtain ⟨a0', -, -, -, -⟩ := (h.below hb1).cells
  rw [← ew1] at a0'
  have HEW := Lib.hid ew1
  clear ew1
  have H := Lib.hid h
  have HS := Lib.hid hs
  have HA := Lib.hid hA
  have HEL := Lib.hid hel
  have HLO := Lib.hid hlo
  have HLEN := Lib.hid helen
  have HNE := Lib.hid hne
  have HKL := Lib.hid hkl
  have HCN := Lib.hid hcn
  have hcc : (K : Int) ≤ (cnt xs : Int) := hc
  generalize hcg : cnt xs = cx at *
  clear h hs hi hfr hcb hel hlo hf0 helen hb1 hA hne hkl hK hcn a1 hcg
  have hcd : decide (cx < K) = false := by simp; omega
  go_enter Try.func41, Try.ntmps41
  go_wp2_with fail
  refine HFR.out.mono ?_; rintro e w2 ⟨rfl, rfl⟩
  go_wp2_with fail
  try simp only [hcd]
  rw [HEW.out]
  obtain ⟨b, hb⟩ : ∃ b, w.heap.size = b := ⟨_, rfl⟩
  simp only [hb]
  go_loopw [7] (fun i wr => ∃ (q : Nat) (P : Option Addr) (C z : Nat), i = .int .i64 (q : Int) ∧ f ≤ q ∧ q ≤ n ∧ z ≤ K ∧ Ag w wr hF n (fun j => hasB xs j && !decide (j < q)) P C z (fre xs q)) (fun i _ => n - (RowKit.intOf i).toNat)
  case atStart => exact ⟨f, none, 0, 0, rfl, Nat.le_refl _, by omega, Nat.zero_le _, HA.out⟩
  case round =>
    obtain ⟨q, P, C, z, rfl, hq1, hq2, hzK, ha⟩ := hrel
    clear HA a0'
    have hr := ha.rf H.out
    obtain ⟨_, a1, a2, _, _⟩ := hr.cells
    have x0 := ha.box.cell 0
    simp at x0
    rw [hb] at x0
    have HAg := Lib.hid ha
    by_cases hqn : q < n
    · by_cases hzk : z < K
      · have hzk' : (z : Int) < (K : Int) := by omega
        have cF := hr.fb.cell q hqn
        simp only [Nat.lt_irrefl, decide_false, Bool.not_false, Bool.and_true] at cF
        by_cases hbq : hasB xs q = true
        · rw [hbq] at cF
          have fF := hr.fb.frozen q
          obtain ⟨w3, ew3⟩ : ∃ w3, wr.setCell ⟨hF, q, none⟩ (.bool false) = w3 := ⟨_, rfl⟩
          obtain ⟨i1, P', C', V3, hrun, i3, hag⟩ := ag_step ha (by have := HCN.out; omega) q ew3
          have y0 := i1.cell 0
          have z0 := i3.cell 0
          have z1 := i3.frozen 0
          simp at y0 z0
          rw [hb] at y0 z0 z1 hag
          rw [← fre_yes hbq] at hag
          have HAG := Lib.hid hag
          clear ha hr i1 i3 hag
          go_wp2_with (first
            | (at_builtin; refine Lib.wpList_append_run _ rfl _ _ _ _ rfl _ _ rfl rfl _ _ hrun ?_; clear hrun))
          all_goals
            go_roundw
            case rel =>
              refine ⟨q + 1, P', C', z + 1, by go_num, by omega, by omega, by omega, HAG.out.ext (fun j _ => ?_)⟩
              by_cases e : j = q
              · subst e; simp
              · have : (j < q) = (j < q + 1) := propext ⟨fun h => by omega, fun h => by omega⟩
                simp [e, this]
            case measure => simp [RowKit.intOf]; omega
        · have hbf : hasB xs q = false := by simpa using hbq
          rw [hbf] at cF
          clear ha hr hbq
          go_wp2_with fail
          go_roundw
          case rel =>
            refine ⟨q + 1, P, C, z, by go_num, by omega, by omega, hzK, ?_⟩
            rw [fre_no hbf]
            refine HAg.out.ext (fun j _ => ?_)
            by_cases e : j = q
            · subst e; simp [hbf]
            · have : (j < q) = (j < q + 1) := propext ⟨fun h => by omega, fun h => by omega⟩
              simp [this]
          case measure => simp [RowKit.intOf]; omega
      · have hzk' : ¬ (z : Int) < (K : Int) := by omega
        obtain ⟨hzK', htk⟩ : z = K ∧ (elems xs).take K = fre xs q := by
          have hz : z = K := by omega
          refine ⟨hz, ?_⟩
          obtain ⟨l, hl⟩ := fre_pre (xs := xs) hq2
          rw [← HEL.out, hl, ← hz, ← ha.len, List.take_left]
        subst hzK'
        have hnx : fre xs q ≠ [] := by
          intro e
          have := ha.len
          rw [e] at this
          simp at this
          omega
        have hlen := ha.len
        have hpc := put_c hr HNE.out HKL.out (x := (.slice P z C, ⟨fre xs q, 1, false⟩)) hnx (by simp only; rw [hlen]; exact low_row ha.row (Nat.zero_le _))
        simp only at hpc
        rw [show (((1 : Nat) : Int)) = 1 from rfl] at hpc
        have HPC := Lib.hid hpc
        have HTK := Lib.hid htk
        have HHR := Lib.hid hr
        have x1 := ha.box.cell 1
        have x2 := ha.box.cell 2
        simp at x1 x2
        rw [hb] at x1 x2
        clear hr ha hpc htk hlen hnx
        go_wp2_with fail
        refine HPC.out.mono ?_; rintro e w5 ⟨⟨_, rfl⟩, vL', ks', hrf, hmap, hkp5⟩
        have hi5 := hkp5.is HAg.out.box (fun hm => HAg.out.box.ne HHR.out.one (by decide) (by simpa using hm))
        have hrow := row_kpe HAg.out.row hkp5 (fun g hg cs hi => by simp at hg; subst hg; exact hi.ne HHR.out.one (by decide) rfl)
        have y0 := hi5.cell 0
        simp at y0
        rw [hb] at y0
        have e2 : (nz (fre xs q)).length = z := by rw [← HAg.out.len]; simp [nz]
        have HSL : Hid (Sl w5 (.slice P z C) (nz (fre xs q))) := Lib.hid (own_sl_len e2 hrow)
        have HRF := Lib.hid hrf
        have HMP := Lib.hid hmap
        have HKP := Lib.hid ((HAg.out.kp.more (Y := rb R hF hW vL) (fun g hg => by simp at hg; subst hg; simp [rb])).trans hkp5 (fun g hg => .inl (by simp at hg; subst hg; simp [rb])))
        have HLN := Lib.hid HAg.out.len
        clear hrf hmap hkp5 hi5 hrow x0 x1 x2 a1 a2 HPC e2
        go_wp2_with fail
        go_ret2
        refine ⟨P, C, ?_, ?_, vL', ks', ?_, ?_, HKP.out⟩
        · rw [HTK.out, HLN.out]; rfl
        · rw [HTK.out, HLN.out]; exact HSL.out
        · refine HRF.out.ext (fun j _ => ?_) (fun j _ => rfl)
          rw [HTK.out]
          cases hbj : hasB xs j with
          | false => rfl
          | true =>
            have : (j ∈ fre xs q) ↔ j < q := by rw [fre_mem]; simp [hbj]
            simp [this]
        · rw [HTK.out, HMP.out, HS.out]
    · obtain rfl : q = n := by omega
      obtain ⟨hzK', htk⟩ : z = K ∧ (elems xs).take K = fre xs q := by
        have hl := ha.len
        rw [HEL.out, HLEN.out] at hl
        refine ⟨by omega, ?_⟩
        rw [HEL.out, List.take_of_length_le (by rw [HLEN.out]; omega)]
      subst hzK'
      have hnx : fre xs q ≠ [] := by
        intro e
        have := ha.len
        rw [e] at this
        simp at this
        omega
      have hlen := ha.len
      have hpc := put_c hr HNE.out HKL.out (x := (.slice P z C, ⟨fre xs q, 1, false⟩)) hnx (by simp only; rw [hlen]; exact low_row ha.row (Nat.zero_le _))
      simp only at hpc
      rw [show (((1 : Nat) : Int)) = 1 from rfl] at hpc
      have HPC := Lib.hid hpc
      have HTK := Lib.hid htk
      have HHR := Lib.hid hr
      have x1 := ha.box.cell 1
      have x2 := ha.box.cell 2
      simp at x1 x2
      rw [hb] at x1 x2
      clear hr ha hpc htk hlen hnx
      go_wp2_with fail
      refine HPC.out.mono ?_; rintro e w5 ⟨⟨_, rfl⟩, vL', ks', hrf, hmap, hkp5⟩
      have hi5 := hkp5.is HAg.out.box (fun hm => HAg.out.box.ne HHR.out.one (by decide) (by simpa using hm))
      have hrow := row_kpe HAg.out.row hkp5 (fun g hg cs hi => by simp at hg; subst hg; exact hi.ne HHR.out.one (by decide) rfl)
      have y0 := hi5.cell 0
      simp at y0
      rw [hb] at y0
      have e2 : (nz (fre xs q)).length = z := by rw [← HAg.out.len]; simp [nz]
      have HSL : Hid (Sl w5 (.slice P z C) (nz (fre xs q))) := Lib.hid (own_sl_len e2 hrow)
      have HRF := Lib.hid hrf
      have HMP := Lib.hid hmap
      have HKP := Lib.hid ((HAg.out.kp.more (Y := rb R hF hW vL) (fun g hg => by simp at hg; subst hg; simp [rb])).trans hkp5 (fun g hg => .inl (by simp at hg; subst hg; simp [rb])))
      have HLN := Lib.hid HAg.out.len
      clear hrf hmap hkp5 hi5 hrow x0 x1 x2 a1 a2 HPC e2
      go_wp2_with fail
      go_ret2
      refine ⟨P, C, ?_, ?_, vL', ks', ?_, ?_, HKP.out⟩
      · rw [HTK.out, HLN.out]; rfl
      · rw [HTK.out, HLN.out]; exact HSL.out
      · refine HRF.out.ext (fun j _ => ?_) (fun j _ => rfl)
        rw [HTK.out]
        cases hbj : hasB xs j with
        | false => rfl
        | true =>
          have : (j ∈ fre xs q) ↔ j < q := by rw [fre_mem]; simp [hbj]
          simp [this]
      · rw [HTK.out, HMP.out, HS.out]
end
end Go.Proofs.Ytnpjbddannkgfaa
namespace Go.Proofs.Ytnpjbddannkgfaa
open Go.ChangeShapes Go.WideShapes Go.RowKit Go.Maps Go.Spans Go.Alloc
set_option maxRecDepth 100000
section
variable {w : World} {B R hF hW f n : Nat} {fr wt : Nat → Bool} {vL : Value} {ks : List (Value × Ch)} {xs ys : List Sp} {L : List Ch} {W W' : List Nat}
theorem ralloc_c (h : Rf w B R hF hW f n fr wt vL ks) (hs : ks.map (·.2) = L) (hi : Go.Alloc.Inv f n xs L W) (hfr : ∀ j, j < n → fr j = hasB xs j) (k : Int) :
    Calls Try.prog 41 #[.pointer (some ⟨R, 0, none⟩), .int .i64 k] w fun e w' => ∃ P C, e = .returned (.tuple #[.slice P (takeL xs k).length C, .int .i64 (takeE xs k)]) ∧ Sl w' (.slice P (takeL xs k).length C) (nz (takeL xs k)) ∧
      ∃ fr' vL' ks', Rf w' B R hF hW f n fr' wt vL' ks' ∧ (∀ j, j < n → fr' j = hasB (takeX xs k) j) ∧ ks'.map (·.2) = (if takeE xs k = 0 then insC ⟨takeL xs k, 1, false⟩ L else L) ∧ Kp w w' (rb R hF hW vL) := by
  by_cases h1 : k < 1
  · have e1 : takeE xs k = 2 := by unfold takeE; rw [if_pos h1]
    have e2 : takeL xs k = [] := by unfold takeL; rw [if_pos (.inl h1)]
    have e3 : takeX xs k = xs := by unfold takeX; rw [if_pos (.inl h1)]
    rw [e1, e2, e3]
    refine (ralloc_arg k h1 _ w).mono ?_
    rintro e w' ⟨rfl, rfl⟩
    exact ⟨none, 0, rfl, ⟨none, 0, rfl, fun j y hj => by simp [nz] at hj⟩, fr, vL, ks, h, hfr, by rw [if_neg (by decide), hs], Kp.refl _ _⟩
  · by_cases h2 : (cnt xs : Int) < k
    · have e1 : takeE xs k = 7 := by unfold takeE; rw [if_neg h1, if_pos h2]
      have e2 : takeL xs k = [] := by unfold takeL; rw [if_pos (.inr h2)]
      have e3 : takeX xs k = xs := by unfold takeX; rw [if_pos (.inr h2)]
      rw [e1, e2, e3]
      have hcb : cb fr n = cnt xs := (cb_ext hfr).trans (cb_cnt hi.ok (fun _ => rfl))
      refine (ralloc_full h hi.hi k (by omega) (by rw [hcb]; exact h2)).mono ?_
      rintro e w' ⟨rfl, rfl⟩
      exact ⟨none, 0, rfl, ⟨none, 0, rfl, fun j y hj => by simp [nz] at hj⟩, fr, vL, ks, h, hfr, by rw [if_neg (by decide), hs], Kp.refl _ _⟩
    · have e1 : takeE xs k = 0 := by unfold takeE; rw [if_neg h1, if_neg h2]
      obtain ⟨-, -, e2, -, e3⟩ := take_facts hi.ok e1
      rw [e1, if_pos rfl, e2]
      rw [e2] at e3
      refine (ralloc_some h hs hi hfr k (by omega) (by omega)).mono ?_
      rintro e w' ⟨P, C, rfl, hsl, vL', ks', hrf, hmap, hkp⟩
      exact ⟨P, C, rfl, hsl, _, vL', ks', hrf, fun j _ => (e3 j).symm, hmap, hkp⟩
theorem drop_fr {p : Int} (hd : dropS L p xs ys W W') (j : Nat) : hasB ys j = (hasB xs j || decide (j ∈ gone L p false)) ∧ decide (j ∈ W') = (decide (j ∈ W) || decide (j ∈ gone L p true)) := by
  unfold dropS at hd
  unfold gone
  cases hf : findC L p with
  | none =>
    rw [hf] at hd
    obtain ⟨rfl, rfl⟩ := hd
    simp
  | some c =>
    rw [hf] at hd
    simp only at hd
    by_cases hr : c.refs ≤ 1
    · rw [if_pos hr] at hd
      cases hs : c.sure with
      | true =>
        rw [hs, if_pos rfl] at hd
        obtain ⟨rfl, hp⟩ := hd
        refine ⟨by simp [hs], ?_⟩
        have := hp.mem_iff (a := j)
        rw [List.mem_append] at this
        simp [hr, hs, this]
        cases hh : decide (j ∈ W) <;> cases hh2 : decide (j ∈ c.secs) <;> simp_all
      | false =>
        rw [hs, if_neg (by simp)] at hd
        obtain ⟨rfl, hp⟩ := hd
        exact ⟨by rw [hp j]; simp [hr, hs], by simp [hs]⟩
    · rw [if_neg hr] at hd
      obtain ⟨rfl, rfl⟩ := hd
      simp [hr]
end
/-- Both allocators, of the call's own. -/
structure Pl (W w : World) (A R hF hW f n : Nat) (xs : List Sp) (L : List Ch) (Wt : List Nat) (fr wt : Nat → Bool) (vL : Value) (ks : List (Value × Ch)) : Prop where
  oi : Oi W.heap.size W w A f n xs L Wt
  rf : Rf w W.heap.size R hF hW f n fr wt vL ks
  same : ks.map (·.2) = L
  fre : ∀ j, j < n → fr j = hasB xs j
  wai : ∀ j, j < n → wt j = decide (j ∈ Wt)
section
variable {W w w' : World} {A B R hF hW f n : Nat} {xs : List Sp} {L : List Ch} {Wt : List Nat} {fr wt : Nat → Bool} {vL : Value} {ks : List (Value × Ch)}
theorem Pl.later (h : Pl W w A R hF hW f n xs L Wt fr wt vL ks) (hb : Below w.heap.size w w') : Pl W w' A R hF hW f n xs L Wt fr wt vL ks := ⟨h.oi.later hb, h.rf.below hb, h.same, h.fre, h.wai⟩
/-- A row of numbers stays under the document's calls. -/
theorem Rf.ints (h : Rf w B R hF hW f n fr wt vL ks) (hk : Kp w w' (rb R hF hW vL)) {b z : Nat} {v : Value} {cs : List Value} (hr : w.ownsRow b 3 1 v z cs) : w'.ownsRow b 3 1 v z cs :=
  row_kpe hr hk (fun g hg cs hi => by
    obtain ⟨⟨t', cs', hi', ht⟩, _⟩ := h.xs g hg
    rcases ht with rfl | rfl | rfl <;> exact hi.ne hi' (by decide) rfl)
theorem Rf.box (h : Rf w B R hF hW f n fr wt vL ks) (hk : Kp w w' (rb R hF hW vL)) {b : Nat} {cs : Array Value} (hi : Is w b 30 cs) : Is w' b 30 cs :=
  hk.is hi (fun hm => by
    obtain ⟨⟨t', cs', hi', ht⟩, _⟩ := h.xs b hm
    rcases ht with rfl | rfl | rfl <;> exact hi.ne hi' (by decide) rfl)
end
def PL (W w : World) (A R f n : Nat) : Prop := ∃ hF hW xs L Wt fr wt vL ks, Pl W w A R hF hW f n xs L Wt fr wt vL ks
theorem PL.later {W w w' : World} {A R f n : Nat} (h : PL W w A R f n) (hb : Below w.heap.size w w') : PL W w' A R f n := by
  obtain ⟨hF, hW, xs, L, Wt, fr, wt, vL, ks, hp⟩ := h
  exact ⟨hF, hW, xs, L, Wt, fr, wt, vL, ks, hp.later hb⟩
theorem tm5 (n : Nat) : Int.tmod (n : Int) 5 = ((n % 5 : Nat) : Int) := by
  rw [Int.tmod_eq_emod_of_nonneg (by omega)]; omega
section
variable {W w : World} {A R f n : Nat}
set_option maxHeartbeats 4000000 in
theorem one_0 (h : PL W w A R f n) (wh : Nat) (p : Int) (hp : i64r p) (hm : wh % 5 = 0) :
    Calls Try.prog 16 #[.pointer (some ⟨A, 0, none⟩), .pointer (some ⟨R, 0, none⟩), .agg #[.int .u8 (wh : Nat), .int .i64 p]] w fun e w' => e = .returned (.bool true) ∧ PL W w' A R f n := by
  obtain ⟨hF, hW, xs, L, Wt, fr, wt, vL, ks, h0⟩ := h
  have hpl := h0.later (below_alloc (Below.refl _ w) (.cells #[.int .u8 (wh : Nat), .int .i64 p] 30))
  have hi := Is.new w 30 #[.int .u8 (wh : Nat), .int .i64 p]
  have t5 := tm5 wh
  rw [hm] at t5
  have e5 : ((0 : Nat) : Int) = 0 := rfl
  rw [e5] at t5
  have c0 := hi.cell 0
  have c1 := hi.cell 1
  simp at c0 c1
  have HP := Lib.hid hpl
  have HI := Lib.hid hi
  have HPP := Lib.hid hp
  clear h0 hpl hi hm e5 hp
  go_enter Try.func16, Try.ntmps16
  have C20 := Lib.hid (HP.out.oi.alloc p)
  go_wp2_with fail
  refine C20.out.mono ?_; rintro e w1 ⟨P, C, hkq, hrow, rfl, hoi⟩
  have hr1 := HP.out.rf.kq hkq
  have hi1 := hkq.is _ _ _ HI.out (by decide) (by decide)
  have C41 := Lib.hid (ralloc_c hr1 HP.out.same HP.out.oi.inv HP.out.fre p)
  have HR1 := Lib.hid hr1
  have HOI := Lib.hid hoi
  have HROW := Lib.hid hrow
  clear c0 c1
  have c1 := hi1.cell 1
  simp at c1
  clear C20 hkq hr1 hi1 hoi hrow
  go_wp2_with fail
  refine C41.out.mono ?_; rintro e w2 ⟨P2, C2, rfl, hsl, fr2, vL2, ks2, hrf, hfr, hmap, hkp⟩
  have hrow2 := HR1.out.ints hkp HROW.out
  have e2 : (nz (takeL xs p)).length = (takeL xs p).length := by simp [nz]
  have e3 : ints (takeL xs p) = zs (nz (takeL xs p)) := by simp [ints, zs, nz, Function.comp_def]
  rw [e3] at hrow2
  have hs1 := own_sl_len e2 hrow2
  have C42 := Lib.hid (ints_c hs1 hsl (by
    rw [e2]
    by_cases hE : takeE xs p = 0
    · have := (inv_alloc HP.out.oi.inv hE HOI.out.inv.ok).2.2.1
      omega
    · unfold takeL
      unfold takeE at hE
      by_cases h1 : p < 1
      · rw [if_pos (.inl h1)]; simp
      · rw [if_neg h1] at hE
        by_cases h2 : (cnt xs : Int) < p
        · rw [if_pos (.inr h2)]; simp
        · rw [if_neg h2] at hE; exact absurd rfl hE))
  have HF : Hid (Pl W w2 A R hF hW f n (takeX xs p) (if takeE xs p = 0 then insC ⟨takeL xs p, 1, false⟩ L else L) Wt fr2 wt vL2 ks2) := Lib.hid ⟨HOI.out.rf HR1.out (Nat.le_refl _) hkp, hrf, hmap, hfr, HP.out.wai⟩
  clear hrow2 e2 e3 hs1 hsl hrf hfr hmap hkp C41 c1
  go_wp2_with fail
  refine C42.out.mono ?_; rintro e w3 ⟨rfl, hb⟩
  have HG := Lib.hid (HF.out.later hb)
  clear hb
  go_wp2_with fail
  go_ret
  exact ⟨rfl, _, _, _, _, _, _, _, _, _, HG.out⟩
set_option maxHeartbeats 4000000 in
theorem one_1 (h : PL W w A R f n) (wh : Nat) (p : Int) (hp : i64r p) (hm : wh % 5 = 1) :
    Calls Try.prog 16 #[.pointer (some ⟨A, 0, none⟩), .pointer (some ⟨R, 0, none⟩), .agg #[.int .u8 (wh : Nat), .int .i64 p]] w fun e w' => e = .returned (.bool true) ∧ PL W w' A R f n := by
  obtain ⟨hF, hW, xs, L, Wt, fr, wt, vL, ks, h0⟩ := h
  have hpl := h0.later (below_alloc (Below.refl _ w) (.cells #[.int .u8 (wh : Nat), .int .i64 p] 30))
  have hi := Is.new w 30 #[.int .u8 (wh : Nat), .int .i64 p]
  have t5 := tm5 wh
  rw [hm] at t5
  have e5 : ((1 : Nat) : Int) = 1 := rfl
  rw [e5] at t5
  have c0 := hi.cell 0
  have c1 := hi.cell 1
  simp at c0 c1
  have HP := Lib.hid hpl
  have HI := Lib.hid hi
  have HPP := Lib.hid hp
  clear h0 hpl hi hm e5 hp
  go_enter Try.func16, Try.ntmps16
  have C20 := Lib.hid (HP.out.oi.hold p HPP.out)
  go_wp2_with fail
  refine C20.out.mono ?_; rintro e w1 ⟨rfl, hkq, hoi⟩
  have hr1 := HP.out.rf.kq hkq
  have hi1 := hkq.is _ _ _ HI.out (by decide) (by decide)
  have C41 := Lib.hid (rhold_c hr1 HP.out.same HP.out.oi.inv p HPP.out)
  have HR1 := Lib.hid hr1
  have HOI := Lib.hid hoi
  clear c0 c1
  have c1 := hi1.cell 1
  simp at c1
  clear C20 hkq hr1 hi1 hoi
  go_wp2_with fail
  refine C41.out.mono ?_; rintro e w2 ⟨rfl, ks2, hrf, hmap, hkp⟩
  have HF : Hid (Pl W w2 A R hF hW f n xs (holdL L p) Wt fr wt vL ks2) := Lib.hid ⟨HOI.out.rf HR1.out (Nat.le_refl _) hkp, hrf, hmap, HP.out.fre, HP.out.wai⟩
  clear hrf hmap hkp C41 c1
  go_wp2_with fail
  go_ret
  exact ⟨rfl, _, _, _, _, _, _, _, _, _, HF.out⟩
set_option maxHeartbeats 4000000 in
theorem one_2 (h : PL W w A R f n) (wh : Nat) (p : Int) (hp : i64r p) (hm : wh % 5 = 2) :
    Calls Try.prog 16 #[.pointer (some ⟨A, 0, none⟩), .pointer (some ⟨R, 0, none⟩), .agg #[.int .u8 (wh : Nat), .int .i64 p]] w fun e w' => e = .returned (.bool true) ∧ PL W w' A R f n := by
  obtain ⟨hF, hW, xs, L, Wt, fr, wt, vL, ks, h0⟩ := h
  have hpl := h0.later (below_alloc (Below.refl _ w) (.cells #[.int .u8 (wh : Nat), .int .i64 p] 30))
  have hi := Is.new w 30 #[.int .u8 (wh : Nat), .int .i64 p]
  have t5 := tm5 wh
  rw [hm] at t5
  have e5 : ((2 : Nat) : Int) = 2 := rfl
  rw [e5] at t5
  have c0 := hi.cell 0
  have c1 := hi.cell 1
  simp at c0 c1
  have HP := Lib.hid hpl
  have HI := Lib.hid hi
  have HPP := Lib.hid hp
  clear h0 hpl hi hm e5 hp
  go_enter Try.func16, Try.ntmps16
  have C20 := Lib.hid (HP.out.oi.drop p HPP.out)
  go_wp2_with fail
  refine C20.out.mono ?_; rintro e w1 ⟨rfl, hkq, ys, W', hds, hoi⟩
  have hr1 := HP.out.rf.kq hkq
  have hi1 := hkq.is _ _ _ HI.out (by decide) (by decide)
  have C41 := Lib.hid (rdrop_c hr1 HP.out.same HP.out.oi.inv p HPP.out)
  have HR1 := Lib.hid hr1
  have HOI := Lib.hid hoi
  have HDS := Lib.hid hds
  clear c0 c1
  have c1 := hi1.cell 1
  simp at c1
  clear C20 hkq hr1 hi1 hoi hds
  go_wp2_with fail
  refine C41.out.mono ?_; rintro e w2 ⟨rfl, vL2, ks2, hrf, hmap, hkp⟩
  have HF : Hid (Pl W w2 A R hF hW f n ys (dropL' L p) W' _ _ vL2 ks2) := Lib.hid ⟨HOI.out.rf HR1.out (Nat.le_refl _) hkp, hrf, hmap, fun j hj => by rw [(drop_fr HDS.out j).1, HP.out.fre j hj], fun j hj => by rw [(drop_fr HDS.out j).2, HP.out.wai j hj]⟩
  clear hrf hmap hkp C41 c1
  go_wp2_with fail
  go_ret
  exact ⟨rfl, _, _, _, _, _, _, _, _, _, HF.out⟩
set_option maxHeartbeats 4000000 in
theorem one_3 (h : PL W w A R f n) (wh : Nat) (p : Int) (hp : i64r p) (hm : wh % 5 = 3) :
    Calls Try.prog 16 #[.pointer (some ⟨A, 0, none⟩), .pointer (some ⟨R, 0, none⟩), .agg #[.int .u8 (wh : Nat), .int .i64 p]] w fun e w' => e = .returned (.bool true) ∧ PL W w' A R f n := by
  obtain ⟨hF, hW, xs, L, Wt, fr, wt, vL, ks, h0⟩ := h
  have hpl := h0.later (below_alloc (Below.refl _ w) (.cells #[.int .u8 (wh : Nat), .int .i64 p] 30))
  have hi := Is.new w 30 #[.int .u8 (wh : Nat), .int .i64 p]
  have t5 := tm5 wh
  rw [hm] at t5
  have e5 : ((3 : Nat) : Int) = 3 := rfl
  rw [e5] at t5
  have c0 := hi.cell 0
  have c1 := hi.cell 1
  simp at c0 c1
  have HP := Lib.hid hpl
  have HI := Lib.hid hi
  have HPP := Lib.hid hp
  clear h0 hpl hi hm e5 hp
  go_enter Try.func16, Try.ntmps16
  have C20 := Lib.hid HP.out.oi.commit
  go_wp2_with fail
  refine C20.out.mono ?_; rintro e w1 ⟨rfl, hkq, ys, hys, hoi⟩
  have hr1 := HP.out.rf.kq hkq
  have hkl : ks.length ≤ 4096 := by have := HP.out.oi.inv.llen; rw [← HP.out.same, List.length_map] at this; exact this
  have C41 := Lib.hid (rcommit_c hr1 hkl HP.out.oi.inv.hi)
  have HR1 := Lib.hid hr1
  have HOI := Lib.hid hoi
  have HYS := Lib.hid hys
  clear C20 hkq hr1 hoi hys hkl c0 c1
  go_wp2_with fail
  refine C41.out.mono ?_; rintro e w2 ⟨rfl, ks2, hrf, hmap, hkp⟩
  have HF : Hid (Pl W w2 A R hF hW f n ys (sureC L) [] _ _ vL ks2) := Lib.hid ⟨HOI.out.rf HR1.out (Nat.le_refl _) hkp, hrf, by rw [hmap, HP.out.same], fun j hj => by rw [HYS.out j, HP.out.fre j hj, HP.out.wai j hj], fun j hj => by simp⟩
  clear hrf hmap hkp C41
  go_wp2_with fail
  go_ret
  exact ⟨rfl, _, _, _, _, _, _, _, _, _, HF.out⟩
set_option maxHeartbeats 4000000 in
theorem one_4 (h : PL W w A R f n) (wh : Nat) (p : Int) (hp : i64r p) (hm : wh % 5 = 4) :
    Calls Try.prog 16 #[.pointer (some ⟨A, 0, none⟩), .pointer (some ⟨R, 0, none⟩), .agg #[.int .u8 (wh : Nat), .int .i64 p]] w fun e w' => e = .returned (.bool true) ∧ PL W w' A R f n := by
  obtain ⟨hF, hW, xs, L, Wt, fr, wt, vL, ks, h0⟩ := h
  have hpl := h0.later (below_alloc (Below.refl _ w) (.cells #[.int .u8 (wh : Nat), .int .i64 p] 30))
  have hi := Is.new w 30 #[.int .u8 (wh : Nat), .int .i64 p]
  have t5 := tm5 wh
  rw [hm] at t5
  have e5 : ((4 : Nat) : Int) = 4 := rfl
  rw [e5] at t5
  have c0 := hi.cell 0
  have c1 := hi.cell 1
  simp at c0 c1
  have HP := Lib.hid hpl
  have HI := Lib.hid hi
  have HPP := Lib.hid hp
  clear h0 hpl hi hm e5 hp
  go_enter Try.func16, Try.ntmps16
  go_wp2_with fail
  go_ret
  exact ⟨rfl, _, _, _, _, _, _, _, _, _, HP.out⟩
theorem one_c (h : PL W w A R f n) (wh : Nat) (p : Int) (hp : i64r p) :
    Calls Try.prog 16 #[.pointer (some ⟨A, 0, none⟩), .pointer (some ⟨R, 0, none⟩), .agg #[.int .u8 (wh : Nat), .int .i64 p]] w fun e w' => e = .returned (.bool true) ∧ PL W w' A R f n := by
  have := Nat.mod_lt wh (show 0 < 5 by decide)
  obtain e | e | e | e | e : wh % 5 = 0 ∨ wh % 5 = 1 ∨ wh % 5 = 2 ∨ wh % 5 = 3 ∨ wh % 5 = 4 := by omega
  · exact one_0 h wh p hp e
  · exact one_1 h wh p hp e
  · exact one_2 h wh p hp e
  · exact one_3 h wh p hp e
  · exact one_4 h wh p hp e
end
end Go.Proofs.Ytnpjbddannkgfaa
namespace Go.Proofs.Ytnpjbddannkgfaa
open Go.ChangeShapes Go.WideShapes Go.RowKit Go.Maps Go.Spans Go.Alloc
set_option maxRecDepth 100000
theorem cb_mem {n : Nat} {W : List Nat} (hn : W.Nodup) (hl : ∀ k ∈ W, k < n) {h : Nat → Bool} (e : ∀ j, j < n → h j = decide (j ∈ W)) : cb h n = W.length := by
  rw [cb_ext e]
  unfold cb
  refine List.Perm.length_eq ?_
  rw [List.perm_ext_iff_of_nodup (List.Pairwise.filter _ List.nodup_range) hn]
  intro a
  simp only [List.mem_filter, List.mem_range, decide_eq_true_eq]
  exact ⟨fun h => h.2, fun h => ⟨hl a h, h⟩⟩
theorem pl_alike {W w : World} {A R f n : Nat} (h : PL W w A R f n) (p : Int) (hp : i64r p) :
    Calls Try.prog 17 #[.pointer (some ⟨A, 0, none⟩), .pointer (some ⟨R, 0, none⟩), .int .i64 p] w fun e w' => e = .returned (.bool true) ∧ Below w.heap.size w w' := by
  obtain ⟨hF, hW, xs, L, Wt, fr, wt, vL, ks, h0⟩ := h
  exact alike_c h0.oi h0.rf h0.same ((cb_ext h0.fre).trans (cb_cnt h0.oi.inv.ok (fun _ => rfl))) (cb_mem h0.oi.inv.wnodup (fun k hk => (h0.oi.inv.wait hk).2.1) h0.wai) p hp
theorem rest_len' {f n : Nat} {xs : List Sp} {L : List Ch} {W : List Nat} (hi : Go.Alloc.Inv f n xs L W) {l : List Od} (h : l.map tell' = L.map told) : ∀ x ∈ l, x.rest.length ≤ 8000 := fun x hx => by
  have hm : tell' x ∈ l.map tell' := List.mem_map.2 ⟨x, hx, rfl⟩
  rw [h] at hm
  obtain ⟨c, hc, e⟩ := List.mem_map.1 hm
  injection e with e1 e2
  injection e2 with e2 e3
  have := hi.slen hc
  rw [← e3]
  simp [nz]
  omega
theorem Rf.base {w : World} {B B' R hF hW f n : Nat} {fr wt : Nat → Bool} {vL : Value} {ks : List (Value × Ch)} (h : Rf w B R hF hW f n fr wt vL ks) (hb : B' ≤ B) : Rf w B' R hF hW f n fr wt vL ks :=
  ⟨h.one, h.fb, h.wb, h.ne, by have := h.lo; omega, low_row h.row hb, h.rows⟩
/-- Both are made anew. -/
theorem pl_new {W w w' : World} {A R hF hW f n : Nat} {xs : List Sp} (ho : Oi W.heap.size W w A f n xs [] []) (hx : ∀ j, hasB xs j = decide (f ≤ j ∧ j < n)) (hr : Rf w' w.heap.size R hF hW f n (fun j => decide (f ≤ j ∧ j < n)) (fun _ => false) (.slice none 0 0) []) (hb : Below w.heap.size w w') : PL W w' A R f n :=
  ⟨hF, hW, xs, [], [], _, _, _, [], ho.later hb, hr.base ho.lt, rfl, fun j _ => (hx j).symm, fun j _ => by simp⟩
/-- Both are loaded from the list of the one. -/
theorem pl_load {W w2 w3 w4 : World} {A R hF hW f n : Nat} {xs ys : List Sp} {L : List Ch} {Wt : List Nat} {vL : Value} {ks : List (Value × Ch)} {l : List Od} {m : Nat} (hi : Go.Alloc.Inv f n xs L Wt) (hs : l.map tell' = L.map told) (hm : l.length = m)
    (ho : Oi W.heap.size W w2 A f n ys (sureC L) []) (hys : ∀ j, hasB ys j = (decide (f ≤ j ∧ j < n) && !decide (j ∈ allS L))) (hb3 : Below w2.heap.size w2 w3) (hr : Rl w3 w4 R hF hW f n vL ks l m []) : PL W w4 A R f n := by
  obtain ⟨h1, h2, h3⟩ := list_loads hi hs
  have e : l.take m = l := by rw [← hm, List.take_length]
  have hrf := hr.rf
  have hsm := hr.same
  rw [e, List.append_nil, h3] at hrf
  rw [e, h2] at hsm
  have hb4 := hb3.trans (hr.below.mono hb3.size)
  refine ⟨hF, hW, ys, sureC L, [], _, _, vL, ks, ho.later hb4, hrf.base (Nat.le_trans ho.lt hb3.size), hsm, fun j hj => ?_, fun j _ => by simp⟩
  unfold frO
  rw [hys j]
  congr 2
  rw [decide_eq_decide]
  unfold nz
  rw [List.mem_map]
  constructor
  · rintro ⟨a, ha, e9⟩
    obtain rfl : a = j := by omega
    exact ha
  · exact fun h => ⟨j, h, rfl⟩
theorem pl_below {W w : World} {A R f n : Nat} (h : PL W w A R f n) : Below W.heap.size W w := by
  obtain ⟨hF, hW, xs, L, Wt, fr, wt, vL, ks, h0⟩ := h
  exact h0.oi.below
set_option maxHeartbeats 16000000 in
theorem plays_c (W : World) (i0 i1 : Int) (hr0 : -9223372036854775808 ≤ i0 ∧ i0 ≤ 9223372036854775807) (hr1 : -9223372036854775808 ≤ i1 ∧ i1 ≤ 9223372036854775807) (A2 : Option Addr) (l : List Ac) (cap : Nat) (hl : l.length ≤ maxLen) (h0 : Acts W W.heap.size A2 l) :
    Calls Try.prog 3 #[.int .i64 i0, .int .i64 i1, .slice A2 l.length cap] W fun e w' => e = .returned (.bool true) ∧ Below W.heap.size W w' := by
  obtain ⟨m, hm⟩ : ∃ m, l.length = m := ⟨_, rfl⟩
  unfold maxLen at hl
  rw [hm] at hl ⊢
  have H0 := Lib.hid h0
  have HM := Lib.hid hm
  have HAw := Lib.hid awake_c
  have hmc := may_c W i0 i1
  clear h0 hm
  by_cases hmay : 0 ≤ i0 ∧ i0 < i1 ∧ i1 ≤ 4096
  · rw [decide_eq_true hmay] at hmc
    obtain ⟨f, rfl⟩ := Int.eq_ofNat_of_zero_le hmay.1
    obtain ⟨n, rfl⟩ := Int.eq_ofNat_of_zero_le (show (0 : Int) ≤ i1 by omega)
    have h1 : f < n := by omega
    have h2 : n ≤ 4096 := by omega
    have HN := Lib.hid (oi_new f n h1 h2 W)
    have HMC := Lib.hid (fun wx => may_c wx (f : Int) (n : Int))
    rw [decide_eq_true hmay] at HMC
    have H12 := Lib.hid (And.intro h1 h2)
    clear hmc hmay hr0 hr1 h1 h2
    go_enter Try.func3, Try.ntmps3
    go_wp2_with fail
    refine HN.out.mono ?_; rintro e w1 ⟨A, xs, rfl, ho, hx⟩
    have HO := Lib.hid ho
    have HX := Lib.hid hx
    clear ho hx HN
    go_wp2_with fail
    refine (HMC.out _).mono ?_; rintro e w2 ⟨rfl, hw2⟩
    subst hw2
    go_wp2_with fail
    refine (rnew_c f n H12.out.1 H12.out.2 _).mono ?_; rintro e w3 ⟨R, hF, hW, rfl, hr, hb⟩
    have HP := Lib.hid (pl_new HO.out HX.out hr hb)
    clear hr hb HO HX HMC
    go_wp2_with fail
    go_loopw [7, 8, 9] (fun a r i wr => ∃ (k A R : Nat), a = .pointer (some ⟨A, 0, none⟩) ∧ r = .pointer (some ⟨R, 0, none⟩) ∧ i = .int .i64 (k : Int) ∧ k ≤ m ∧ k ≤ 150 ∧ PL W wr A R f n) (fun _ _ i _ => m - (RowKit.intOf i).toNat)
    case atStart => exact ⟨0, A, R, rfl, rfl, rfl, Nat.zero_le _, Nat.zero_le _, HP.out⟩
    case round =>
      obtain ⟨k, A, R, rfl, rfl, rfl, hkm, hk9, hp0⟩ := hrel
      have HQ0 := Lib.hid hp0
      clear hp0 HP
      by_cases hlt : k < m
      · by_cases hlt2 : k < 150
        · obtain ⟨x, hx⟩ : ∃ x, l[k]? = some x := ⟨_, List.getElem?_eq_getElem (by rw [HM.out]; exact hlt)⟩
          obtain ⟨ad, rfl, hxr, hac⟩ := H0.out.at hx
          obtain ⟨wh, p⟩ := x
          simp only at hxr hac
          have HRP := Lib.hid hxr
          have HAT := Lib.hid hac
          obtain ⟨c0, c1⟩ := hac _ (pl_below HQ0.out)
          have t5 := tm5 wh
          clear hx hxr hac
          by_cases h4 : wh % 5 = 4
          · rw [h4] at t5
            have e5 : ((4 : Nat) : Int) = 4 := rfl
            rw [e5] at t5
            clear e5 h4
            obtain ⟨hF', hW', xs', L', Wt', fr', wt', vL', ks', hpl⟩ := HQ0.out
            have C12 := Lib.hid hpl.oi.list
            have HPL := Lib.hid hpl
            clear hpl
            go_wp2_with fail
            refine C12.out.mono ?_; rintro e w1 ⟨P1, C1, l1, rfl, hls, htl, hlen, hb⟩
            have HPL1 := Lib.hid (HPL.out.later hb)
            have HTL := Lib.hid htl
            obtain ⟨m1, hm1⟩ : ∃ m1, L'.length = m1 := ⟨_, rfl⟩
            rw [hm1] at hlen
            simp only [hm1]
            have HLN := Lib.hid hlen
            have hm1l : m1 ≤ 4096 := by rw [← hm1]; exact HPL1.out.oi.inv.llen
            have HML := Lib.hid hm1l
            have C13 := Lib.hid (oi_load HPL1.out.oi.inv HPL1.out.oi.below HPL1.out.oi.lt C1 m1 hls hlen htl)
            have HLS := Lib.hid hls
            clear hls htl hlen hb C12 hm1 hm1l c0 c1 HPL
            go_wp2_with fail
            refine C13.out.mono ?_; rintro e w2 ⟨A', ys, rfl, ho2, hb2, hys⟩
            have hls2 := ls_up (HLS.out.kept hb2) hb2.size
            have C15 := Lib.hid (theirs_c C1 m1 hls2 HLN.out (by have := HML.out; omega))
            have HLS2 := Lib.hid hls2
            have HO2 := Lib.hid ho2
            have HYS := Lib.hid hys
            clear hls2 ho2 hys hb2 C13
            go_wp2_with fail
            refine C15.out.mono ?_; rintro e w3 ⟨P3, C3, rfl, hr3, hb3⟩
            have hls3 := ls_of HLS2.out hb3 hr3 hb3.size
            have C14 := Lib.hid (rload_c f n H12.out.1 H12.out.2 C3 m1 hls3 HLN.out HML.out (rest_len' HPL1.out.oi.inv HTL.out))
            have HB3 := Lib.hid hb3
            clear hr3 hb3 hls3 C15
            go_wp2_with fail
            refine C14.out.mono ?_; rintro e w4 (⟨R', hF2, hW2, vL2, ks2, rfl, hrl⟩ | ⟨hno, -⟩)
            · have HQ := Lib.hid (pl_load HPL1.out.oi.inv HTL.out HLN.out HO2.out HYS.out HB3.out hrl)
              clear hrl C14
              have hone := one_c HQ.out wh p HRP.out
              have C16 := Lib.hid hone
              obtain ⟨c0, c1⟩ := HAT.out _ (pl_below HQ.out)
              clear hone
              go_wp2_with fail
              refine C16.out.mono ?_; rintro e w7 ⟨rfl, hp7⟩
              have HQ7 := Lib.hid hp7
              have C17 := Lib.hid (pl_alike hp7 p HRP.out)
              clear c0 c1 C16
              obtain ⟨c0, c1⟩ := HAT.out _ (pl_below hp7)
              clear hp7
              go_wp2_with fail
              refine C17.out.mono ?_; rintro e w8 ⟨rfl, hb8⟩
              have HQ8 := Lib.hid (HQ7.out.later hb8)
              clear hb8 C17 c0 c1 HQ7
              go_wp2_with fail
              go_roundw
              case rel => exact ⟨k + 1, _, _, rfl, rfl, by go_num, by omega, by omega, HQ8.out⟩
              case measure => simp [RowKit.intOf]; omega
            · exact absurd (list_loads HPL1.out.oi.inv HTL.out).1 hno
          · have hm5 := Nat.mod_lt wh (show 0 < 5 by decide)
            have h5 : ¬ ((wh % 5 : Nat) : Int) = 4 := by omega
            have h6 : ((wh % 5 : Nat) : Int) < 5 := by omega
            generalize ((wh % 5 : Nat) : Int) = y at t5 h5 h6
            have HQ := HQ0
            clear h4 hm5
            have hone := one_c HQ.out wh p HRP.out
            have C16 := Lib.hid hone
            obtain ⟨c0, c1⟩ := HAT.out _ (pl_below HQ.out)
            clear hone
            go_wp2_with fail
            refine C16.out.mono ?_; rintro e w7 ⟨rfl, hp7⟩
            have HQ7 := Lib.hid hp7
            have C17 := Lib.hid (pl_alike hp7 p HRP.out)
            clear c0 c1 C16
            obtain ⟨c0, c1⟩ := HAT.out _ (pl_below hp7)
            clear hp7
            go_wp2_with fail
            refine C17.out.mono ?_; rintro e w8 ⟨rfl, hb8⟩
            have HQ8 := Lib.hid (HQ7.out.later hb8)
            clear hb8 C17 c0 c1 HQ7
            go_wp2_with fail
            go_roundw
            case rel => exact ⟨k + 1, _, _, rfl, rfl, by go_num, by omega, by omega, HQ8.out⟩
            case measure => simp [RowKit.intOf]; omega
        · obtain rfl : k = 150 := by omega
          go_wp2_with fail
          refine (HAw.out _).mono ?_; rintro e w9 ⟨rfl, hb⟩
          have HE := Lib.hid (pl_below (HQ0.out.later hb))
          clear hb
          go_wp2_with fail
          go_ret
          exact ⟨rfl, HE.out⟩
      · go_wp2_with fail
        refine (HAw.out _).mono ?_; rintro e w9 ⟨rfl, hb⟩
        have HE := Lib.hid (pl_below (HQ0.out.later hb))
        clear hb
        go_wp2_with fail
        go_ret
        exact ⟨rfl, HE.out⟩
  · rw [decide_eq_false hmay] at hmc
    have HN := Lib.hid (new_nil i0 i1 hmay W)
    have HMC := Lib.hid hmc
    clear hmc hmay
    go_enter Try.func3, Try.ntmps3
    go_wp2_with fail
    refine HN.out.mono ?_; rintro e w1 ⟨rfl, rfl⟩
    go_wp2_with fail
    refine HMC.out.mono ?_; rintro e w2 ⟨rfl, hw2⟩
    subst hw2
    go_wp2_with fail
    refine (HAw.out _).mono ?_; rintro e w3 ⟨rfl, hb⟩
    have HB := Lib.hid hb
    clear hb
    go_wp2_with fail
    go_ret
    exact ⟨rfl, HB.out⟩
end Go.Proofs.Ytnpjbddannkgfaa
