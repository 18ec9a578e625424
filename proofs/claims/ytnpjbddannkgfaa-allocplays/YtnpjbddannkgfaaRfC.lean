/- The document's put. Conditions: none. -/
import Derived.Test.YtnpjbddannkgfaaRfB
import Derived.Deep.Upon
namespace Go.Proofs.Ytnpjbddannkgfaa
open Go.ChangeShapes Go.WideShapes Go.RowKit Go.Maps Go.Spans Go.Alloc
set_option maxRecDepth 100000
/-- A list of chains in the document's type lies as the one that it was made of. -/
theorem ls_of {w w' : World} {B b m C e : Nat} {P P' : Option Addr} {l : List Od} (h : Ls w B P l) (hb : Below B w w') (hr : w'.ownsRow b e 3 (.slice P' m C) l.length (ocs l)) (hs : B ≤ w'.heap.size) : Ls w' w'.heap.size P' l := by
  intro i x hx
  have hlt := (List.getElem?_eq_some_iff.1 hx).1
  have hix : l[i] = x := (List.getElem?_eq_some_iff.1 hx).2
  obtain ⟨h1, h2, _⟩ := (h.kept hb) i x hx
  refine ⟨fun j y hj => ?_, h2, ?_⟩
  · obtain ⟨ad, e1, hB, hc⟩ := h1 j y hj
    exact ⟨ad, e1, by omega, hc⟩
  · rcases hr.2 with ⟨e0, h0⟩ | ⟨g, cap, cur, e0, _, hb3, _, _, _, htk⟩
    · omega
    · injection e0 with e0 _ _
      have hi3 : Is w' g e cur := hb3
      obtain ⟨o1, o2, o3⟩ := ocs_at l i hlt
      rw [hix] at o1 o2 o3
      have e3 : (⟨g, 0, none⟩ : Addr).add (i * 3) = ⟨g, 3 * i, none⟩ := by rw [add_at, Nat.zero_add, Nat.mul_comm]
      refine ⟨_, e0, ?_, ?_, ?_, ?_⟩
      · rw [e3]; exact hi3.lt
      · rw [e3, hi3.cell]; exact cur_get htk o1
      · rw [e3, hi3.cell]; exact cur_get htk o2
      · rw [e3, hi3.cell]; exact cur_get htk o3
theorem info85 : (Try.prog.info? 85).map (fun i => (i.zero, i.size, i.bytes)) = some (some (.agg #[.slice none 0 0, .int .i64 0, .bool false]), 3, 40) := by kernel_rfl
/-- More chains. -/
theorem app_k {w : World} {base : Nat} {v : Value} {l m : List (Value × Ch)} (h : w.ownsRow base 85 3 v l.length (kcs l)) {P : Option Addr} (hs : ∀ j u, (kcs m)[j]? = some u → ∃ ad, P = some ad ∧ w.cell? (ad.add j) = some u) (hsl : ∀ x ∈ m, ∃ P n c, x.1 = .slice P n c) (c q : Nat) (hq : m.length = q) (hl : l.length + q ≤ 8192) (hb : base ≤ w.heap.size) (ty : TypeId) :
    ∃ P' C' w', (Builtin.append_ #[70, 70] ty #[v, .slice P q c]).run Try.prog w = .ok (.slice P' (l.length + q) C') w' ∧ w'.ownsRow base 85 3 (.slice P' (l.length + q) C') (l ++ m).length (kcs (l ++ m)) ∧ w.grownBy w' v.ownBlock := by
  subst hq
  obtain ⟨i0, hi0, hh⟩ := Option.map_eq_some_iff.1 info85
  simp only [Prod.mk.injEq] at hh
  obtain ⟨hz0, hz1, hz2⟩ := hh
  cases P with
  | none =>
    have hm : m = [] := by
      cases m with
      | nil => rfl
      | cons x m => obtain ⟨ad, e, _⟩ := hs 0 x.1 rfl; cases e
    subst hm
    obtain ⟨P', C', rfl⟩ := own_shape h
    refine ⟨P', C', w, ?_, by simpa using h, World.grownBy.refl _ _⟩
    rcases h.2 with ⟨e, h0⟩ | ⟨g, cap, cur, e, _, _, hnc, _⟩
    · injection e with e1 e2 e3
      rw [h0, e1, e3]
      simp [Builtin.append_, run_underlying Try.underlying70, sizeOf, typeInfo, hi0, Builtin.lenOf, Builtin.firstCells]
    · injection e with e1 e2 e3
      subst e1 e3
      simp [Builtin.append_, run_underlying Try.underlying70, sizeOf, typeInfo, hi0, Builtin.lenOf, Builtin.firstCells, hnc, storeCells]
  | some ad =>
    obtain ⟨v', w', hr, h2, h3, _, _⟩ := run_append_own_at (P := Try.prog) w base 70 ty 85 i0 _ 3 40 Try.underlying70 hi0 hz0 hz1 hz2 rfl (by decide) v l.length _ h ad m.length c (kcs m) (kcs_len m) (fun j u hj => by
      obtain ⟨ad', e, hc⟩ := hs j u hj
      injection e with e
      rw [e]; exact hc) (fun u hu => by
      obtain ⟨x, hx, hu⟩ := List.mem_flatMap.1 hu
      obtain ⟨Px, n, cx, e⟩ := hsl x hx
      simp [kc] at hu
      rcases hu with rfl | rfl | rfl
      · rw [e]; rfl
      · rfl
      · rfl) (by unfold maxLen; omega) (by omega) hb
    obtain ⟨P', C', rfl⟩ := own_shape h2
    exact ⟨P', C', w', hr, by rw [kcs_app, List.length_append]; exact h2, h3⟩
theorem krow_cells {V : World} {B m C : Nat} {P0 : Option Addr} {ks : List (Value × Ch)} (h : V.ownsRow B 85 3 (.slice P0 m C) ks.length (kcs ks)) (j : Nat) (u : Value) (hj : (kcs ks)[j]? = some u) : ∃ ad, P0 = some ad ∧ (∀ i, ad.add i = ⟨ad.block, ad.off + i, none⟩) ∧ V.cell? (ad.add j) = some u := by
  rcases h.2 with ⟨e, h0⟩ | ⟨g, cap, cur, e, _, hb, _, _, _, htk⟩
  · have := (List.getElem?_eq_some_iff.1 hj).1
    rw [kcs_len] at this
    omega
  · injection e with e _ _
    have hi3 : Is V g 85 cur := hb
    refine ⟨_, e, fun i => by rw [add_at], ?_⟩
    rw [add_at, Nat.zero_add, hi3.cell]
    exact cur_get htk hj
/-- What put does with its list. -/
theorem put_steps {V : World} {B R hF hW f n : Nat} {fr wt : Nat → Bool} {P0 : Option Addr} {m C0 : Nat} {ks : List (Value × Ch)} (hR : Rf V B R hF hW f n fr wt (.slice P0 m C0) ks) (hm : ks.length = m) (hl : m ≤ 4096) {x : Value × Ch} {qd : Option Addr} {z c : Nat} (hx1 : x.1 = .slice qd z c) (hxr : V.ownsRow 0 3 1 x.1 x.2.secs.length (zs (nz x.2.secs)))
    {b : Nat} (hb : Is V b 85 #[x.1, .int .i64 (x.2.refs : Nat), .bool x.2.sure]) {k : Nat} (hk : k ≤ m) (Ca Cb : Nat) {Pa Pb : Option Addr} (ha : 0 < k → Pa = P0) (hb2 : ∀ ad, k < m → P0 = some ad → Pb = some (ad.add (k * 3))) :
    ∃ P1 C1 w1, (Builtin.append_ #[70, 70] 70 #[.slice none 0 0, .slice Pa k Ca]).run Try.prog V = .ok (.slice P1 k C1) w1 ∧ Is w1 b 85 #[x.1, .int .i64 (x.2.refs : Nat), .bool x.2.sure] ∧
    ∃ P2 C2 w3, (Builtin.append_ #[70, 70] 70 #[.slice P1 k C1, .slice (some ⟨w1.heap.size, 0, none⟩) 1 1]).run Try.prog (w1.alloc (.cells #[x.1, .int .i64 (x.2.refs : Nat), .bool x.2.sure] 85)) = .ok (.slice P2 (k + 1) C2) w3 ∧ w3.cell? ⟨R, 4, none⟩ = some (.slice P0 m C0) ∧
    ∃ P3 C3 w4, (Builtin.append_ #[70, 70] 70 #[.slice P2 (k + 1) C2, .slice Pb (m - k) Cb]).run Try.prog w3 = .ok (.slice P3 (m + 1) C3) w4 ∧ w4.frozen? ⟨R, 4, none⟩ = false ∧ (∃ v, w4.cell? ⟨R, 4, none⟩ = some v) ∧
      Rf (w4.setCell ⟨R, 4, none⟩ (.slice P3 (m + 1) C3)) B R hF hW f n fr wt (.slice P3 (m + 1) C3) (ks.take k ++ x :: ks.drop k) ∧ Kp V (w4.setCell ⟨R, 4, none⟩ (.slice P3 (m + 1) C3)) [R] := by
  have hBV := hR.lt
  have hshape : ∀ y ∈ ks, ∃ P n c, y.1 = .slice P n c := fun y hy => by
    obtain ⟨P, C, e⟩ := own_shape (hR.rows y hy)
    exact ⟨P, _, C, e⟩
  have hsplit : kcs ks = kcs (ks.take k) ++ kcs (ks.drop k) := by rw [← kcs_app, List.take_append_drop]
  have hlt : (ks.take k).length = k := by rw [List.length_take]; omega
  have hld : (ks.drop k).length = m - k := by rw [List.length_drop]; omega
  obtain ⟨P1, C1, w1, r1, o1, g1⟩ := app_k (w := V) (base := V.heap.size) (v := .slice none 0 0) (l := []) (m := ks.take k) ⟨rfl, .inl ⟨rfl, rfl⟩⟩ (P := Pa) (fun j u hj => by
    have hjl := (List.getElem?_eq_some_iff.1 hj).1
    rw [kcs_len, hlt] at hjl
    obtain ⟨ad, e, _, hc⟩ := krow_cells hR.row j u (by rw [hsplit, List.getElem?_append_left (by rw [kcs_len, hlt]; exact hjl)]; exact hj)
    exact ⟨ad, (ha (by omega)).trans e, hc⟩) (fun y hy => hshape y (List.mem_of_mem_take hy)) Ca k hlt (by simp; omega) (Nat.le_refl _) 70
  simp only [List.length_nil, Nat.zero_add, List.nil_append] at r1 o1
  have b1 : Below V.heap.size V w1 := Below.grown_own (Below.refl _ V) (show V.ownsRow V.heap.size 85 3 (.slice none 0 0) 0 [] from ⟨rfl, .inl ⟨rfl, rfl⟩⟩) g1
  have i1 : Is w1 b 85 #[x.1, .int .i64 (x.2.refs : Nat), .bool x.2.sure] := (Kp.of_below b1 []).is hb (by simp)
  refine ⟨P1, C1, w1, r1, i1, ?_⟩
  have i2 := Is.new w1 85 #[x.1, .int .i64 (x.2.refs : Nat), .bool x.2.sure]
  have b2' := below_alloc (Below.refl _ w1) (.cells #[x.1, .int .i64 (x.2.refs : Nat), .bool x.2.sure] 85)
  generalize w1.alloc (.cells #[x.1, .int .i64 (x.2.refs : Nat), .bool x.2.sure] 85) = w2 at *
  have b2 : Below V.heap.size V w2 := b1.trans (b2'.mono b1.size)
  have o2 : w2.ownsRow V.heap.size 85 3 (.slice P1 k C1) (ks.take k).length (kcs (ks.take k)) := Kq.row (Kq.below b2') o1 (by decide) (by decide)
  obtain ⟨P2, C2, w3, r3, o3, g3⟩ := app_k (m := [x]) (P := some ⟨w1.heap.size, 0, none⟩) o2 (fun j u hj => ⟨_, rfl, by
    rw [add_at, Nat.zero_add, i2.cell]
    simpa [kcs, kc] using hj⟩) (fun y hy => by obtain rfl := List.mem_singleton.1 hy; exact ⟨_, _, _, hx1⟩) 1 1 rfl (by rw [hlt]; omega) b2.size 70
  rw [hlt] at r3 o3
  have b3 : Below V.heap.size V w3 := Below.grown_own b2 o2 g3
  have hR3 := hR.below b3
  obtain ⟨_, _, _, _, a4⟩ := hR3.cells
  refine ⟨P2, C2, w3, r3, a4, ?_⟩
  have e21 : (ks.take k ++ [x]).length = k + 1 := by simp [hlt]
  obtain ⟨P3, C3, w4, r4, o4, g4⟩ := app_k (m := ks.drop k) (P := Pb) o3 (fun j u hj => by
    have hjl := (List.getElem?_eq_some_iff.1 hj).1
    rw [kcs_len, hld] at hjl
    obtain ⟨ad, e, hadd, hc⟩ := krow_cells hR3.row (k * 3 + j) u (by rw [hsplit, List.getElem?_append_right (by rw [kcs_len, hlt]; omega), kcs_len, hlt, Nat.add_sub_cancel_left]; exact hj)
    refine ⟨_, hb2 ad (by omega) e, ?_⟩
    rw [hadd] at hc
    rw [hadd (k * 3), add_at, Nat.add_assoc]
    exact hc) (fun y hy => hshape y (List.mem_of_mem_drop hy)) Cb (m - k) hld (by rw [e21]; omega) b3.size 70
  have e22 : (ks.take k ++ [x]).length + (m - k) = m + 1 := by rw [e21]; omega
  rw [e22] at r4 o4
  have b4 : Below V.heap.size V w4 := Below.grown_own b3 o3 g4
  have hR4 := hR.below b4
  have e23 : ks.take k ++ [x] ++ ks.drop k = ks.take k ++ x :: ks.drop k := by simp
  rw [e23] at o4
  obtain ⟨rf, kk⟩ := hR4.setL (vL' := .slice P3 (m + 1) C3) (ks' := ks.take k ++ x :: ks.drop k) (low_row o4 hBV) (fun y hy => by
    rcases List.mem_append.1 hy with hy | hy
    · exact hR4.rows y (List.mem_of_mem_take hy)
    · rcases List.mem_cons.1 hy with rfl | hy
      · exact Kq.row (Kq.below b4) hxr (by decide) (by decide)
      · exact hR4.rows y (List.mem_of_mem_drop hy))
  obtain ⟨_, _, _, _, a44⟩ := hR4.cells
  exact ⟨P3, C3, w4, r4, hR4.one.frozen 4, ⟨_, a44⟩, rf, (Kp.of_below b4 [R]).trans kk (fun y hy => .inl hy)⟩
section
variable {w : World} {B R hF hW f n : Nat} {fr wt : Nat → Bool} {vL : Value} {ks : List (Value × Ch)}
set_option maxHeartbeats 4000000 in
theorem put_c (h : Rf w B R hF hW f n fr wt vL ks) (hne : ∀ x ∈ ks, x.2.secs ≠ []) (hl : ks.length ≤ 4096) {x : Value × Ch} (hx : x.2.secs ≠ []) (hxr : w.ownsRow 0 3 1 x.1 x.2.secs.length (zs (nz x.2.secs))) :
    Calls Try.prog 40 #[.pointer (some ⟨R, 0, none⟩), .agg #[x.1, .int .i64 (x.2.refs : Nat), .bool x.2.sure]] w fun e w' => (∃ v, e = .returned v) ∧ ∃ vL' ks', Rf w' B R hF hW f n fr wt vL' ks' ∧ ks'.map (·.2) = insC x.2 (ks.map (·.2)) ∧ Kp w w' [R] := by
  obtain ⟨_, _, _, _, a4⟩ := h.cells
  obtain ⟨m, hm⟩ : ∃ m, ks.length = m := ⟨_, rfl⟩
  obtain ⟨q, c, e1, hc⟩ := own_sl (by have e2 : (nz x.2.secs).length = x.2.secs.length := by simp [nz]
                                      rw [← e2] at hxr; exact hxr)
  obtain ⟨qd, rfl, q0⟩ := hc 0 (x.2.place : Nat) (by rw [secs_split hx]; rfl)
  rw [add_nil] at q0
  obtain ⟨z, hz⟩ : ∃ z, (nz x.2.secs).length = z := ⟨_, rfl⟩
  rw [hz] at e1
  have hz1 : 0 < z := by rw [← hz]; simp [nz]; exact List.length_pos_iff.2 hx
  obtain ⟨pl, hpl⟩ : ∃ pl : Nat, x.2.place = pl := ⟨_, rfl⟩
  rw [hpl] at q0
  obtain ⟨w1, ew1⟩ : ∃ w1, w.alloc (.cells #[x.1, .int .i64 (x.2.refs : Nat), .bool x.2.sure] 85) = w1 := ⟨_, rfl⟩
  have i1 : Is w1 w.heap.size 85 #[x.1, .int .i64 (x.2.refs : Nat), .bool x.2.sure] := by rw [← ew1]; exact Is.new w 85 _
  have b1 : Below w.heap.size w w1 := by rw [← ew1]; exact below_alloc (Below.refl _ w) _
  obtain ⟨xr, hxrf⟩ : ∃ xr : Nat, x.2.refs = xr := ⟨_, rfl⟩
  obtain ⟨xs, hxs⟩ : ∃ xs : Bool, x.2.sure = xs := ⟨_, rfl⟩
  rw [hxrf, hxs, e1] at ew1 i1
  rw [hxrf, hxs, e1]
  have HH := Lib.hid h
  have HN := Lib.hid hne
  have HM := Lib.hid hm
  have HX := Lib.hid hx
  have HXR := Lib.hid hxr
  have HPL := Lib.hid hpl
  have HI := Lib.hid i1
  have HB := Lib.hid b1
  have HE := Lib.hid e1
  have HRF := Lib.hid hxrf
  have HSR := Lib.hid hxs
  have HZ := Lib.hid hz
  have HQ := Lib.hid q0
  obtain ⟨P0, C0, rfl⟩ := h.shape
  rw [hm] at a4 hl HH
  have HA4 := Lib.hid a4
  clear h hne hm hx hxr hpl i1 b1 e1 hc hxrf hxs hz q0 a4
  go_enter Try.func40, Try.ntmps40
  go_wp2
  try rw [ew1]
  go_loopw [4] (fun i wr => ∃ k : Nat, i = .int .i64 k ∧ k ≤ m ∧ (∀ (j : Nat) (y : Value × Ch), j < k → ks[j]? = some y → y.2.place < pl) ∧ Below w1.heap.size w1 wr) (fun i _ => m - (RowKit.intOf i).toNat)
  case atStart => exact ⟨0, rfl, Nat.zero_le _, fun j y hj => by omega, Below.refl _ _⟩
  case round =>
    obtain ⟨k, rfl, hk, hall, hbr⟩ := hrel
    have hb2 : Below w.heap.size w wr := HB.out.trans (hbr.mono HB.out.size)
    have a4 := (hb2.cell (p := ⟨R, 4, none⟩) (World.block_lt_of_cell? w _ HA4.out)).trans HA4.out
    have q0 := (hb2.cell (p := qd) (World.block_lt_of_cell? w _ HQ.out)).trans HQ.out
    have i2 : Is wr w.heap.size 85 #[.slice (some qd) z c, .int .i64 (xr : Nat), .bool xs] := (Kp.of_below hbr []).is HI.out (by simp)
    have b0 := i2.cell 0
    have bb1 := i2.cell 1
    have bb2 := i2.cell 2
    simp at b0 bb1 bb2
    have HALL := Lib.hid hall
    have HB2 := Lib.hid hb2
    have HI2 := Lib.hid i2
    have HBR := Lib.hid hbr
    have hB0 := Below.refl wr.heap.size wr
    clear hall hb2 i2 hbr
    by_cases hlt : k < m
    · have hyk : ks[k]? = some (ks[k]'(by rw [HM.out]; exact hlt)) := List.getElem?_eq_getElem _
      obtain ⟨y, ey⟩ : ∃ y, ks[k]'(by rw [HM.out]; exact hlt) = y := ⟨_, rfl⟩
      rw [ey] at hyk
      have hym := List.mem_of_getElem? hyk
      have hh := HH.out
      rw [← HM.out] at hh
      obtain ⟨ad, cap, P, cc, e1, e2, d0, d1, d2, d3⟩ := (hh.below HB2.out).at hyk
      injection e1 with e1 _ e3
      subst e1 e3
      have hs := HN.out y hym
      obtain ⟨qy, rfl, c0⟩ := d3 0 (y.2.place : Nat) (by rw [secs_split hs]; rfl)
      rw [add_nil] at c0
      have hpos : 0 < y.2.secs.length := List.length_pos_iff.2 hs
      obtain ⟨py, hpy⟩ : ∃ py : Nat, y.2.place = py := ⟨_, rfl⟩
      rw [hpy] at c0
      have HPY := Lib.hid hpy
      have HK := Lib.hid hyk
      generalize y.2.secs.length = sl at *
      clear hyk d3 hym ey hpy hs hh e2 d1 d2
      by_cases he : py < pl
      · have hzz : (py : Int) < (pl : Int) := by omega
        go_wp2
        go_quiet (fail)
        go_wp2
        go_roundw
        case rel =>
          refine ⟨k + 1, by go_num, by omega, fun j y' hj hy' => ?_, HBR.out.trans ⟨rfl, rfl, rfl, Nat.le_refl _, fun _ _ => rfl⟩⟩
          by_cases e : j = k
          · subst e
            have := HK.out.symm.trans hy'
            injection this with this
            subst this
            rw [HPY.out]; exact he
          · exact HALL.out j y' (by omega) hy'
        case measure => simp [RowKit.intOf]; omega
      · have hzz : ¬ ((py : Int) < (pl : Int)) := by omega
        have hC0 : m ≤ C0 := by
          rcases HH.out.row.2 with ⟨e, _⟩ | ⟨g, cap, cur, e, _, _, h5, _⟩
          · cases e
          · injection e with _ _ e; rw [e, ← HM.out]; exact h5
        go_wp2
        go_quiet (fail)
        obtain ⟨V, eV⟩ : ∃ V, wr.drewN nq = V := ⟨_, rfl⟩
        have hbV : Below wr.heap.size wr V := by rw [← eV]; exact ⟨rfl, rfl, rfl, Nat.le_refl _, fun _ _ => rfl⟩
        have hbW := HB2.out.trans (hbV.mono HB2.out.size)
        have iV := (Kp.of_below hbV []).is HI2.out (by simp)
        rw [← HE.out, ← HRF.out, ← HSR.out] at iV
        obtain ⟨P1, C1, w3, r1, i3, P2, C2, w5, r3, a45, P3, C3, w6, r4, f6, ⟨v6, a46⟩, hrf, hkp⟩ := put_steps (HH.out.below hbW) HM.out hl HE.out (Kq.row (Kq.below hbW) HXR.out (by decide) (by decide)) iV hk C0 (C0 - k) (Pa := some ad) (Pb := some (ad.add (k * 3))) (fun _ => rfl) (fun ad2 h1 h2 => by injection h2 with h2; rw [← h2])
        have aV := (hbV.cell (p := ⟨R, 4, none⟩) (World.block_lt_of_cell? wr _ a4)).trans a4
        rw [HE.out, HRF.out, HSR.out] at i3 r3
        skip
        have g0 := i3.cell 0
        have g1 := i3.cell 1
        have g2 := i3.cell 2
        simp at g0 g1 g2
        have hfin : ∀ (y : Value × Ch) (j : Nat), ks[j]? = some y → j < k → y.2.place < x.2.place := fun y j hj hlt2 => by rw [HPL.out]; exact HALL.out j y hlt2 hj
        have hins : (ks.take k ++ x :: ks.drop k).map (·.2) = insC x.2 (ks.map (·.2)) := by
          rw [insC_at (c := x.2) (L := ks.map (·.2)) k (by rw [List.length_map, HM.out]; exact hk) (fun i y hi hy => ?_) (fun y hy => ?_)]
          · rw [List.map_append, List.map_cons, List.map_take, List.map_drop]
          · rw [List.getElem?_map] at hy
            obtain ⟨y', h1, rfl⟩ := Option.map_eq_some_iff.1 hy
            exact hfin y' i h1 hi
          · rw [List.getElem?_map] at hy
            obtain ⟨y', h1, rfl⟩ := Option.map_eq_some_iff.1 hy
            have := HK.out.symm.trans h1
            injection this with this
            subst this
            rw [HPL.out, HPY.out]; exact he
        have hfull := (Kp.of_below hbW [R]).trans hkp (fun y hy => .inl hy)
        have HF := Lib.hid hrf
        have HIN := Lib.hid hins
        have HKP := Lib.hid hfull
        clear hrf hins hfull hkp hfin iV hbV hbW i3
        have hCk : ¬ C0 = k := by omega
        rw [eV]
        go_wp2_with (first
          | (at_builtin; refine Lib.wpList_append_run _ rfl _ _ _ _ rfl _ _ rfl rfl _ _ r1 ?_; clear r1)
          | (at_builtin; refine Lib.wpList_append_run _ rfl _ _ _ _ rfl _ _ rfl rfl _ _ r3 ?_; clear r3)
          | (at_builtin; refine Lib.wpList_append_run _ rfl _ _ _ _ rfl _ _ rfl rfl _ _ r4 ?_; clear r4))
        all_goals
          go_end0
          exact ⟨⟨_, rfl⟩, _, _, HF.out, HIN.out, HKP.out⟩
    · obtain rfl : k = m := by omega
      cases P0 with
      | none =>
        obtain ⟨rfl, rfl⟩ : k = 0 ∧ C0 = 0 := by
          rcases HH.out.row.2 with ⟨e, h0⟩ | ⟨g, cap, cur, e, _⟩
          · injection e with _ e1 e2; exact ⟨by rw [← HM.out]; exact h0, e2⟩
          · cases e
        go_wp2
        go_quiet (fail)
        obtain ⟨V, eV⟩ : ∃ V, wr.drewN nq = V := ⟨_, rfl⟩
        have hbV : Below wr.heap.size wr V := by rw [← eV]; exact ⟨rfl, rfl, rfl, Nat.le_refl _, fun _ _ => rfl⟩
        have hbW := HB2.out.trans (hbV.mono HB2.out.size)
        have iV := (Kp.of_below hbV []).is HI2.out (by simp)
        rw [← HE.out, ← HRF.out, ← HSR.out] at iV
        obtain ⟨P1, C1, w3, r1, i3, P2, C2, w5, r3, a45, P3, C3, w6, r4, f6, ⟨v6, a46⟩, hrf, hkp⟩ := put_steps (HH.out.below hbW) HM.out hl HE.out (Kq.row (Kq.below hbW) HXR.out (by decide) (by decide)) iV (Nat.le_refl _) 0 0 (Pa := none) (Pb := none) (fun _ => rfl) (fun _ h1 _ => absurd h1 (Nat.lt_irrefl _))
        have aV := (hbV.cell (p := ⟨R, 4, none⟩) (World.block_lt_of_cell? wr _ a4)).trans a4
        rw [HE.out, HRF.out, HSR.out] at i3 r3
        simp only [Nat.sub_self, Nat.zero_add] at r3 r4 a46 f6 hrf hkp
        have g0 := i3.cell 0
        have g1 := i3.cell 1
        have g2 := i3.cell 2
        simp at g0 g1 g2
        have hfin : ∀ (y : Value × Ch) (j : Nat), ks[j]? = some y → j < 0 → y.2.place < x.2.place := fun y j hj hlt2 => by rw [HPL.out]; exact HALL.out j y hlt2 hj
        have hins : (ks.take 0 ++ x :: ks.drop 0).map (·.2) = insC x.2 (ks.map (·.2)) := by
          rw [insC_at (c := x.2) (L := ks.map (·.2)) 0 (by rw [List.length_map, HM.out]; exact (Nat.le_refl _)) (fun i y hi hy => ?_) (fun y hy => ?_)]
          · rw [List.map_append, List.map_cons, List.map_take, List.map_drop]
          · rw [List.getElem?_map] at hy
            obtain ⟨y', h1, rfl⟩ := Option.map_eq_some_iff.1 hy
            exact hfin y' i h1 hi
          · rw [List.getElem?_map] at hy
            obtain ⟨y', h1, rfl⟩ := Option.map_eq_some_iff.1 hy
            have h9 := (List.getElem?_eq_some_iff.1 h1).1
            rw [HM.out] at h9
            exact absurd h9 (Nat.lt_irrefl _)
        have hfull := (Kp.of_below hbW [R]).trans hkp (fun y hy => .inl hy)
        have HF := Lib.hid hrf
        have HIN := Lib.hid hins
        have HKP := Lib.hid hfull
        clear hrf hins hfull hkp hfin iV hbV hbW i3
        rw [eV]
        go_wp2_with (first
          | (at_builtin; refine Lib.wpList_append_run _ rfl _ _ _ _ rfl _ _ rfl rfl _ _ r1 ?_; clear r1)
          | (at_builtin; refine Lib.wpList_append_run _ rfl _ _ _ _ rfl _ _ rfl rfl _ _ r3 ?_; clear r3)
          | (at_builtin; refine Lib.wpList_append_run _ rfl _ _ _ _ rfl _ _ rfl rfl _ _ r4 ?_; clear r4))
        all_goals
          go_end0
          exact ⟨⟨_, rfl⟩, _, _, HF.out, HIN.out, HKP.out⟩
      | some ad =>
        have hC0 : k ≤ C0 := by
          rcases HH.out.row.2 with ⟨e, _⟩ | ⟨g, cap, cur, e, _, _, h5, _⟩
          · cases e
          · injection e with _ _ e; rw [e, ← HM.out]; exact h5
        go_wp2
        go_quiet (fail)
        obtain ⟨V, eV⟩ : ∃ V, wr.drewN nq = V := ⟨_, rfl⟩
        have hbV : Below wr.heap.size wr V := by rw [← eV]; exact ⟨rfl, rfl, rfl, Nat.le_refl _, fun _ _ => rfl⟩
        have hbW := HB2.out.trans (hbV.mono HB2.out.size)
        have iV := (Kp.of_below hbV []).is HI2.out (by simp)
        rw [← HE.out, ← HRF.out, ← HSR.out] at iV
        obtain ⟨P1, C1, w3, r1, i3, P2, C2, w5, r3, a45, P3, C3, w6, r4, f6, ⟨v6, a46⟩, hrf, hkp⟩ := put_steps (HH.out.below hbW) HM.out hl HE.out (Kq.row (Kq.below hbW) HXR.out (by decide) (by decide)) iV (Nat.le_refl _) C0 (C0 - k) (Pa := some ad) (Pb := if C0 = k then some ad else some (ad.add (k * 3))) (fun _ => rfl) (fun _ h1 _ => absurd h1 (Nat.lt_irrefl _))
        have aV := (hbV.cell (p := ⟨R, 4, none⟩) (World.block_lt_of_cell? wr _ a4)).trans a4
        rw [HE.out, HRF.out, HSR.out] at i3 r3
        rw [Nat.sub_self] at r4
        have g0 := i3.cell 0
        have g1 := i3.cell 1
        have g2 := i3.cell 2
        simp at g0 g1 g2
        have hfin : ∀ (y : Value × Ch) (j : Nat), ks[j]? = some y → j < k → y.2.place < x.2.place := fun y j hj hlt2 => by rw [HPL.out]; exact HALL.out j y hlt2 hj
        have hins : (ks.take k ++ x :: ks.drop k).map (·.2) = insC x.2 (ks.map (·.2)) := by
          rw [insC_at (c := x.2) (L := ks.map (·.2)) k (by rw [List.length_map, HM.out]; exact (Nat.le_refl _)) (fun i y hi hy => ?_) (fun y hy => ?_)]
          · rw [List.map_append, List.map_cons, List.map_take, List.map_drop]
          · rw [List.getElem?_map] at hy
            obtain ⟨y', h1, rfl⟩ := Option.map_eq_some_iff.1 hy
            exact hfin y' i h1 hi
          · rw [List.getElem?_map] at hy
            obtain ⟨y', h1, rfl⟩ := Option.map_eq_some_iff.1 hy
            have h9 := (List.getElem?_eq_some_iff.1 h1).1
            rw [HM.out] at h9
            exact absurd h9 (Nat.lt_irrefl _)
        have hfull := (Kp.of_below hbW [R]).trans hkp (fun y hy => .inl hy)
        have HF := Lib.hid hrf
        have HIN := Lib.hid hins
        have HKP := Lib.hid hfull
        clear hrf hins hfull hkp hfin iV hbV hbW i3
        rw [eV]
        go_wp2_with (first
          | (at_builtin; refine Lib.wpList_append_run _ rfl _ _ _ _ rfl _ _ rfl rfl _ _ r1 ?_; clear r1)
          | (at_builtin; refine Lib.wpList_append_run _ rfl _ _ _ _ rfl _ _ rfl rfl _ _ r3 ?_; clear r3)
          | (at_builtin; refine Lib.wpList_append_run _ rfl _ _ _ _ rfl _ _ rfl rfl _ _ r4 ?_; clear r4))
        all_goals
          go_end0
          exact ⟨⟨_, rfl⟩, _, _, HF.out, HIN.out, HKP.out⟩
end
end Go.Proofs.Ytnpjbddannkgfaa
