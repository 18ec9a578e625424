/- The document's List. Conditions: none. -/
import Derived.Test.YtnpjbddannkgfaaRfD
namespace Go.Proofs.Ytnpjbddannkgfaa
open Go.ChangeShapes Go.WideShapes Go.RowKit Go.Maps Go.Spans Go.Alloc
set_option maxRecDepth 100000
/-- What the document's List has told so far. -/
structure Lr (w wr : World) (P : Option Addr) (C k : Nat) (L : List Ch) (l : List Od) : Prop where
  len : l.length = k
  row : wr.ownsRow w.heap.size 83 3 (.slice P k C) l.length (ocs l)
  rests : ∀ x ∈ l, wr.ownsRow w.heap.size 3 1 x.v x.rest.length (zs x.rest)
  same : l.map tell' = (L.take k).map told
  below : Below w.heap.size w wr
theorem below_put' {B : Nat} {w0 w : World} (h : Below B w0 w) {b : Nat} (hb : B ≤ b) (hB : B ≤ w.heap.size) (i : Nat) (u : Value) : Below B w0 (w.setCell ⟨b, i, none⟩ u) :=
  h.trans (((Kp.refl w [b]).put ⟨b, i, none⟩ u (.inl (by simp))).below hB (fun g hg => by simp at hg; omega))
theorem Lr.below' {w wr w' : World} {P : Option Addr} {C k : Nat} {L : List Ch} {l : List Od} (h : Lr w wr P C k L l) (hb : Below wr.heap.size wr w') : Lr w w' P C k L l :=
  ⟨h.len, Kq.row (Kq.below hb) h.row (by decide) (by decide), fun x hx => Kq.row (Kq.below hb) (h.rests x hx) (by decide) (by decide), h.same, h.below.trans (hb.mono h.below.size)⟩
theorem lr_steps {w wr : World} {P : Option Addr} {C k : Nat} {L : List Ch} {l : List Od} (h : Lr w wr P C k L l) (hk : k ≤ 8192) {c : Ch} (hc : L[k]? = some c) {qa : Option Addr} {N C' : Nat} (hN : (nz c.secs.tail).length = N) (hl : N ≤ 8192) (hsl : Sl wr (.slice qa N C') (nz c.secs.tail)) {w2 : World}
    (e2 : wr.alloc (.cells #[.int .i64 (c.place : Nat), .int .i64 (c.refs : Nat), .slice none 0 0] 83) = w2) :
    ∃ P1 C1 V3, (Builtin.append_ #[46, 46] 46 #[.slice none 0 0, .slice qa N C']).run Try.prog w2.drew = .ok (.slice P1 N C1) V3 ∧ Is w2.drew wr.heap.size 83 #[.int .i64 (c.place : Nat), .int .i64 (c.refs : Nat), .slice none 0 0] ∧ Is V3 wr.heap.size 83 #[.int .i64 (c.place : Nat), .int .i64 (c.refs : Nat), .slice none 0 0] ∧ Below wr.heap.size wr w2.drew ∧ Below wr.heap.size wr V3 ∧
      Is (V3.setCell ⟨wr.heap.size, 2, none⟩ (.slice P1 N C1)) wr.heap.size 83 #[.int .i64 (c.place : Nat), .int .i64 (c.refs : Nat), .slice P1 N C1] ∧
    ∃ P2 C2 w6, (Builtin.append_ #[38, 38] 38 #[.slice P k C, .slice (some ⟨V3.heap.size, 0, none⟩) 1 1]).run Try.prog ((V3.setCell ⟨wr.heap.size, 2, none⟩ (.slice P1 N C1)).alloc (.cells #[.int .i64 (c.place : Nat), .int .i64 (c.refs : Nat), .slice P1 N C1] 83)) = .ok (.slice P2 (k + 1) C2) w6 ∧ ∃ l', Lr w w6 P2 C2 (k + 1) L l' := by
  subst hN
  have hB := h.below.size
  have i2 : Is w2.drew wr.heap.size 83 #[.int .i64 (c.place : Nat), .int .i64 (c.refs : Nat), .slice none 0 0] := by rw [← e2]; exact Is.new wr 83 _
  have b2 : Below wr.heap.size wr w2.drew := by rw [← e2]; exact below_drew (below_alloc (Below.refl _ wr) _)
  obtain ⟨P1, C1, V3, r1, o1, g1, _⟩ := app_ints (w := w2.drew) (base := wr.heap.size) (l := []) (v := .slice none 0 0) ⟨rfl, .inl ⟨rfl, rfl⟩⟩ (hsl.below b2) (by rw [List.length_nil]; omega) b2.size 46
  simp only [List.nil_append] at r1 o1
  have i3 : Is V3 wr.heap.size 83 #[.int .i64 (c.place : Nat), .int .i64 (c.refs : Nat), .slice none 0 0] := i2.kept g1 (by simp [Value.ownBlock])
  have b3 : Below wr.heap.size wr V3 := Below.grown_own b2 (show w2.drew.ownsRow wr.heap.size 3 1 (.slice none 0 0) 0 [] from ⟨rfl, .inl ⟨rfl, rfl⟩⟩) g1
  have i4 : Is (V3.setCell ⟨wr.heap.size, 2, none⟩ (.slice P1 (nz c.secs.tail).length C1)) wr.heap.size 83 #[.int .i64 (c.place : Nat), .int .i64 (c.refs : Nat), .slice P1 (nz c.secs.tail).length C1] := by
    have := i3.put 2 (.slice P1 (nz c.secs.tail).length C1)
    simpa using this
  refine ⟨P1, C1, V3, r1, i2, i3, b2, b3, i4, ?_⟩
  have b4 := below_put' b3 (Nat.le_refl wr.heap.size) b3.size 2 (.slice P1 (nz c.secs.tail).length C1)
  have k4 : Kp V3 (V3.setCell ⟨wr.heap.size, 2, none⟩ (.slice P1 (nz c.secs.tail).length C1)) [wr.heap.size] := (Kp.refl V3 [wr.heap.size]).put ⟨wr.heap.size, 2, none⟩ _ (.inl (by simp))
  have o4 := row_kpe o1 k4 (fun g hg cs hi => by simp at hg; exact hi.ne i3 (by decide) hg)
  have z4 : (V3.setCell ⟨wr.heap.size, 2, none⟩ (.slice P1 (nz c.secs.tail).length C1)).heap.size = V3.heap.size := by simp [World.setCell]
  rw [← z4]
  generalize V3.setCell ⟨wr.heap.size, 2, none⟩ (.slice P1 (nz c.secs.tail).length C1) = W4 at *
  have it := Is.new W4 83 #[.int .i64 (c.place : Nat), .int .i64 (c.refs : Nat), .slice P1 (nz c.secs.tail).length C1]
  have b5' := below_alloc (Below.refl _ W4) (.cells #[.int .i64 (c.place : Nat), .int .i64 (c.refs : Nat), .slice P1 (nz c.secs.tail).length C1] 83)
  generalize W4.alloc (.cells #[.int .i64 (c.place : Nat), .int .i64 (c.refs : Nat), .slice P1 (nz c.secs.tail).length C1] 83) = w5 at *
  have b5 : Below wr.heap.size wr w5 := b4.trans (b5'.mono b4.size)
  have hrow5 : w5.ownsRow w.heap.size 83 3 (.slice P k C) l.length (ocs l) := Kq.row (Kq.below b5) h.row (by decide) (by decide)
  obtain ⟨P2, C2, w6, hrun, hrow, hg⟩ := app_ow (x := ⟨(c.place : Nat), (c.refs : Nat), P1, C1, nz c.secs.tail⟩) hrow5 it (by rw [h.len]; exact hk) (by have := b5.size; omega) 38
  rw [h.len] at hrun hrow
  have o5 : w5.ownsRow w.heap.size 3 1 (.slice P1 (nz c.secs.tail).length C1) (nz c.secs.tail).length (zs (nz c.secs.tail)) := low_row (Kq.row (Kq.below b5') o4 (by decide) (by decide)) hB
  refine ⟨P2, C2, w6, hrun, l ++ [⟨(c.place : Nat), (c.refs : Nat), P1, C1, nz c.secs.tail⟩], by simp [h.len], hrow, fun x hx => ?_, ?_, Below.grown_own (h.below.trans (b5.mono hB)) hrow5 hg⟩
  · rcases List.mem_append.1 hx with hx | hx
    · exact own3_grown (Kq.row (Kq.below b5) (h.rests x hx) (by decide) (by decide)) hrow5 (by decide) hg
    · obtain rfl := List.mem_singleton.1 hx
      exact own3_grown o5 hrow5 (by decide) hg
  · rw [List.map_append, h.same, List.take_add_one, hc]
    simp [tell', told]
section
variable {w : World} {B R hF hW f n : Nat} {fr wt : Nat → Bool} {vL : Value} {ks : List (Value × Ch)}
set_option maxHeartbeats 4000000 in
theorem rlist_c (h : Rf w B R hF hW f n fr wt vL ks) (hne : ∀ x ∈ ks, x.2.secs ≠ []) (hl : ks.length ≤ 4096) (hsl : ∀ x ∈ ks, x.2.secs.length ≤ 8192) (hpl : ∀ x ∈ ks, x.2.place ≤ 65536 ∧ x.2.refs ≤ 65536) :
    Calls Try.prog 47 #[.pointer (some ⟨R, 0, none⟩)] w fun e w' => ∃ P C l, e = .returned (.slice P ks.length C) ∧ Lr w w' P C ks.length (ks.map (·.2)) l := by
  obtain ⟨_, _, _, _, a4⟩ := h.cells
  obtain ⟨P0, C0, rfl⟩ := h.shape
  obtain ⟨m, hm⟩ : ∃ m, ks.length = m := ⟨_, rfl⟩
  have HH := Lib.hid h
  have HN := Lib.hid hne
  have HM := Lib.hid hm
  have HS := Lib.hid hsl
  have HP := Lib.hid hpl
  have HA4 := Lib.hid a4
  rw [hm] at hl a4 ⊢
  clear h hne hm hsl hpl
  go_enter Try.func47, Try.ntmps47
  go_wp2
  go_loopw [3, 4] (fun s i wr => ∃ (k : Nat) (P' : Option Addr) (C' : Nat) (l : List Od), i = .int .i64 (k : Int) ∧ k ≤ m ∧ s = .slice P' k C' ∧ Lr w wr P' C' k (ks.map (·.2)) l) (fun _ i _ => m - (RowKit.intOf i).toNat)
  case atStart => exact ⟨0, none, 0, [], rfl, Nat.zero_le _, rfl, ⟨rfl, ⟨rfl, .inl ⟨rfl, rfl⟩⟩, fun x hx => (by cases hx), rfl, Below.refl _ _⟩⟩
  case round =>
    obtain ⟨k, P', C', l, rfl, hk, rfl, hlr⟩ := hrel
    have HLR := Lib.hid hlr
    have a4 := (hlr.below.cell (p := ⟨R, 4, none⟩) (World.block_lt_of_cell? w _ HA4.out)).trans HA4.out
    rw [HM.out] at a4
    by_cases hlt : k < m
    · have hyk : ks[k]? = some (ks[k]'(by rw [HM.out]; exact hlt)) := List.getElem?_eq_getElem _
      obtain ⟨y, ey⟩ : ∃ y, ks[k]'(by rw [HM.out]; exact hlt) = y := ⟨_, rfl⟩
      rw [ey] at hyk
      have hym := List.mem_of_getElem? hyk
      obtain ⟨ad, cap, P, cc, e1, e2, d0, d1, d2, d3⟩ := (HH.out.below hlr.below).at hyk
      injection e1 with e1 _ e3
      subst e1 e3
      have hs := HN.out y hym
      obtain ⟨qy, rfl, c0⟩ := d3 0 (y.2.place : Nat) (by rw [secs_split hs]; rfl)
      rw [add_nil] at c0
      obtain ⟨g, rfl, hC1⟩ : ∃ g, qy = ⟨g, 0, none⟩ ∧ y.2.secs.length ≤ cc := by
        have h1 := (HH.out.below hlr.below).rows y hym
        rw [e2] at h1
        rcases h1.2 with ⟨e, _⟩ | ⟨g, cap, cur, e, _, _, h5, _⟩
        · cases e
        · injection e with e _ e3
          injection e with e
          exact ⟨g, e, by rw [e3]; exact h5⟩
      have hpos : 0 < y.2.secs.length := List.length_pos_iff.2 hs
      have hyp := HP.out y hym
      have HD3 := Lib.hid d3
      have HK := Lib.hid hyk
      have HSL := Lib.hid (HS.out y hym)
      obtain ⟨pl, epl⟩ : ∃ pl : Nat, y.2.place = pl := ⟨_, rfl⟩
      obtain ⟨rf, erf⟩ : ∃ rf : Nat, y.2.refs = rf := ⟨_, rfl⟩
      obtain ⟨sl, esl⟩ : ∃ sl : Nat, y.2.secs.length = sl := ⟨_, rfl⟩
      rw [epl] at c0
      rw [erf] at d1
      rw [esl] at d0 hpos hC1
      have HEP := Lib.hid epl
      have HER := Lib.hid erf
      have HES := Lib.hid esl
      clear hlr d3 hs hyp epl erf esl d2 e2
      have S1 := And.intro a4 (And.intro d0 (And.intro c0 d1))
      have b2 := below_alloc (Below.refl _ wr) (.cells #[.int .i64 0, .int .i64 0, .slice none 0 0] 83)
      have up : ∀ wx, Below wr.heap.size wr wx → wx.cell? ⟨R, 4, none⟩ = some (.slice (some ad) m C0) ∧ wx.cell? (ad.add (k * 3)) = some (.slice (some (⟨g, 0, none⟩ : Addr)) sl cc) ∧ wx.cell? ⟨g, 0, none⟩ = some (.int .i64 (pl : Nat)) ∧ wx.cell? ⟨(ad.add (k * 3)).block, (ad.add (k * 3)).off + 1, none⟩ = some (.int .i64 (rf : Nat)) := fun wx hb =>
        have u : ∀ (p : Addr) (v : Value), wr.cell? p = some v → wx.cell? p = some v := fun p v h => (hb.cell (p := p) (World.block_lt_of_cell? wr _ h)).trans h
        ⟨u _ _ a4, u _ _ d0, u _ _ c0, u _ _ d1⟩
      have S2 := up _ b2
      have HUP := Lib.hid up
      clear up
      go_wp2
      go_region_held3 (fun wx => wx.cell? ⟨R, 4, none⟩ = some (.slice (some ad) m C0) ∧ wx.cell? (ad.add (k * 3)) = some (.slice (some (⟨g, 0, none⟩ : Addr)) sl cc) ∧ wx.cell? ⟨g, 0, none⟩ = some (.int .i64 (pl : Nat)) ∧ wx.cell? ⟨(ad.add (k * 3)).block, (ad.add (k * 3)).off + 1, none⟩ = some (.int .i64 (rf : Nat))) (first | exact S1 | exact S2 | exact HUP.out _ (by repeat (first | exact b2 | exact below_drew b2 | exact below_alloc (Below.refl _ wr) _ | refine below_drew ?_ | refine below_put' ?_ (Nat.le_refl _) (by simp [World.setCell]) _ _))) (fail)
      obtain ⟨w2, e2⟩ : ∃ w2, wr.drew.alloc (.cells #[.int .i64 (pl : Nat), .int .i64 (rf : Nat), .slice none 0 0] 83) = w2 := ⟨_, rfl⟩
      have e3 : (wr.alloc (.cells #[.int .i64 (pl : Nat), .int .i64 (rf : Nat), .slice none 0 0] 83)).drew = w2 := e2
      have hbd : Below wr.heap.size wr wr.drew := below_drew (Below.refl _ wr)
      obtain ⟨qa, eqa⟩ : ∃ qa : Option Addr, (if cc = 1 then some (⟨g, 0, none⟩ : Addr) else some ⟨g, 1, none⟩) = qa := ⟨_, rfl⟩
      have hnt : (nz y.2.secs.tail).length = sl - 1 := by simp [nz, HES.out]
      have hsl2 : Sl wr (.slice qa (sl - 1) (cc - 1)) (nz y.2.secs.tail) := by
        refine ⟨qa, cc - 1, by rw [hnt], fun j z hj => ?_⟩
        have hjl := (List.getElem?_eq_some_iff.1 hj).1
        rw [hnt] at hjl
        have hc1 : ¬ cc = 1 := by omega
        rw [if_neg hc1] at eqa
        refine ⟨_, eqa.symm, ?_⟩
        have hz : (nz y.2.secs)[1 + j]? = some z := by
          have e1 : y.2.secs.tail[j]? = y.2.secs[j + 1]? := by rw [List.getElem?_tail]
          simp only [nz, List.getElem?_map] at hj ⊢
          rw [e1] at hj
          rw [Nat.add_comm]
          exact hj
        obtain ⟨p, e, hc⟩ := HD3.out _ z hz
        injection e with e
        rw [← e, add_at, Nat.zero_add] at hc
        rw [add_at]
        exact hc
      have hlk : (ks.map (·.2))[k]? = some y.2 := by rw [List.getElem?_map, HK.out]; rfl
      obtain ⟨P1, C1, V3, r1, i2, i3, b4, b3, i4, P2, C2, w6, r2, l', hl'⟩ := lr_steps (HLR.out.below' hbd) (by omega) hlk hnt (by have := HSL.out; have := HES.out; omega) (hsl2.below hbd) (w2 := w2) (by rw [HEP.out, HER.out]; exact e2)
      rw [HEP.out, HER.out] at i2 i3 i4 r2
      change Is w2.drew wr.heap.size 83 _ at i2
      change Is V3 wr.heap.size 83 _ at i3
      change Is (V3.setCell ⟨wr.heap.size, 2, none⟩ _) wr.heap.size 83 _ at i4
      change Sem.run Try.prog _ ((V3.setCell ⟨wr.heap.size, 2, none⟩ (.slice P1 (sl - 1) C1)).alloc _) = _ at r2
      have HL := Lib.hid hl'
      have T1 := HUP.out _ (hbd.trans b4)
      have T2 := HUP.out _ (hbd.trans b3)
      have x1 := i2.cell 2
      have x2 := i3.cell 2
      have f3 := i3.frozen 2
      have y0 := i4.cell 0
      have y1 := i4.cell 1
      have y2 := i4.cell 2
      simp at x1 x2 y0 y1 y2 T1 T2
      obtain ⟨t1, t2, t3, t4⟩ := T1
      obtain ⟨t5, t6, t7, t8⟩ := T2
      have hN1 : 1 ≤ sl := hpos
      have hNI : (1 : Int) ≤ (sl : Int) := by omega
      have hN4 : sl ≤ 8192 := by have := HSL.out; have := HES.out; omega
      clear i2 i3 i4 b3 b4 hl' hbd
      go_wp2
      rw [e3]
      go_region_law
        (refine step_append_run rfl _ _ 46 rfl _ _ (by simp [Act.eval, Act.put]) (by simp [Act.eval, Act.put]) r1 ?_)
      all_goals
        clear r1 x1 x2 t1 t2 t3 t4 t5 t6 t7 t8
        go_wp2_with (at_builtin; refine Lib.wpList_append_run _ rfl _ _ _ _ rfl _ _ rfl rfl _ _ r2 ?_)
        go_roundw
        case rel => exact ⟨k + 1, P2, C2, l', by go_num, by omega, rfl, HL.out⟩
        case measure => simp [RowKit.intOf]; omega
    · obtain rfl : k = m := by omega
      clear hlr
      go_wp2
      go_ret
      exact ⟨_, _, l, rfl, HLR.out⟩
end
end Go.Proofs.Ytnpjbddannkgfaa
