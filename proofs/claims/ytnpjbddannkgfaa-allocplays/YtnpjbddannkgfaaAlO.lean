/- List: its loop. Conditions: none. -/
import Derived.Test.YtnpjbddannkgfaaAlN
namespace Go.Proofs.Ytnpjbddannkgfaa
open Go.ChangeShapes Go.WideShapes Go.RowKit Go.Maps Go.Spans Go.Alloc
set_option maxRecDepth 100000
theorem info55 : (Try.prog.info? 55).map (fun i => (i.zero, i.size, i.bytes)) = some (some (.agg #[.int .i64 0, .int .i64 0, .slice none 0 0]), 3, 40) := by kernel_rfl
def oc (x : Od) : List Value := [.int .i64 x.p, .int .i64 x.r, x.v]
def ocs (l : List Od) : List Value := l.flatMap oc
theorem ocs_len (l : List Od) : (ocs l).length = l.length * 3 := by
  induction l with
  | nil => rfl
  | cons e ys ih => simp [ocs, oc] at *; omega
theorem ocs_snoc (l : List Od) (x : Od) : ocs (l ++ [x]) = ocs l ++ oc x := by simp [ocs]
theorem ocs_at (l : List Od) (i : Nat) (h : i < l.length) : (ocs l)[3 * i]? = some (.int .i64 l[i].p) ∧ (ocs l)[3 * i + 1]? = some (.int .i64 l[i].r) ∧ (ocs l)[3 * i + 2]? = some l[i].v := by
  induction l generalizing i with
  | nil => simp at h
  | cons e ys ih =>
    cases i with
    | zero => exact ⟨rfl, rfl, rfl⟩
    | succ i =>
      have := ih i (by simpa using h)
      have e1 : ocs (e :: ys) = .int .i64 e.p :: .int .i64 e.r :: e.v :: ocs ys := rfl
      rw [e1]
      simpa [Nat.mul_succ] using this
/-- One more chain is told. -/
theorem app_od {w : World} {base : Nat} {v : Value} {l : List Od} (h : w.ownsRow base 55 3 v l.length (ocs l)) {x : Od} {g : Nat} (hg : Is w g 55 #[.int .i64 x.p, .int .i64 x.r, x.v]) (hl : l.length ≤ 8192) (hb : base ≤ w.heap.size) (ty : TypeId) :
    ∃ P C w', (Builtin.append_ #[31, 31] ty #[v, .slice (some ⟨g, 0, none⟩) 1 1]).run Try.prog w = .ok (.slice P (l.length + 1) C) w' ∧ w'.ownsRow base 55 3 (.slice P (l.length + 1) C) (l ++ [x]).length (ocs (l ++ [x])) ∧ w.grownBy w' v.ownBlock := by
  obtain ⟨i0, hi0, hh⟩ := Option.map_eq_some_iff.1 info55
  simp only [Prod.mk.injEq] at hh
  obtain ⟨hz0, hz1, hz2⟩ := hh
  obtain ⟨v', w', hr, h2, h3, _, _⟩ := run_append_own_at (P := Try.prog) w base 31 ty 55 i0 _ 3 40 Try.underlying31 hi0 hz0 hz1 hz2 rfl (by decide) v l.length _ h ⟨g, 0, none⟩ 1 1 (oc x) rfl (fun j u hj => by
    rw [add_at, Nat.zero_add, hg.cell]
    have hj3 : j < 3 := (List.getElem?_eq_some_iff.1 hj).1
    obtain rfl | rfl | rfl : j = 0 ∨ j = 1 ∨ j = 2 := by omega
    · simpa [oc] using hj
    · simpa [oc] using hj
    · simpa [oc] using hj) (fun u hu => by simp [oc] at hu; rcases hu with rfl | rfl | rfl <;> rfl) (by unfold maxLen; omega) (by omega) hb
  obtain ⟨P, C, rfl⟩ := own_shape h2
  have e1 : (l ++ [x]).length = l.length + 1 := by simp
  exact ⟨P, C, w', hr, by rw [e1, ocs_snoc]; exact h2, h3⟩
theorem own3_grown {w w' : World} {b base size n : Nat} {v u : Value} {cs cs' : List Value} {e : TypeId} {size' n' : Nat} (h : w.ownsRow b 3 size v n cs) (hu : w.ownsRow base e size' u n' cs') (he : e ≠ 3) (hg : w.grownBy w' u.ownBlock) : w'.ownsRow b 3 size v n cs := by
  refine row_kp h (Kp.of_grown hg) (fun g hm cs0 hi => ?_)
  rcases hu.2 with ⟨e1, _⟩ | ⟨g', cap, cur, e1, _, hb, _⟩
  · rw [e1] at hm; simp [Value.ownBlock] at hm
  · rw [e1] at hm
    simp [Value.ownBlock] at hm
    subst hm
    exact hi.ne (show Is w g e cur from hb) (fun e => he e.symm) rfl
/-- What a chain is told as. -/
def told (c : Ch) : Int × Int × List Int := ((c.place : Nat), (c.refs : Nat), nz c.secs.tail)
def tell' (x : Od) : Int × Int × List Int := (x.p, x.r, x.rest)
/-- What List has told so far. -/
structure Lt (w wr : World) (P : Option Addr) (C k : Nat) (L : List Ch) (l : List Od) : Prop where
  len : l.length = k
  row : wr.ownsRow w.heap.size 55 3 (.slice P k C) l.length (ocs l)
  rests : ∀ x ∈ l, wr.ownsRow w.heap.size 3 1 x.v x.rest.length (zs x.rest)
  same : l.map tell' = (L.take k).map told
  below : Below w.heap.size w wr
theorem look1 {w : World} {bc k : Nat} {D : DataW Unit} (ho : w.ownsMap Try.prog 3 RC bc k D) (p : Int) (h1 : -9223372036854775808 ≤ p) (h2 : p ≤ 9223372036854775807) :
    ∃ x : Cn, (Instr.lookup 58 (.map (some bc)) (.int .i64 p) false).run Try.prog w = .ok x.v w ∧ x.d = D.atKey (ky p) (Cn.d ⟨none, 0, 0, 0, false⟩) := by
  obtain ⟨v, ps, hrun, hv⟩ := ho.lookup law Try.underlying58 (zero78 w) (RC_mk ⟨none, 0, 0, 0, false⟩) (kof p h1 h2)
  obtain ⟨x, rfl, e⟩ := RC_inv hv
  injection e with e _
  exact ⟨x, hrun, e.symm⟩
/-- A round's append. -/
theorem Lt.next {w wr w4 : World} {P : Option Addr} {C k : Nat} {L : List Ch} {l : List Od} (h : Lt w wr P C k L l) (hk : k ≤ 8192) {c : Ch} (hc : L[k]? = some c) (hb : Below wr.heap.size wr w4) {P4 : Option Addr} {C4 n4 : Nat} (hn4 : n4 = (nz c.secs.tail).length)
    (hr4 : w4.ownsRow w.heap.size 3 1 (.slice P4 n4 C4) (nz c.secs.tail).length (zs (nz c.secs.tail))) (ty : TypeId) :
    ∃ P' C' w6, (Builtin.append_ #[31, 31] ty #[.slice P k C, .slice (some ⟨w4.heap.size, 0, none⟩) 1 1]).run Try.prog (w4.alloc (.cells #[.int .i64 (c.place : Nat), .int .i64 (c.refs : Nat), .slice P4 n4 C4] 55)) = .ok (.slice P' (k + 1) C') w6 ∧
      (∃ l', Lt w w6 P' C' (k + 1) L l') ∧ (w4.alloc (.cells #[.int .i64 (c.place : Nat), .int .i64 (c.refs : Nat), .slice P4 n4 C4] 55)).grownBy w6 (Value.slice P k C).ownBlock := by
  subst hn4
  have hi := Is.new w4 55 #[.int .i64 (c.place : Nat), .int .i64 (c.refs : Nat), .slice P4 (nz c.secs.tail).length C4]
  have hb5 := below_alloc (Below.refl _ w4) (.cells #[.int .i64 (c.place : Nat), .int .i64 (c.refs : Nat), .slice P4 (nz c.secs.tail).length C4] 55)
  generalize w4.alloc (.cells #[.int .i64 (c.place : Nat), .int .i64 (c.refs : Nat), .slice P4 (nz c.secs.tail).length C4] 55) = w5 at *
  have hb45 : Below wr.heap.size wr w5 := hb.trans (hb5.mono hb.size)
  have hrow5 : w5.ownsRow w.heap.size 55 3 (.slice P k C) l.length (ocs l) := by
    obtain ⟨h0, h1 | ⟨g, cap, cur, e1, e2, e3, e4⟩⟩ := h.row
    · exact ⟨h0, .inl h1⟩
    · exact ⟨h0, .inr ⟨g, cap, cur, e1, e2, (hb45.block g (Array.getElem?_eq_some_iff.1 e3).1).trans e3, e4⟩⟩
  obtain ⟨P', C', w6, hrun, hrow, hg⟩ := app_od (x := ⟨(c.place : Nat), (c.refs : Nat), P4, C4, nz c.secs.tail⟩) hrow5 hi (by rw [h.len]; exact hk) (by have := h.below.size; have := hb45.size; omega) ty
  rw [h.len] at hrun hrow
  refine ⟨P', C', w6, hrun, ⟨l ++ [⟨(c.place : Nat), (c.refs : Nat), P4, C4, nz c.secs.tail⟩], by simp [h.len], hrow, fun x hx => ?_, ?_, ?_⟩, hg⟩
  · rcases List.mem_append.1 hx with hx | hx
    · exact own3_grown (row_kp (h.rests x hx) (Kp.of_below hb45 []) (noI_nil _)) hrow5 (by decide) hg
    · obtain rfl := List.mem_singleton.1 hx
      exact own3_grown (row_kp hr4 (Kp.of_below hb5 []) (noI_nil _)) hrow5 (by decide) hg
  · rw [List.map_append, h.same, List.take_add_one, hc]
    simp [tell', told]
  · exact Below.grown_own (h.below.trans (hb45.mono h.below.size)) hrow5 hg
/-- An append at its operation in a region, by its run. -/
theorem step_append_run {ops : Array Oper} {o : Oper} {a : Act} {w : World} {K : Act → World → Prop} {Q : Exit → Act → World → Prop} {E : Prop}
    (hg : o.guard = none) (d x : Operand) (t : TypeId) (hop : o.op = Op.call { callee := Callee.builtin Builtin.append, args := #[d, x], argTypes := #[t, t] })
    (v u : Value) (hd : a.eval d = v) (hx : a.eval x = u) {v' : Value} {w' : World} (hr : (Builtin.append_ #[t, t] o.type #[v, u]).run Try.prog w = .ok v' w') (hK : K (a.put o.dst v') w') :
    if Region.wanted o (yielded ops a.tmps) = true then Oper.wp Try.prog o a w K Q else E := by
  have hw : Region.wanted o (yielded ops a.tmps) = true := by simp [Region.wanted, hg]
  rw [if_pos hw]
  unfold Oper.wp
  simp [execOp, hop, resolve, invoke, builtin, hd, hx, hr, Result.andThen]
  exact hK
theorem own_lt {w : World} {base e size n : Nat} {v : Value} {cs : List Value} (h : w.ownsRow base e size v n cs) {g : Nat} (hg : v.ownBlock = some g) : g < w.heap.size := by
  rcases h.2 with ⟨e1, _⟩ | ⟨g', cap, cur, e1, _, hb, _⟩
  · rw [e1] at hg; cases hg
  · rw [e1] at hg
    have : g' = g := Option.some.inj hg
    subst this
    exact (Array.getElem?_eq_some_iff.1 hb).1
section
variable {w : World} {A S : Nat} {v : Value} {bc bw n : Nat} {xs : List Sp} {L : List Ch} {W : List Nat}
set_option maxHeartbeats 4000000 in
theorem list_al (h : Am w A S v bc bw n xs L W) (hs : Srt L) (hl : L.length ≤ 4096) (hp : ∀ c ∈ L, c.place ≤ 4096) (hne : ∀ c ∈ L, c.secs ≠ []) (hsl : ∀ c ∈ L, c.secs.length ≤ 4096) :
    Calls Try.prog 12 #[.pointer (some ⟨A, 0, none⟩)] w fun e w' => ∃ P C l, e = .returned (.slice P L.length C) ∧ Lt w w' P C L.length L l := by
  have hm := made_yes h
  have c1 := h.one.cell 1
  simp at c1
  have hk := keys_any (some bc) w
  have hpl := places_c h.ch hs hl
  obtain ⟨m, hm0⟩ : ∃ m, L.length = m := ⟨_, rfl⟩
  rw [hm0] at hpl hl ⊢
  have HP := Lib.hid hpl
  have HA := Lib.hid h
  have HM := Lib.hid hm0
  clear hpl h hm0
  go_enter Try.func12, Try.ntmps12
  go_wp2_with (first
    | (go_at_call 33; refine hm.mono ?_; rintro e w' ⟨rfl, rfl⟩)
    | (go_at_call 35; refine hk.mono ?_; rintro e w' ⟨rfl, rfl⟩)
    | (go_at_call 34; refine HP.out.mono ?_; rintro e w2 ⟨P, C, rfl, hrow, hb⟩; have HR := Lib.hid hrow; have HB := Lib.hid hb; clear hrow hb))
  go_loopw [3, 5, 6, 17] (fun s _ _ i wr => ∃ (k : Nat) (P' : Option Addr) (C' : Nat) (l : List Od), i = .int .i64 (k : Int) ∧ k ≤ m ∧ s = .slice P' k C' ∧ Lt w2 wr P' C' k L l) (fun _ _ _ i _ => m - (RowKit.intOf i).toNat)
  case atStart => exact ⟨0, none, 0, [], rfl, Nat.zero_le _, rfl, ⟨rfl, ⟨rfl, .inl ⟨rfl, rfl⟩⟩, fun x hx => (by cases hx), rfl, Below.refl _ _⟩⟩
  case round =>
    obtain ⟨k, P', C', l, rfl, hkn, rfl, hlt⟩ := hrel
    have HLT := Lib.hid hlt
    by_cases hlt2 : k < m
    · have hxk : L[k]? = some (L[k]'(by rw [HM.out]; exact hlt2)) := List.getElem?_eq_getElem _
      obtain ⟨c, ex⟩ : ∃ c, L[k]'(by rw [HM.out]; exact hlt2) = c := ⟨_, rfl⟩
      rw [ex] at hxk
      have hb : Below w.heap.size w wr := HB.out.trans (hlt.below.mono HB.out.size)
      have am := HA.out.below hb
      have hcm := List.mem_of_getElem? hxk
      have hrow := row_kp HR.out (Kp.of_below hlt.below []) (noI_nil _)
      obtain ⟨q, c', eq, hx⟩ := own_sl (w := wr) (base := w.heap.size) (v := .slice P m C) (xs := nz (L.map Ch.place)) (by
        have : (nz (L.map Ch.place)).length = m := by simp [nz, HM.out]
        rw [this]
        exact hrow)
      obtain ⟨ad, rfl, hcell⟩ := hx k (c.place : Nat) (by simp [nz, hxk])
      injection eq with eq q1 q2
      clear q1 q2
      subst eq
      obtain ⟨k1, D, ho, hD⟩ := am.ch
      obtain ⟨x, hrun, hxd⟩ := look1 ho (c.place : Nat) (by omega) (by have := hp c hcm; omega)
      obtain ⟨y, hy, hf⟩ := hD.at' c hcm
      rw [hy] at hxd
      have e := Cn.d_inj hxd
      subst e
      obtain ⟨hr, hs', hrw⟩ := hf
      obtain ⟨qp, N, C1, r, s⟩ := x
      simp only at hr hs'
      subst hr hs'
      simp only [Cn.v, Cn.sl] at hrun hrw
      obtain ⟨g, hg, hN, hNC, hcells⟩ : ∃ g, (qp.map fun g => (⟨g, 0, none⟩ : Addr)) = some ⟨g, 0, none⟩ ∧ N = c.secs.length ∧ N ≤ C1 ∧ ∀ j z, (nz c.secs)[j]? = some z → wr.cell? ⟨g, j, none⟩ = some (.int .i64 z) := by
        obtain ⟨a1, a2, ea, ha⟩ := In.sl hrw
        have hlen : 0 < c.secs.length := List.length_pos_iff.2 (hne c hcm)
        rcases hrw.2 with ⟨e1, e2⟩ | ⟨g, cap, cur, e1, e2, e3, e4, e5⟩
        · omega
        · injection e1 with e1 e6 e7
          injection ea with ea _ _
          refine ⟨g, e1, e6, by omega, fun j z hj => ?_⟩
          obtain ⟨ad', h1, h2⟩ := ha j z hj
          rw [← ea, e1] at h1
          injection h1 with h1
          rw [← h1, add_at, Nat.zero_add] at h2
          exact h2
      rw [hg] at hrun
      have a1 := am.one.cell 1
      simp at a1
      have hb3 := below_alloc (Below.refl _ wr) (.cells #[.slice (some ⟨g, 0, none⟩) N C1, .int .i64 (c.refs : Nat), .bool c.sure] 78)
      have i3 := Is.new wr 78 #[.slice (some ⟨g, 0, none⟩) N C1, .int .i64 (c.refs : Nat), .bool c.sure]
      have hcs : ∀ wx, Below wr.heap.size wr wx → wx.cell? ⟨A, 1, none⟩ = some (.map (some bc)) := fun wx hb => by have := (am.below hb).one.cell 1; simpa using this
      have hN1 : 1 ≤ N := by have := List.length_pos_iff.2 (hne c hcm); omega
      have hN4 : N ≤ 4096 := by have := hsl c hcm; omega
      obtain ⟨qa, eqa⟩ : ∃ qa : Option Addr, (if C1 = 1 then some (⟨g, 0, none⟩ : Addr) else some ⟨g, 1, none⟩) = qa := ⟨_, rfl⟩
      have hNI : (1 : Int) ≤ (N : Int) := by omega
      have hnt : (nz c.secs.tail).length = N - 1 := by simp [nz, hN]
      have hcl : ∀ wx, Below wr.heap.size wr wx → Calls Try.prog 36 #[.slice qa (N - 1) (C1 - 1)] wx fun e w' => ∃ P4 C4, e = .returned (.slice P4 (N - 1) C4) ∧ w'.ownsRow wx.heap.size 3 1 (.slice P4 (N - 1) C4) (nz c.secs.tail).length (zs (nz c.secs.tail)) ∧ Below wx.heap.size wx w' := by
        intro wx hbx
        have hsl2 : Sl wx (.slice qa (N - 1) (C1 - 1)) (nz c.secs.tail) := by
          refine ⟨qa, C1 - 1, by rw [hnt], fun j z hj => ?_⟩
          have hjl := (List.getElem?_eq_some_iff.1 hj).1
          rw [hnt] at hjl
          have hC1 : ¬ C1 = 1 := by omega
          rw [if_neg hC1] at eqa
          refine ⟨_, eqa.symm, ?_⟩
          have hz : (nz c.secs)[1 + j]? = some z := by
            have e1 : c.secs.tail[j]? = c.secs[j + 1]? := by rw [List.getElem?_tail]
            simp only [nz, List.getElem?_map] at hj ⊢
            rw [e1] at hj
            rw [Nat.add_comm]
            exact hj
          have h1 := hcells _ z hz
          rw [add_at]
          rw [← h1]
          exact World.cell?_of_block (w := wr) (hbx.block g (World.block_lt_of_cell? wr _ h1))
        refine (clone_sl hsl2 (by rw [hnt]; omega)).mono ?_
        rintro e w' ⟨P4, C4, rfl, hr, hb⟩
        rw [hnt] at hr ⊢
        exact ⟨P4, C4, rfl, hr, hb⟩
      have HNT := Lib.hid hnt
      have HCL := Lib.hid hcl
      have HC := Lib.hid hcells
      have HXK := Lib.hid hxk
      have HCM := Lib.hid hcm
      have HNN := Lib.hid hN
      have HBW := Lib.hid hb
      clear hlt am ho hD hy hxd hrw hg hcells hxk hN ex hrow hcm hcl hnt hx hb hcs
      go_wp2
      generalize ew3 : wr.alloc (.cells #[.slice (some ⟨g, 0, none⟩) N C1, .int .i64 (c.refs : Nat), .bool c.sure] 78) = w3 at *
      have hbd : Below wr.heap.size wr w3.drew := below_drew hb3
      have hS : ∀ wx, Is wx wr.heap.size 78 #[.slice (some ⟨g, 0, none⟩) N C1, .int .i64 (c.refs : Nat), .bool c.sure] → wx.cell? ⟨wr.heap.size, 0, none⟩ = some (.slice (some ⟨g, 0, none⟩) N C1) ∧ wx.cell? ⟨wr.heap.size, 1, none⟩ = some (.int .i64 (c.refs : Nat)) := fun wx i4 => by
        have a0 := i4.cell 0
        have a1 := i4.cell 1
        simp at a0 a1
        exact ⟨a0, a1⟩
      have j3 : Is w3.drew wr.heap.size 78 #[.slice (some ⟨g, 0, none⟩) N C1, .int .i64 (c.refs : Nat), .bool c.sure] := i3
      have S2 := hS _ j3
      have HS := Lib.hid hS
      have HJ := Lib.hid j3
      have HBD := Lib.hid hbd
      have hclone := HCL.out _ hbd
      clear i3 hS hb3 hbd hcell a1 hrun j3
      go_region_held3 (fun wx => wx.cell? ⟨wr.heap.size, 0, none⟩ = some (.slice (some ⟨g, 0, none⟩) N C1) ∧ wx.cell? ⟨wr.heap.size, 1, none⟩ = some (.int .i64 (c.refs : Nat))) (first | exact S2 | exact HS.out _ (by assumption))
        (first
          | (go_at_call 36; refine hclone.mono ?_; rintro e w4 ⟨P4, C4, rfl, hr4, hb4⟩; (have hb14 := HBD.out.trans (hb4.mono HBD.out.size)); (obtain ⟨P6, C6, w6, hrun6, hl6, hg6⟩ := HLT.out.next (by omega) HXK.out hb14 HNT.out.symm (low_row hr4 (by have := HLT.out.below.size; have := HBD.out.size; omega)) 31); (have j4 := (Kp.of_below hb4 []).is HJ.out (by simp)); (have j5 := j4.alloc (.cells #[.int .i64 (c.place : Nat), .int .i64 (c.refs : Nat), .slice P4 (N - 1) C4] 55)); (have j6 := j5.kept hg6 (fun e => by have := own_lt HLT.out.row e.symm; omega)); have HL6 := Lib.hid hl6; clear hl6 hg6 hr4 hb4 hb14)
          | (refine step_append_run rfl _ _ 31 rfl _ _ (by simp [Act.eval]) (by simp [Act.eval]) hrun6 ?_))
      go_wp2
      go_roundw
      case rel =>
        obtain ⟨l', hl'⟩ := HL6.out
        exact ⟨k + 1, _, _, l', by go_num, by omega, rfl, hl'⟩
      case measure => simp [RowKit.intOf]; omega
    · obtain rfl : k = m := by omega
      go_wp2
      go_ret
      refine ⟨_, _, l, rfl, ⟨HLT.out.len, low_row HLT.out.row HB.out.size, fun x hx => low_row (HLT.out.rests x hx) HB.out.size, HLT.out.same, HB.out.trans (HLT.out.below.mono HB.out.size)⟩⟩
end
end Go.Proofs.Ytnpjbddannkgfaa
