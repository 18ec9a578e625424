/- Commit. Conditions: none. -/
import Derived.Test.YtnpjbddannkgfaaAlE
import Derived.Test.YtnpjbddannkgfaaRgP
namespace Go.Proofs.Ytnpjbddannkgfaa
open Go.ChangeShapes Go.WideShapes Go.RowKit Go.Maps Go.Spans Go.Alloc
set_option maxRecDepth 100000
/-- The chains while a Commit is under way: those that are not to come any more are sure. -/
def cL (left : Lit → Bool) (L : List Ch) : List Ch := L.map fun c => if left (ky (c.place : Nat)) then c else { c with sure := true }
theorem cL_start {left : Lit → Bool} {L : List Ch} (h : ∀ c ∈ L, left (ky (c.place : Nat)) = true) : cL left L = L := by
  unfold cL
  conv => rhs; rw [← List.map_id L]
  apply List.map_congr_left
  intro c hc
  simp [h c hc]
theorem cL_end {left : Lit → Bool} {L : List Ch} (h : ∀ k, left k = false) : cL left L = sureC L := by
  unfold cL sureC
  apply List.map_congr_left
  intro c _
  simp [h]
theorem cL_place {left : Lit → Bool} {L : List Ch} {y : Ch} (h : y ∈ cL left L) : ∃ c ∈ L, y = (if left (ky (c.place : Nat)) then c else { c with sure := true }) ∧ y.place = c.place := by
  obtain ⟨c, hc, rfl⟩ := List.mem_map.1 h
  refine ⟨c, hc, rfl, ?_⟩
  split <;> rfl
theorem cL_mem {left : Lit → Bool} {L : List Ch} {c : Ch} (hc : c ∈ L) : (if left (ky (c.place : Nat)) then c else { c with sure := true }) ∈ cL left L := List.mem_map.2 ⟨c, hc, rfl⟩
theorem cL_step {left : Lit → Bool} {L : List Ch} (hs : Srt L) {c : Ch} (hc : c ∈ L) :
    let left' : Lit → Bool := fun z => left z && !z.sameKey (ky (c.place : Nat))
    ({ c with sure := true } : Ch) ∈ cL left' L ∧ (∀ y ∈ cL left' L, y = { c with sure := true } ∨ (y ∈ cL left L ∧ y.place ≠ c.place)) ∧ (∀ y ∈ cL left L, y.place ≠ c.place → y ∈ cL left' L) := by
  intro left'
  have hsame : left' (ky (c.place : Nat)) = false := by
    show (left (ky (c.place : Nat)) && !(ky (c.place : Nat)).sameKey (ky (c.place : Nat))) = false
    rw [WideAt.sameKey_self (ky_is _)]
    simp
  have hother : ∀ d : Ch, d.place ≠ c.place → left' (ky (d.place : Nat)) = left (ky (d.place : Nat)) := fun d hd => by
    show (left (ky (d.place : Nat)) && !(ky (d.place : Nat)).sameKey (ky (c.place : Nat))) = _
    rw [sameKey_ne (ky_ne (by omega))]
    simp
  refine ⟨?_, fun y hy => ?_, fun y hy hne => ?_⟩
  · have := cL_mem (left := left') hc
    rw [hsame] at this
    exact this
  · obtain ⟨d, hd, e, ep⟩ := cL_place hy
    by_cases hdc : d.place = c.place
    · have : d = c := hs.inj hd hc hdc
      subst this
      rw [hsame] at e
      exact .inl e
    · rw [hother d hdc] at e
      rw [e]
      refine .inr ⟨cL_mem hd, ?_⟩
      rw [← e, ep]
      exact hdc
  · obtain ⟨d, hd, e, ep⟩ := cL_place hy
    rw [ep] at hne
    rw [e, ← hother d hne]
    exact cL_mem hd
/-- How Commit's first loop stands. -/
structure Cm (w : World) (bc r : Nat) (L : List Ch) (left : Lit → Bool) (cnt : Nat) (wr : World) : Prop where
  rg : ∃ k D, k ≤ 8192 ∧ wr.ranges Try.prog 3 RC bc r k D left cnt ∧ MD wr D (cL left L)
  kp : Kp w wr [bc]
  sub : ∀ k, left k = true → ∃ c ∈ L, k = ky (c.place : Nat)
  new : w.heap.size ≤ r
/-- A chain's parts. -/
structure Pt where
  p : Option Addr
  n : Nat
  c : Nat
  r : Int
  s : Bool
abbrev Pt.v (q : Pt) : Value := .agg #[.slice q.p q.n q.c, .int .i64 q.r, .bool q.s]
theorem RC_pt {v : Value} {y : DataW Unit × List MemPlace} (h : RC v = some y) : ∃ q : Pt, v = Pt.v q := by
  obtain ⟨x, rfl, _⟩ := RC_inv h
  exact ⟨⟨x.p.map fun g => ⟨g, 0, none⟩, x.n, x.c, x.r, x.s⟩, rfl⟩
section
variable {w : World} {A S : Nat} {v : Value} {bc bw n : Nat} {xs : List Sp} {L : List Ch} {W : List Nat}
theorem Cm.entry {r cnt : Nat} {left : Lit → Bool} {wr : World} (h : Cm w bc r L left cnt wr) {D : DataW Unit} (hD : MD wr D (cL left L))
    {x : Int} {q : Pt} {kl : Lit} {y : DataW Unit × List MemPlace} (hk : keyOf Try.prog 3 (.int .i64 x) = some kl) (hl : left kl = true) (hy : RC (Pt.v q) = some y) (hat : ∀ zd, D.atKey kl zd = y.1) :
    ∃ c ∈ L, x = (c.place : Nat) ∧ kl = ky (c.place : Nat) ∧ Maps.has D kl = true ∧ In wr (.slice q.p q.n q.c) c.secs ∧ q.r = (c.refs : Nat) := by
  obtain ⟨c, hc, rfl⟩ := h.sub kl hl
  obtain ⟨x', ex, e, _⟩ := Maps.keyOf_int_inv Try.underlying3 hk
  injection e with _ e
  injection ex with _ ex
  have hm := cL_mem (left := left) hc
  rw [hl] at hm
  obtain ⟨z, hz, hf⟩ := hD.at' _ hm
  obtain ⟨z', ez, rfl⟩ := RC_inv hy
  have h1 := hat (.agg [])
  have h2 := hz (.agg [])
  simp only [if_true] at h2
  rw [h1] at h2
  have := Cn.d_inj h2
  subst this
  simp only [if_true] at hf
  simp only [Pt.v, Cn.v, Value.agg.injEq, Array.mk.injEq, List.cons.injEq, Value.int.injEq, Value.bool.injEq, true_and, and_true] at ez
  obtain ⟨e1, e2, e3⟩ := ez
  refine ⟨c, hc, by omega, rfl, has_true_of_atKey hat, ?_, ?_⟩
  · rw [e1]; exact hf.row
  · rw [e2]; exact hf.r
/-- What a round's store makes. -/
theorem Cm.next {r cnt : Nat} {left : Lit → Bool} {wr w1 : World} (h : Cm w bc r L left cnt wr) (hs : Srt L) {c : Ch} (hc : c ∈ L) (hcp : c.place ≤ 4096) {k cnt1 : Nat} {D : DataW Unit} (hk8 : k ≤ 8192) (hD : MD wr D (cL left L)) (hm : IsMap D)
    (hrg1 : w1.ranges Try.prog 3 RC bc r k D (fun z => left z && !z.sameKey (ky (c.place : Nat))) cnt1) (hhas : Maps.has D (ky (c.place : Nat)) = true) (hg1 : Below wr.heap.size wr w1 ∨ wr.grownBy w1 (some r))
    {u : Value} (hrow : In wr u c.secs) {w2 : World} (hb2 : Below w1.heap.size w1 w2) (hNo : NoI wr [r]) :
    ∃ w3, (Instr.mapUpdate 58 (.map (some bc)) (.int .i64 (c.place : Nat)) (.agg #[u, .int .i64 (c.refs : Nat), .bool true])).run Try.prog w2 = .ok () w3 ∧ w2.grownBy w3 (some bc) ∧
      Cm w bc r L (fun z => left z && !z.sameKey (ky (c.place : Nat))) cnt1 w3 ∧ w3.rangeLeft bc r = cnt1 := by
  have k1 : Kp wr w1 [r] := by
    rcases hg1 with hg1 | hg1
    · exact Kp.of_below hg1 _
    · exact Kp.of_grown hg1
  have k2 : Kp wr w2 [r] := k1.trans (Kp.of_below hb2 [r]) (fun y hy => .inl hy)
  obtain ⟨x, ex, e1, e2, e3⟩ := hrow.cn (c.refs : Nat) true
  have hrg2 : w2.ranges Try.prog 3 RC bc r k D (fun z => left z && !z.sameKey (ky (c.place : Nat))) cnt1 := hrg1.kept (row := none) ⟨hb2.os, hb2.tape, hb2.output, hb2.size, fun i hi _ => hb2.block i hi⟩ (by simp) (by simp)
  obtain ⟨w3, hrun, hrg3, hg3⟩ := Rp.put hrg2 law Try.underlying58 (by unfold maxLen; omega) (kof (c.place : Nat) (by omega) (by omega)) (RC_mk x) hhas
  rw [← ex] at hrun
  have k3 : Kp w2 w3 [bc] := Kp.of_grown hg3
  have hn2 : NoI w2 [bc] := NoI.cons (fun cs => NoI.of_map hrg2.owns cs 3) (noI_nil w2)
  have hD3 : MD w3 D (cL left L) := (hD.kept k2 hNo).kept k3 hn2
  have hf : Fits w3 x { c with sure := true } := ⟨e2, e3, by rw [e1]; exact (hrow.kept k2 hNo).kept k3 hn2⟩
  obtain ⟨m1, m2, m3⟩ := cL_step (left := left) hs hc
  refine ⟨w3, hrun, hg3, ⟨⟨_, _, hk8, hrg3, hD3.put (c := { c with sure := true }) hm hf m1 m2 m3⟩, ?_, fun z hz => h.sub z (by simp at hz; exact hz.1), h.new⟩, hrg3.left_eq⟩
  have hn := h.new
  exact (h.kp.trans k2 (fun y hy => by simp at hy; exact .inr (by omega))).trans k3 (fun y hy => .inl hy)
/-- How Commit's second loop stands. -/
structure Cw (w : World) (S : Nat) (v : Value) (bw r n : Nat) (xs : List Sp) (W : List Nat) (left : Lit → Bool) (cnt : Nat) (wr : World) : Prop where
  rg : ∃ k D, wr.ranges Try.prog 3 (unitElem (H := Unit)) bw r k D left cnt
  kp : Kp w wr (S :: ob v)
  set : ∃ v' ys, St wr S v' n ys ∧ (∀ g ∈ ob v', g ∈ ob v ∨ w.heap.size ≤ g) ∧ ∀ j, hasB ys j = (hasB xs j || (decide (j ∈ W) && !left (ky (j : Nat))))
  sub : ∀ k, left k = true → ∃ i ∈ W, k = ky (i : Nat)
  new : w.heap.size ≤ r
theorem iter_no {w : World} {b r n cnt : Nat} {R : Value → Option (DataW Unit × List MemPlace)} {D : DataW Unit} {left : Lit → Bool} (h : w.ranges Try.prog 3 R b r n D left cnt) : NoI w [r] := by
  obtain ⟨es, clock, since, seen, c0, _, _, _, _, hr, _⟩ := h
  refine NoI.cons (fun cs hi => ?_) (noI_nil w)
  unfold Is at hi
  rw [hr] at hi
  cases hi
theorem iter_ne {w : World} {b r n cnt g : Nat} {t : TypeId} {cs : Array Value} {R : Value → Option (DataW Unit × List MemPlace)} {D : DataW Unit} {left : Lit → Bool} (h : w.ranges Try.prog 3 R b r n D left cnt) (hi : Is w g t cs) : g ≠ r := by
  rintro rfl
  obtain ⟨es, clock, since, seen, c0, _, _, _, _, hr, _⟩ := h
  unfold Is at hi
  rw [hr] at hi
  cases hi
theorem rg_kp {w w' : World} {b r n cnt : Nat} {R : Value → Option (DataW Unit × List MemPlace)} {D : DataW Unit} {left : Lit → Bool} {X : List Nat} (h : w.ranges Try.prog 3 R b r n D left cnt) (hk : Kp w w' X) (h1 : b ∉ X) (h2 : r ∉ X) : w'.ranges Try.prog 3 R b r n D left cnt := by
  have l1 := h.owns.lt
  have l2 := h.lt
  obtain ⟨es, clock, since, seen, c0, hb, F, hs, hD, hr, rest⟩ := h
  exact ⟨es, clock, since, seen, c0, (hk.block b l1 h1).trans hb, F, hs, hD, (hk.block r l2 h2).trans hr, rest⟩
theorem map_off {w : World} {b n g : Nat} {k : TypeId} {R : Value → Option (DataW Unit × List MemPlace)} {D : DataW Unit} (h : w.ownsMap Try.prog k R b n D) {t : TypeId} {cs : Array Value} (hi : Is w g t cs) : g ∉ [b] := by
  intro hm
  simp at hm
  subst hm
  exact NoI.of_map h _ _ hi
/-- An empty struct. -/
structure Un where
theorem Cw.next {S : Nat} {v : Value} {bw r n : Nat} {xs : List Sp} {W : List Nat} {left : Lit → Bool} {cnt : Nat} {w wr w1 : World} (h : Cw w S v bw r n xs W left cnt wr) (hW : ∀ k ∈ W, k < n ∧ hasB xs k = false) (hn : n ≤ 4096) (hS : S < w.heap.size)
    {x : Int} {kl : Lit} (hk : keyOf Try.prog 3 (.int .i64 x) = some kl) (hl : left kl = true) {cnt1 k : Nat} {D : DataW Unit}
    (hrg1 : w1.ranges Try.prog 3 (unitElem (H := Unit)) bw r k D (fun z => left z && !z.sameKey kl) cnt1) (hg1 : wr.grownBy w1 (some r)) (hrw : wr.ranges Try.prog 3 (unitElem (H := Unit)) bw r k D left cnt) :
    -9223372036854775808 ≤ x ∧ x ≤ 9223372036854775807 ∧ ∃ v1 ys, St w1 S v1 n ys ∧ (∀ w4 v4, To w1 w4 S v1 v4 n (fillX n ys x (x + 1)) → Cw w S v bw r n xs W (fun z => left z && !z.sameKey kl) cnt1 w4 ∧ w4.rangeLeft bw r = cnt1) := by
  obtain ⟨i, hi, rfl⟩ := h.sub kl hl
  obtain ⟨x', ex, e, _⟩ := Maps.keyOf_int_inv Try.underlying3 hk
  injection e with _ e
  injection ex with _ ex
  obtain rfl : x = (i : Nat) := by omega
  obtain ⟨hin, hix⟩ := hW i hi
  obtain ⟨v1, ys, hst, hlies, hys⟩ := h.set
  have k1 : Kp wr w1 [r] := Kp.of_grown hg1
  have hSr : S ≠ r := iter_ne hrw hst.one
  have hst1 : St w1 S v1 n ys := hst.kept k1 (by simpa using hSr) (fun g hg hm => by
    obtain ⟨cs, hv⟩ := hst.vs g hg
    simp at hm
    exact iter_ne hrw hv hm)
  refine ⟨by omega, by omega, v1, ys, hst1, fun w4 v4 hto => ?_⟩
  have hnew : hasB ys i = false := by rw [hys i, hix, hl]; simp
  obtain ⟨_, f2, f3⟩ := give_new hst.ok hin hnew
  have hrg4 : w4.ranges Try.prog 3 (unitElem (H := Unit)) bw r k D (fun z => left z && !z.sameKey (ky (i : Nat))) cnt1 := by
    refine rg_kp hrg1 hto.kp ?_ ?_
    · intro hm
      rcases List.mem_cons.1 hm with rfl | hm
      · exact NoI.of_map hrg1.owns _ _ hst1.one
      · obtain ⟨cs, hv⟩ := hst1.vs _ hm
        exact NoI.of_map hrg1.owns _ _ hv
    · intro hm
      rcases List.mem_cons.1 hm with rfl | hm
      · exact hSr rfl
      · obtain ⟨cs, hv⟩ := hst1.vs _ hm
        exact iter_ne hrg1 hv rfl
  have hnw := h.new
  refine ⟨⟨⟨_, _, hrg4⟩, ?_, ⟨v4, _, hto.st, fun g hg => ?_, fun j => ?_⟩, fun z hz => h.sub z (by simp at hz; exact hz.1), h.new⟩, hrg4.left_eq⟩
  · refine (h.kp.trans k1 (fun y hy => by simp at hy; exact .inr (by omega))).trans hto.kp (fun y hy => ?_)
    rcases List.mem_cons.1 hy with rfl | hy
    · simp
    · rcases hlies y hy with e | e
      · simp [e]
      · exact .inr e
  · rcases hto.lies g hg with e | e
    · exact hlies g e
    · have := h.kp.size; have := k1.size; exact .inr (by omega)
  · rw [f3 j, hys j]
    by_cases hj : j = i
    · subst hj
      rw [hl, WideAt.sameKey_self (ky_is _)]
      simp [hi]
    · rw [sameKey_ne (ky_ne (show ((j : Nat) : Int) ≠ (i : Nat) by omega))]
      simp [hj]
set_option maxHeartbeats 2000000 in
theorem commit_c (h : Am w A S v bc bw n xs L W) (hs : Srt L) (hl : L.length ≤ 8192) (hp : ∀ c ∈ L, c.place ≤ 4096) (hW : ∀ k ∈ W, k < n ∧ hasB xs k = false) :
    Calls Try.prog 26 #[.pointer (some ⟨A, 0, none⟩)] w fun e w' => e = .returned (.tuple #[]) ∧ ∃ v' ys, Ta w w' A S v v' bc bw n ys (sureC L) [] ∧ ∀ j, hasB ys j = (hasB xs j || decide (j ∈ W)) := by
  have hm := made_yes h
  have a1 := h.one.cell 1
  simp at a1
  obtain ⟨k0, D, ho0, hD⟩ := h.ch
  have hsz := size_of ho0 (srt_nodup hs) hD.iff
  rw [List.length_map] at hsz
  have ho := tight ho0
  obtain ⟨w0, hrun, hrg, hg, hsz2⟩ := ho.range law Try.underlying58
  have hb0 : Below w.heap.size w w0 := ⟨hg.os, hg.tape, hg.output, hg.size, fun k _ => hg.block k (by assumption) (by simp)⟩
  have C0 : Cm w bc w.heap.size L (Maps.has D) (Maps.size D) w0 := by
    refine ⟨⟨_, _, by omega, hrg, ?_⟩, Kp.of_below hb0 _, fun k hk => hD.keys k hk, Nat.le_refl _⟩
    rw [cL_start (fun c hc => by obtain ⟨x, hx, _⟩ := hD.at' c hc; exact has_true_of_atKey hx)]
    exact hD.kept (Kp.of_below hb0 []) (noI_nil w)
  have HC := Lib.hid C0
  have HA := Lib.hid h
  have hlt := h.ch.lt
  clear hrg hg hsz2 C0 ho ho0 hD hb0 hsz h
  go_enter Try.func26, Try.ntmps26
  go_wp2_with (go_at_call 33; refine hm.mono ?_; rintro e w' ⟨rfl, rfl⟩)
  go_loopw [2, 3] (fun _ _ wr => ∃ (left : Lit → Bool) (cnt : Nat), Cm w bc w.heap.size L left cnt wr) (fun _ _ wr => wr.rangeLeft bc w.heap.size)
  case atStart => exact ⟨_, _, HC.out⟩
  case round =>
    obtain ⟨left, cnt, hcm⟩ := hrel
    obtain ⟨k1, D1, hk8, hrg, hD1⟩ := hcm.rg
    have HCM := Lib.hid hcm
    have HD1 := Lib.hid hD1
    clear hcm hD1 HC hrun
    go_wp2_with (first
      | (at_next; refine wpList_next_ranges _ rfl _ rfl 3 law RC (Value.int .i64) (fun q : Pt => Value.agg #[.slice q.p q.n q.c, .int .i64 q.r, .bool q.s]) (fun key kl hk => by obtain ⟨x, e, _⟩ := Maps.keyOf_int_inv Try.underlying3 hk; exact ⟨x, e⟩) (fun v y hv => RC_pt hv) bc w.heap.size _ _ _ _ rfl hrg ?_ ?_)
      | go_in)
    · intro _ hl0
      have hcm := HCM.out
      have hA2 : Am wr A S v bc bw n xs (sureC L) W := by
        refine ⟨hcm.kp.is HA.out.one (by have := HA.out.ac; simpa using this), HA.out.set.kept hcm.kp (by have := HA.out.sc; simpa using this) (fun g hgv hm => by simp at hm; subst hm; exact HA.out.vc hgv), ⟨_, _, hrg.owns, ?_⟩, HA.out.wt.kept hcm.kp (by have := HA.out.ne; simp; omega), HA.out.ne⟩
        have := HD1.out
        rw [cL_end hl0] at this
        exact this
      have hkw := hcm.kp
      have a2 := hA2.one.cell 2
      simp at a2
      obtain ⟨k2, D2, ho2, hD2⟩ := hA2.wt
      obtain ⟨w5, hrun5, hrg5, hg5, hsz5⟩ := ho2.range law Try.underlying59
      have hb5 : Below wr.heap.size wr w5 := ⟨hg5.os, hg5.tape, hg5.output, hg5.size, fun k _ => hg5.block k (by assumption) (by simp)⟩
      have C5 : Cw wr S v bw wr.heap.size n xs W (Maps.has D2) (Maps.size D2) w5 := by
        refine ⟨⟨_, _, hrg5⟩, Kp.of_below hb5 _, ⟨v, xs, hA2.set.below hb5, fun g hg => .inl hg, fun j => ?_⟩, fun k hk => (hD2 k).1 hk, Nat.le_refl _⟩
        have : (decide (j ∈ W) && !Maps.has D2 (ky (j : Nat))) = false := by
          by_cases hj : j ∈ W
          · rw [(hD2 _).2 ⟨j, hj, rfl⟩]; simp
          · simp [hj]
        rw [this]
        simp
      have HC5 := Lib.hid C5
      have HA2 := Lib.hid hA2
      have HKW := Lib.hid hkw
      have HW := Lib.hid hW
      clear hcm hkw hA2 ho2 hD2 hrg5 hg5 hsz5 hb5 C5 hl0 hrg hW
      go_wp2
      go_loopw [4] (fun _ wz => ∃ (left : Lit → Bool) (cnt : Nat), Cw wr S v bw wr.heap.size n xs W left cnt wz) (fun _ wz => wz.rangeLeft bw wr.heap.size)
      case atStart => exact ⟨_, _, HC5.out⟩
      case round =>
        obtain ⟨left2, cnt2, hcw⟩ := hrel
        obtain ⟨k3, D3, hrg3⟩ := hcw.rg
        have o3 := hcw.kp.is HA2.out.one HA2.out.aS
        have a0 := o3.cell 0
        have a22 := o3.cell 2
        simp at a0 a22
        have HCW := Lib.hid hcw
        have HO := Lib.hid o3
        clear hcw o3 HC5 hrun5 a2 a1
        go_wp2_with (first
          | (at_next; refine wpList_next_ranges _ rfl _ rfl 3 law (unitElem (H := Unit)) (Value.int .i64) (fun _ : Un => Value.agg #[]) (fun key kl hk => by obtain ⟨x, e, _⟩ := Maps.keyOf_int_inv Try.underlying3 hk; exact ⟨x, e⟩) (fun v y hv => ⟨⟨⟩, (unitElem_inv hv).1⟩) bw _ _ _ _ _ rfl hrg3 ?_ ?_)
          | go_in)
        · intro _ hl0
          obtain ⟨w9, hclr, how, ht9⟩ := Rp.clear hrg3.owns (t := 59) Try.underlying59 0
          obtain ⟨v9, ys, hst, hlies, hys⟩ := HCW.out.set
          have k9 : Kp _ w9 [bw] := Kp.of_grown ht9.grown
          have hbw := fun g t cs => map_off hrg3.owns (g := g) (t := t) (cs := cs)
          have hst9 : St w9 S v9 n ys := hst.kept k9 (hbw _ _ _ hst.one) (fun g hg => by obtain ⟨cs, hv⟩ := hst.vs g hg; exact hbw _ _ _ hv)
          have hfin : Ta w w9 A S v v9 bc bw n ys (sureC L) [] := by
            refine ⟨⟨k9.is HO.out (hbw _ _ _ HO.out), hst9, (HA2.out.ch.kept HCW.out.kp HA2.out.cS HA2.out.noS).kept k9 (by have := HA2.out.ne; simpa using this) (NoI.cons (fun cs => NoI.of_map hrg3.owns cs 3) (noI_nil _)), ⟨_, _, how, fun kl => ⟨fun h => (by cases h), fun ⟨i, hi, _⟩ => (by cases hi)⟩⟩, HA2.out.ne⟩, ?_, fun g hg => ?_⟩
            · refine ((HKW.out.more ?_).trans (HCW.out.kp.more ?_) (fun y hy => .inl hy)).trans (k9.more ?_) (fun y hy => .inl hy)
              · intro g hg; simp at hg; simp [bl, hg]
              · intro g hg
                simp only [bl, List.mem_cons] at hg ⊢
                rcases hg with rfl | hg
                · simp
                · simp [hg]
              · intro g hg; simp at hg; simp [bl, hg]
            · rcases hlies g hg with e | e
              · exact .inl e
              · have := HKW.out.size; exact .inr (by omega)
          have hys2 : ∀ j, hasB ys j = (hasB xs j || decide (j ∈ W)) := fun j => by rw [hys j, hl0]; simp
          have HF := Lib.hid hfin
          have HY := Lib.hid hys2
          clear hfin hys2 hst hst9 hlies hys k9 hbw how ht9 hrg3 hl0
          go_wp2
          go_end0
          exact ⟨rfl, v9, ys, HF.out, HY.out⟩
        · intro x q kl y yp w1 cnt1 hkey hlk hv hat hrg1 hlt1 hg1 hs1 hen
          obtain ⟨hx1, hx2, v1, ys, hst, hto⟩ := HCW.out.next HW.out HA2.out.set.hi HA2.out.set.one.lt hkey hlk hrg1 hg1 hrg3
          have o1 := (Kp.of_grown hg1).is HO.out (by simpa using iter_ne hrg3 HO.out)
          have b0 := o1.cell 0
          simp at b0
          have hmz := hrg3.left_eq
          have HG := Lib.hid (give_c hst x hx1 hx2)
          have HTo := Lib.hid hto
          have HZ := Lib.hid hmz
          have HL1 := Lib.hid hlt1
          clear hkey hlk hv hat hrg1 hlt1 hg1 hs1 hst hto o1 hmz hx1 hx2 hrg3 HO
          go_wp2_with (go_at_call 54; refine HG.out.mono ?_; rintro e w4 ⟨rfl, v4, ht⟩; have HT4 := Lib.hid ht; clear ht)
          go_roundw
          case rel => exact ⟨_, _, (HTo.out _ _ HT4.out).1⟩
          case measure => rw [(HTo.out _ _ HT4.out).2, HZ.out]; exact HL1.out
    · intro x q kl y yp w1 cnt1 hkey hlk hv hat hrg1 hlt1 hg1 hs1 hen
      obtain ⟨c, hc, rfl, rfl, hhas, hrow, hr⟩ := HCM.out.entry HD1.out hkey hlk hv hat
      obtain ⟨P, N, C, r0, s0⟩ := q
      simp only at hrow hr hen
      subst hr
      have hwr := HCM.out.kp
      have hnw := HCM.out.new
      have o1 := (hwr.trans (Kp.of_grown hg1) (fun y hy => by simp at hy; exact .inr (by omega))).is HA.out.one (by have := HA.out.ac; simpa using this)
      have i2 := Is.new w1 78 #[.slice P N C, .int .i64 (c.refs : Nat), .bool true]
      have o2 := o1.alloc (.cells #[.slice P N C, .int .i64 (c.refs : Nat), .bool true] 78)
      have hb2 : Below w1.heap.size w1 (w1.alloc (.cells #[.slice P N C, .int .i64 (c.refs : Nat), .bool true] 78)).drew := below_drew (below_alloc (Below.refl _ _) _)
      obtain ⟨w3, hrun3, hg3, hC3, hm3⟩ := HCM.out.next hs hc (hp c hc) hk8 HD1.out (hrg.owns.tidy law).isMap hrg1 hhas (.inr hg1) hrow hb2 (iter_no hrg)
      have hbc : bc < w1.heap.size := hrg1.owns.lt
      have hmz : w3.rangeLeft bc w.heap.size < wr.rangeLeft bc w.heap.size := by rw [hm3, hrg.left_eq]; exact hlt1
      generalize ew2 : w1.alloc (.cells #[.slice P N C, .int .i64 (c.refs : Nat), .bool true] 78) = w2 at *
      have i3 : Is w3 w1.heap.size 78 #[.slice P N C, .int .i64 (c.refs : Nat), .bool true] := (show Is w2.drew w1.heap.size 78 _ from i2).kept hg3 (by simp; omega)
      have o3 : Is w3 A 61 _ := (show Is w2.drew A 61 _ from o2).kept hg3 (by have := HA.out.ac; simpa using this)
      have S2 : w2.drew.cell? ⟨A, 1, none⟩ = _ ∧ w2.drew.cell? ⟨w1.heap.size, 0, none⟩ = _ ∧ w2.drew.cell? ⟨w1.heap.size, 1, none⟩ = _ ∧ w2.drew.cell? ⟨w1.heap.size, 2, none⟩ = _ := And.intro (o2.cell 1) (And.intro (i2.cell 0) (And.intro (i2.cell 1) (i2.cell 2)))
      have S3 := And.intro (o3.cell 1) (And.intro (i3.cell 0) (And.intro (i3.cell 1) (i3.cell 2)))
      simp at S2 S3
      have HN := Lib.hid hC3
      have HZ := Lib.hid hmz
      clear hkey hlk hv hat hrg1 hlt1 hg1 hs1 hhas hrow hwr hnw o1 o2 o3 i2 i3 hb2 hg3 hC3 hm3 hrg hc hmz
      go_wp2
      go_region_held3 (fun wx => wx.cell? ⟨A, 1, none⟩ = some (.map (some bc)) ∧ wx.cell? ⟨w1.heap.size, 0, none⟩ = some (.slice P N C) ∧ wx.cell? ⟨w1.heap.size, 1, none⟩ = some (.int .i64 (c.refs : Nat)) ∧ wx.cell? ⟨w1.heap.size, 2, none⟩ = some (.bool true)) (first | exact S2 | exact S3)
        (fail)
      go_wp2
      go_roundw
      case rel => exact ⟨_, _, HN.out⟩
      case measure => exact HZ.out
end
end Go.Proofs.Ytnpjbddannkgfaa
