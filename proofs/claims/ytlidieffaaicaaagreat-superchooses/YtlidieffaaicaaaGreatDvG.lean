/- Barrier. Conditions: none. -/
import Derived.Test.YtlidieffaaicaaaGreatDvF
namespace Go.Proofs.YtlidieffaaicaaaGreat.Fu
open Go.ChangeShapes Go.WideShapes Go.RowKit Go.Maps
set_option maxRecDepth 100000
/-- What stands on it while a barrier is under way: those that wait and are not to come any more are settled. -/
def barL (st : List Cel) (left : Lit → Bool) : List Cel := st.mapIdx fun i c => if c.t.isSome && !left (ky i) then ⟨c.r, none⟩ else c
theorem barL_len (st : List Cel) (left : Lit → Bool) : (barL st left).length = st.length := by simp [barL]
theorem barL_get (st : List Cel) (left : Lit → Bool) (i : Nat) : (barL st left)[i]? = st[i]?.map fun c => if c.t.isSome && !left (ky i) then ⟨c.r, none⟩ else c := by simp [barL]
theorem barL_start {st : List Cel} {left : Lit → Bool} (h : ∀ (i : Nat) (c : Cel), st[i]? = some c → left (ky i) = c.t.isSome) : barL st left = st := by
  apply List.ext_getElem?
  intro i
  rw [barL_get]
  cases hc : st[i]? with
  | none => rfl
  | some c =>
    have := h i c hc
    cases ht : c.t <;> simp [this, ht]
theorem barL_end {st : List Cel} {left : Lit → Bool} (h : ∀ k, left k = false) : barL st left = bar st := by
  apply List.ext_getElem?
  intro i
  rw [barL_get, bar, List.getElem?_map]
  cases hc : st[i]? with
  | none => rfl
  | some c =>
    obtain ⟨s, t⟩ := c
    cases t <;> simp [h, Cel.r]
theorem barL_step {st : List Cel} {left : Lit → Bool} {i : Nat} {c : Cel} {t : List UInt8} (hc : st[i]? = some c) (ht : c.t = some t) :
    (barL st left).set i ⟨t, none⟩ = barL st fun z => left z && !z.sameKey (ky i) := by
  have hlt := (List.getElem?_eq_some_iff.1 hc).1
  apply List.ext_getElem?
  intro j
  rw [barL_get, List.getElem?_set, barL_len]
  by_cases e : i = j
  · subst e
    rw [if_pos rfl, if_pos hlt, hc]
    have : (ky i).sameKey (ky i) = true := WideAt.sameKey_self (ky_is i)
    simp [this, ht, Cel.r]
  · rw [if_neg e, barL_get]
    have : (ky j).sameKey (ky i) = false := sameKey_ne (ky_ne (fun e' => e e'.symm))
    simp [this]
theorem barrier_no {w : World} {v : Value} (h : No w v) : Calls Tryz.prog 11 #[v] w fun e w' => e = .returned (.tuple #[]) ∧ w = w' := by
  have hm := isMade_no h
  clear h
  go_enter Tryz.func11, Tryz.ntmps11
  go_wp2_with (go_at_call 31; refine hm.mono ?_; rintro e w' ⟨rfl, rfl⟩)
  refine bodyPost_ret (results_none rfl _ _ _) rfl ?_
  exact ⟨rfl, rfl⟩
/-- How a barrier's loop stands. -/
structure Br (w : World) (B bs bw r : Nat) (st : List Cel) (left : Lit → Bool) (cnt : Nat) (wr : World) : Prop where
  dev : Dv wr B bs bw (barL st left)
  rg : ∃ k D, wr.ranges Tryz.prog 3 R bw r k D left cnt
  sub : ∀ k, left k = true → ∃ i c t, st[i]? = some c ∧ c.t = some t ∧ k = ky i
  kp : Kp w wr [bs, bw]
  new : w.heap.size ≤ r
theorem owns_one {w : World} {b n n' : Nat} {D D' : DataW Unit} (h : w.ownsMap Tryz.prog 3 R b n D) (h' : w.ownsMap Tryz.prog 3 R b n' D') : D = D' := by
  obtain ⟨es, clock, hb, _, _, rfl⟩ := h
  obtain ⟨es', clock', hb', _, _, rfl⟩ := h'
  rw [hb] at hb'
  injection hb' with hb'
  injection hb' with e _
  rw [e]
/-- The entry that has come is a sector that waits, with what it shows. -/
theorem Br.entry {w wr : World} {B bs bw r : Nat} {st : List Cel} {left : Lit → Bool} {cnt k : Nat} {D : DataW Unit} (h : Br w B bs bw r st left cnt wr) (hr : wr.ranges Tryz.prog 3 R bw r k D left cnt)
    {x : Int} {l : List UInt8} {kl : Lit} {y : DataW Unit × List MemPlace} (hk : keyOf Tryz.prog 3 (.int .i64 x) = some kl) (hl : left kl = true) (hy : R (.agg (cl l)) = some y) (hat : ∀ zd, D.atKey kl zd = y.1) :
    ∃ (i : Nat) (c : Cel), x = i ∧ kl = ky i ∧ st[i]? = some c ∧ c.t = some l ∧ l.length = 128 ∧ (barL st left)[i]? = some c := by
  obtain ⟨i, c, t, hc, ht, rfl⟩ := h.sub kl hl
  obtain ⟨x', ex, e, _⟩ := Maps.keyOf_int_inv Tryz.underlying3 hk
  injection e with _ e
  injection ex with _ ex
  obtain ⟨l', hl', el, rfl⟩ := R_inv hy
  injection el with el
  obtain rfl := cl_inj el
  obtain ⟨k', D', ho, hD⟩ := h.dev.wait
  obtain rfl := owns_one hr.owns ho
  have hb : (barL st left)[i]? = some c := by rw [barL_get, hc]; simp [hl]
  have := hat (sd l)
  rw [hD.at' i c t hb ht] at this
  injection this with this
  injection this with this
  subst this
  exact ⟨i, c, by omega, rfl, hc, ht, hl', hb⟩
theorem Br.next {w wr : World} {B bs bw r : Nat} {st : List Cel} {left : Lit → Bool} {cnt : Nat} (h : Br w B bs bw r st left cnt wr) {i : Nat} {c : Cel} {l : List UInt8} (hc : st[i]? = some c) (ht : c.t = some l)
    {k cnt1 : Nat} {D : DataW Unit} {w1 w' w2 : World} (hr1 : w1.ranges Tryz.prog 3 R bw r k D (fun z => left z && !z.sameKey (ky i)) cnt1) (hlt : cnt1 < cnt) (k1 : Kp w w1 [bs, bw])
    (hdel : (Builtin.delete_ #[63, 3] 0 #[.map (some bw), .int .i64 (i : Int)]).run Tryz.prog ((w1.alloc (.cells (cl l) 71)).alloc (.cells (cl l) 71)) = .ok (.tuple #[]) w2) (hg : w2.grownBy w' (some bs))
    (hd : Dv w' B bs bw ((barL st left).set i ⟨l, none⟩)) (kk : Kp (w1.alloc (.cells (cl l) 71)) w' [bs, bw]) :
    ∃ left' cnt', Br w B bs bw r st left' cnt' w' ∧ w'.rangeLeft bw r < cnt := by
  have hi := (List.getElem?_eq_some_iff.1 hc).1
  have hhi := hd.hi
  rw [List.length_set, barL_len] at hhi
  obtain ⟨wx, cnt2, hrun, hr2, hle, hturn⟩ := ((hr1.alloc (.cells (cl l) 71)).alloc (.cells (cl l) 71)).drop law Tryz.underlying63 (kof i (by omega) (by omega)) 0
  rw [hdel] at hrun
  injection hrun with _ hw
  subst hw
  rw [strike_twice] at hr2
  have hrs : r ≠ bs := by
    have h1 := h.new
    have h2 : bs < w.heap.size ∨ ¬ bs < w.heap.size := by omega
    rintro rfl
    obtain ⟨k, D, ⟨es, clock, hb, _⟩, _⟩ := h.dev.sure
    obtain ⟨_, _, hrg⟩ := h.rg
    obtain ⟨es, clock, since, seen, c0, _, _, _, _, hrr, _⟩ := hrg
    rw [hb] at hrr
    cases hrr
  have hr3 := hr2.kept hg (by have := hd.ne; simp; omega) (by simp; omega)
  refine ⟨_, cnt2, ⟨by rw [← barL_step hc ht]; exact hd, ⟨_, _, hr3⟩, fun z hz => h.sub z (by simp at hz; exact hz.1), ?_, h.new⟩, by rw [hr3.left_eq]; omega⟩
  exact k1.trans ((Kp.of_below (below_alloc (Below.refl w1.heap.size w1) (.cells (cl l) 71)) [bs, bw]).trans kk (fun y hy => .inl hy)) (fun y hy => .inl hy)
theorem mem2 {a b x : Nat} (h : x ∈ [a]) : x ∈ [a, b] ∨ x ∈ [b, a] := by simp at h; simp [h]
set_option maxHeartbeats 4000000 in
theorem barrier_yes {w : World} {B bs bw : Nat} {st : List Cel} (h : Dv w B bs bw st) : Calls Tryz.prog 11 #[.pointer (some ⟨B, 0, none⟩)] w
    fun e w' => e = .returned (.tuple #[]) ∧ Dv w' B bs bw (bar st) ∧ Kp w w' [bs, bw] := by
  have hm := isMade_yes h
  have c2 := h.one.cell 2
  simp at c2
  obtain ⟨k, D, ho, hD⟩ := h.wait
  obtain ⟨w0, hrun, hrg, hg, hsz⟩ := ho.range law Tryz.underlying63
  have k0 : Kp w w0 [bs, bw] := ⟨hg.os, hg.tape, hg.output, hg.size, fun k hk _ => hg.block k hk (by simp)⟩
  have hst : barL st (Maps.has D) = st := barL_start (fun i c hc => hD.has i c hc)
  have B0 : Br w B bs bw w.heap.size st (Maps.has D) (Maps.size D) w0 := by
    refine ⟨?_, ⟨_, _, hrg⟩, fun k hk => ?_, k0, Nat.le_refl _⟩
    · rw [hst]; exact h.kept (X := []) ⟨hg.os, hg.tape, hg.output, hg.size, fun k hk _ => hg.block k hk (by simp)⟩ (by simp) (by simp) (by simp)
    · obtain ⟨i, hi, rfl⟩ := hD.keys k hk
      have hc := List.getElem?_eq_getElem hi
      have := hD.has i _ hc
      rw [hk] at this
      obtain ⟨t, ht⟩ := Option.isSome_iff_exists.1 this.symm
      exact ⟨i, _, t, hc, ht, rfl⟩
  have hz := zero64
  have HB := Lib.hid B0
  clear hrg hg hsz k0 hst B0 ho hD
  go_enter Tryz.func11, Tryz.ntmps11
  go_wp2_with (go_at_call 31; refine hm.mono ?_; rintro e w' ⟨rfl, rfl⟩)
  go_loopw [2, 3] (fun _ _ wr => ∃ (left : Lit → Bool) (cnt : Nat), Br w B bs bw w.heap.size st left cnt wr) (fun _ _ wr => wr.rangeLeft bw w.heap.size)
  case atStart => exact ⟨_, _, HB.out⟩
  case round =>
    obtain ⟨left, cnt, hbr⟩ := hrel
    obtain ⟨k1, D1, hrg⟩ := hbr.rg
    have HBR := Lib.hid hbr
    clear hbr HB hrun
    go_wp2_with (first
      | (at_next; refine wpList_next_ranges _ rfl _ rfl 3 law R (Value.int .i64) (fun l : List UInt8 => Value.agg (cl l)) (fun key kl hk => by obtain ⟨x, e, _⟩ := Maps.keyOf_int_inv Tryz.underlying3 hk; exact ⟨x, e⟩) (fun v y hv => by obtain ⟨l, _, e, _⟩ := R_inv hv; exact ⟨l, e⟩) bw w.heap.size _ _ _ _ rfl hrg ?_ ?_)
      | go_in)
    · intro _ hl0
      go_wp2
      go_end0
      have hb := HBR.out
      have hd := hb.dev
      rw [barL_end hl0] at hd
      exact ⟨rfl, hd, hb.kp⟩
    · intro x l kl y yp w1 cnt1 hkey hlk hv hat hrg1 hlt hg1 hs1 hen
      clear hs1
      obtain ⟨i, c, rfl, rfl, hc, ht, hl, hbc⟩ := HBR.out.entry hrg hkey hlk hv hat
      have kw1 : Kp w w1 [bs, bw] := HBR.out.kp.trans (Kp.of_grown hg1) (fun y hy => by simp at hy; omega)
      have dv1 : Dv w1 B bs bw (barL st left) := HBR.out.dev.kept (Kp.of_grown hg1) (by have := h.lt; simp; omega) (by have := h.lts; simp; omega) (by have := h.ltw; simp; omega)
      have dv2 := dv1.below (below_alloc (Below.refl w1.heap.size w1) (.cells (cl l) 71))
      have hset := settle_any dv2 hbc hl
      have j0 := Is.new w1 71 (cl nought)
      have e1 : (w1.alloc (.cells (cl nought) 71)).setRow w1.heap.size (cl l) = w1.alloc (.cells (cl l) 71) := World.setRow_alloc_new _ _ _ _
      have j1 := Is.new w1 71 (cl l)
      have hcn := hrg.left_eq
      have hnx := fun (w' w2 : World) => HBR.out.next (w' := w') (w2 := w2) hc ht hrg1 hlt kw1
      clear hrg hkey hv hat hrg1 hg1 dv1 dv2 hbc hlk HBR
      have HN := Lib.hid hnx
      have HC := Lib.hid hcn
      clear hnx hcn hlt kw1 ht hc h hm c2
      go_wp2_with (first
        | (go_at_call 32; refine hset.mono ?_; rintro e w' ⟨rfl, ⟨w2, hdel, hg3⟩, hd3, kk3⟩)
        | (refine wpList_load_row rfl 71 (Operand.tmp 3) rfl w1.heap.size rfl 71 (cl l) (0, 0) _ j1 Tryz.underlying71 rfl (info64' hl) ?_)
        | (refine wpList_store_row rfl 71 (Operand.tmp 3) (Operand.tmp 16) rfl w1.heap.size (cl l) rfl rfl 71 (cl nought) j0 (info64' hl) (by rw [cl_size, cl_size, hl, nought_len]) (cl_one _) ?_; rw [e1]))
      obtain ⟨left', cnt', hB', hm'⟩ := HN.out w' w2 hdel hg3 hd3 kk3
      go_roundw
      case rel => exact ⟨left', cnt', hB'⟩
      case measure => rw [HC.out]; exact hm'
end Go.Proofs.YtlidieffaaicaaaGreat.Fu
