/- A right allocator of the call's own, and its calls. Conditions: none. -/
import Derived.Test.YtnpjbddannkgfaaAlR
import Derived.Test.YtnpjbddannkgfaaAlO
namespace Go.Proofs.Ytnpjbddannkgfaa
open Go.ChangeShapes Go.WideShapes Go.RowKit Go.Maps Go.Spans Go.Alloc
set_option maxRecDepth 100000
/-- Blocks of other types than the allocator's are as they were. -/
structure Kq (w w' : World) : Prop where
  size : w.heap.size ≤ w'.heap.size
  is : ∀ k t cs, Is w k t cs → t ≠ 99 → t ≠ 101 → Is w' k t cs
theorem Kq.refl (w : World) : Kq w w := ⟨Nat.le_refl _, fun _ _ _ h _ _ => h⟩
theorem Kq.trans {a b c : World} (h : Kq a b) (k : Kq b c) : Kq a c := ⟨Nat.le_trans h.size k.size, fun i t cs hi h1 h2 => k.is i t cs (h.is i t cs hi h1 h2) h1 h2⟩
theorem Kq.below {a b : World} (h : Below a.heap.size a b) : Kq a b := ⟨h.size, fun i _ _ hi _ _ => (Kp.of_below h []).is hi (by simp)⟩
theorem Kq.row {w w' : World} (hk : Kq w w') {b e size n : Nat} {v : Value} {cs : List Value} (h : w.ownsRow b e size v n cs) (h1 : e ≠ 99) (h2 : e ≠ 101) : w'.ownsRow b e size v n cs := by
  obtain ⟨h0, h | ⟨g, cap, cur, e1, e2, e3, e4⟩⟩ := h
  · exact ⟨h0, .inl h⟩
  · exact ⟨h0, .inr ⟨g, cap, cur, e1, e2, hk.is g e cur e3 h1 h2, e4⟩⟩
/-- A right allocator of the call's own. -/
def Oi (B : Nat) (wB w : World) (A f n : Nat) (xs : List Sp) (L : List Ch) (W : List Nat) : Prop := ∃ S v bc bw, Oa B wB w A S v bc bw n xs L W ∧ Go.Alloc.Inv f n xs L W
def chainL (L : List Ch) (p : Int) : List Nat := match findC L p with | none => [] | some c => c.secs
def refsN (L : List Ch) (p : Int) : Nat := match findC L p with | none => 0 | some c => c.refs
def sureB (L : List Ch) (p : Int) : Bool := match findC L p with | none => false | some c => c.sure
def holdE (L : List Ch) (p : Int) : Int := match findC L p with | none => 5 | some c => if c.refs = 65535 then 3 else 0
def holdL (L : List Ch) (p : Int) : List Ch := match findC L p with | none => L | some c => if c.refs = 65535 then L else setC L p fun c => { c with refs := c.refs + 1 }
def dropE (L : List Ch) (p : Int) : Int := match findC L p with | none => 5 | some _ => 0
def dropB (L : List Ch) (p : Int) : Bool := match findC L p with | none => false | some c => decide (c.refs ≤ 1)
def dropL' (L : List Ch) (p : Int) : List Ch := match findC L p with | none => L | some c => if c.refs ≤ 1 then eraC L p else setC L p fun c => { c with refs := c.refs - 1 }
/-- What becomes of the sectors when a reference is let go. -/
def dropS (L : List Ch) (p : Int) (xs ys : List Sp) (W W' : List Nat) : Prop := match findC L p with
  | none => ys = xs ∧ W' = W
  | some c => if c.refs ≤ 1 then (if c.sure then ys = xs ∧ W'.Perm (c.secs ++ W) else W' = W ∧ ∀ j, hasB ys j = (hasB xs j || decide (j ∈ c.secs))) else ys = xs ∧ W' = W
section
variable {B : Nat} {wB w w' : World} {A f n : Nat} {xs : List Sp} {L : List Ch} {W : List Nat}
theorem Oi.later (h : Oi B wB w A f n xs L W) (hb : Below w.heap.size w w') : Oi B wB w' A f n xs L W := by
  obtain ⟨S, v, bc, bw, ho, hi⟩ := h
  exact ⟨S, v, bc, bw, ho.later hb, hi⟩
theorem Oi.lt (h : Oi B wB w A f n xs L W) : B ≤ w.heap.size := by obtain ⟨S, v, bc, bw, ho, hi⟩ := h; exact ho.lt
theorem Oi.below (h : Oi B wB w A f n xs L W) : Below B wB w := by obtain ⟨S, v, bc, bw, ho, hi⟩ := h; exact ho.below
theorem Oi.inv (h : Oi B wB w A f n xs L W) : Go.Alloc.Inv f n xs L W := by obtain ⟨S, v, bc, bw, ho, hi⟩ := h; exact hi
theorem bl_kq {S : Nat} {v : Value} {bc bw : Nat} (am : Am w A S v bc bw n xs L W) (kp : Kp w w' (bl S v bc bw)) : Kq w w' := ⟨kp.size, fun _ _ _ hi h1 h2 => kp.is hi (am.off hi h1 h2)⟩
theorem Oi.found (h : Oi B wB w A f n xs L W) (p : Int) (hp : i64r p) : ∃ P N C E, In w (.slice P N C) (chainL L p) ∧ Fd w (.pointer (some ⟨A, 0, none⟩)) p P N C (refsN L p : Nat) (sureB L p) E ∧ E = dropE L p := by
  obtain ⟨S, v, bc, bw, ho, hi⟩ := h
  cases hf : findC L p with
  | none =>
    refine ⟨none, 0, 0, 5, ?_, ?_, ?_⟩
    · simp only [chainL, hf]
      exact ⟨rfl, .inl ⟨rfl, rfl⟩⟩
    · have := find_none ho.am p hp.1 hp.2 hf
      simp only [refsN, sureB, hf]
      exact this
    · simp only [dropE, hf]
  | some c =>
    obtain ⟨hc, ep⟩ := findC_some hf
    obtain ⟨P, N, C, h1, h2⟩ := find_some ho.am hc (by have := (hi.place hc).2; have := hi.hi; omega)
    rw [ep] at h2
    refine ⟨P, N, C, 0, ?_, ?_, ?_⟩
    · simp only [chainL, hf]; exact h1
    · simpa only [refsN, sureB, hf] using h2
    · simp only [dropE, hf]
theorem Oi.free (h : Oi B wB w A f n xs L W) : Calls Try.prog 24 #[.pointer (some ⟨A, 0, none⟩)] w fun e w' => e = .returned (.int .i64 (cnt xs : Nat)) ∧ Below w.heap.size w w' := by
  obtain ⟨S, v, bc, bw, ho, hi⟩ := h
  exact free_c ho.am
theorem Oi.waiting (h : Oi B wB w A f n xs L W) : Calls Try.prog 27 #[.pointer (some ⟨A, 0, none⟩)] w fun e w' => e = .returned (.int .i64 (W.length : Nat)) ∧ w = w' := by
  obtain ⟨S, v, bc, bw, ho, hi⟩ := h
  exact waiting_c ho.am hi.wnodup
theorem Oi.refs (h : Oi B wB w A f n xs L W) (p : Int) (hp : i64r p) : Calls Try.prog 22 #[.pointer (some ⟨A, 0, none⟩), .int .i64 p] w fun e w' => e = .returned (.int .i64 (refsN L p : Nat)) ∧ Below w.heap.size w w' := by
  obtain ⟨P, N, C, E, _, hf, _⟩ := h.found p hp
  exact refs_of hf
theorem Oi.sure (h : Oi B wB w A f n xs L W) (p : Int) (hp : i64r p) : Calls Try.prog 25 #[.pointer (some ⟨A, 0, none⟩), .int .i64 p] w fun e w' => e = .returned (.bool (sureB L p)) ∧ Below w.heap.size w w' := by
  obtain ⟨P, N, C, E, _, hf, _⟩ := h.found p hp
  exact sure_of hf
theorem chainL_len (hi : Go.Alloc.Inv f n xs L W) (p : Int) : (chainL L p).length ≤ 4096 := by
  unfold chainL
  cases hf : findC L p with
  | none => simp
  | some c => exact hi.slen (findC_some hf).1
theorem Oi.chain (h : Oi B wB w A f n xs L W) (p : Int) (hp : i64r p) : Calls Try.prog 28 #[.pointer (some ⟨A, 0, none⟩), .int .i64 p] w fun e w' => ∃ P C, e = .returned (.slice P (chainL L p).length C) ∧ w'.ownsRow w.heap.size 3 1 (.slice P (chainL L p).length C) (chainL L p).length (zs (nz (chainL L p))) ∧ Below w.heap.size w w' := by
  obtain ⟨P, N, C, E, hr, hf, _⟩ := h.found p hp
  refine (chain_of hf hr.sl (by have := chainL_len h.inv p; simp [nz]; omega)).mono ?_
  rintro e w' ⟨v', rfl, hrow, hb⟩
  have e1 : (nz (chainL L p)).length = (chainL L p).length := by simp [nz]
  rw [e1] at hrow
  obtain ⟨P', C', rfl⟩ := own_shape hrow
  exact ⟨P', C', rfl, hrow, hb⟩
theorem Oi.list (h : Oi B wB w A f n xs L W) : Calls Try.prog 12 #[.pointer (some ⟨A, 0, none⟩)] w fun e w' => ∃ P C l, e = .returned (.slice P L.length C) ∧ Ls w' w'.heap.size P l ∧ l.map tell' = L.map told ∧ l.length = L.length ∧ Below w.heap.size w w' := by
  obtain ⟨S, v, bc, bw, ho, hi⟩ := h
  have hhi := hi.hi
  refine (list_al ho.am hi.srt hi.llen (fun c hc => by have := (hi.place hc).2; omega) hi.ne (fun c hc => hi.slen hc)).mono ?_
  rintro e w' ⟨P, C, l, rfl, hl⟩
  have hsame := hl.same
  rw [List.take_length] at hsame
  refine ⟨P, C, l, rfl, fun i x hx => ?_, hsame, hl.len, hl.below⟩
  have hxm := List.mem_of_getElem? hx
  have hlt := (List.getElem?_eq_some_iff.1 hx).1
  have hix : l[i] = x := (List.getElem?_eq_some_iff.1 hx).2
  have hsl := own_sl (hl.rests x hxm)
  obtain ⟨c, hc, ec⟩ : ∃ c ∈ L, told c = tell' x := by
    have : tell' x ∈ l.map tell' := List.mem_map.2 ⟨x, hxm, rfl⟩
    rw [hsame] at this
    obtain ⟨c, hc, e⟩ := List.mem_map.1 this
    exact ⟨c, hc, e⟩
  injection ec with e1 e2
  injection e2 with e2 e3
  have hpl := (hi.place hc).2
  have hrf := (hi.refs c hc).2
  refine ⟨Nb.of_sl hsl, ⟨by unfold i64r; omega, by unfold i64r; omega, fun y hy => ?_⟩, ?_⟩
  · rw [← e3] at hy
    obtain ⟨z, hz, rfl⟩ := List.mem_map.1 hy
    have := (hi.sec hc (List.mem_of_mem_tail hz)).2.1
    unfold i64r; omega
  · rcases hl.row.2 with ⟨e, h0⟩ | ⟨g, cap, cur, e, _, hb, _, _, _, htk⟩
    · omega
    · injection e with e _ _
      have hi3 : Is w' g 55 cur := hb
      obtain ⟨o1, o2, o3⟩ := ocs_at l i hlt
      rw [hix] at o1 o2 o3
      have e3 : (⟨g, 0, none⟩ : Addr).add (i * 3) = ⟨g, 3 * i, none⟩ := by rw [add_at, Nat.zero_add, Nat.mul_comm]
      refine ⟨_, e, ?_, ?_, ?_, ?_⟩
      · rw [e3]; exact hi3.lt
      · rw [e3, hi3.cell]; exact cur_get htk o1
      · rw [e3, hi3.cell]; exact cur_get htk o2
      · rw [e3, hi3.cell]; exact cur_get htk o3
theorem Oi.alloc (h : Oi B wB w A f n xs L W) (k : Int) : Calls Try.prog 20 #[.pointer (some ⟨A, 0, none⟩), .int .i64 k] w fun e w' =>
    ∃ P C, Kq w w' ∧ w'.ownsRow w.heap.size 3 1 (.slice P (takeL xs k).length C) (takeL xs k).length (ints (takeL xs k)) ∧ e = .returned (.tuple #[.slice P (takeL xs k).length C, .int .i64 (takeE xs k)]) ∧
      Oi B wB w' A f n (takeX xs k) (if takeE xs k = 0 then insC ⟨takeL xs k, 1, false⟩ L else L) W := by
  obtain ⟨S, v, bc, bw, ho, hi⟩ := h
  by_cases hE : takeE xs k = 0
  · have hll := hi.llen
    obtain ⟨p, hp⟩ : ∃ p, (takeL xs k)[0]? = some p := by
      have h4 := (take_facts hi.ok hE).2.2.2.1
      have h1 := (take_facts hi.ok hE).1
      exact ⟨_, List.getElem?_eq_getElem (by omega)⟩
    have hpm := List.mem_of_getElem? hp
    obtain ⟨_, _, e1, e2, e3⟩ := take_facts hi.ok hE
    have hpx : hasB xs p = true := (mem_elems hi.ok).1 (by rw [e1] at hpm; exact List.mem_of_mem_take hpm)
    have hlt := hasB_lt hi.ok hpx
    have hhi := hi.hi
    have hc := cnt_le hi.ok
    refine (alloc_ok ho.am hi.srt (by omega) k hE rfl hp (by omega) (by omega) (fun x hx e => ?_)).mono ?_
    · have := (hi.sec hx (place_mem (hi.ne x hx))).2.2.1
      rw [e, hpx] at this
      cases this
    · rintro e w' ⟨P, C, v', rfl, ht, hr⟩
      rw [hE, if_pos rfl]
      exact ⟨P, C, bl_kq ho.am ht.kp, hr, rfl, S, v', bc, bw, ho.to ht, (inv_alloc hi hE ht.am.set.ok).1⟩
  · refine (alloc_fail ho.am k rfl hE).mono ?_
    rintro e w' ⟨rfl, v', ht⟩
    have hn : k < 1 ∨ (cnt xs : Int) < k := by
      unfold takeE at hE
      split at hE
      · omega
      · split at hE
        · omega
        · omega
    have e1 : takeL xs k = [] := by unfold takeL; rw [if_pos hn]
    have e2 : takeX xs k = xs := by unfold takeX; rw [if_pos hn]
    rw [if_neg hE, e1]
    rw [e2] at ht ⊢
    exact ⟨none, 0, bl_kq ho.am ht.kp, ⟨rfl, .inl ⟨rfl, rfl⟩⟩, rfl, S, v', bc, bw, ho.to ht, hi⟩
theorem bc_ta {S : Nat} {v : Value} {bc bw : Nat} {M : List Ch} (am : Am w' A S v bc bw n xs M W) (kp : Kp w w' [bc]) : Ta w w' A S v v bc bw n xs M W := ⟨am, kp.more (by intro g hg; simp at hg; simp [bl, hg]), fun g hg => .inl hg⟩
theorem Oi.hold (h : Oi B wB w A f n xs L W) (p : Int) (hp : i64r p) : Calls Try.prog 21 #[.pointer (some ⟨A, 0, none⟩), .int .i64 p] w fun e w' => e = .returned (.int .i64 (holdE L p)) ∧ Kq w w' ∧ Oi B wB w' A f n xs (holdL L p) W := by
  obtain ⟨P, N, C, E, _, hfd, hE⟩ := h.found p hp
  have h0 := h
  obtain ⟨S, v, bc, bw, ho, hi⟩ := h
  cases hf : findC L p with
  | none =>
    simp only [dropE, hf] at hE
    subst hE
    refine (hold_bad hfd (by decide)).mono ?_
    rintro e w' ⟨rfl, hb⟩
    simp only [holdE, holdL, hf]
    exact ⟨trivial, Kq.below hb, h0.later hb⟩
  | some c =>
    obtain ⟨hc, ep⟩ := findC_some hf
    simp only [dropE, hf] at hE
    subst hE
    by_cases hr : c.refs = 65535
    · simp only [refsN, hf, hr] at hfd
      refine (hold_full hfd).mono ?_
      rintro e w' ⟨rfl, hb⟩
      simp only [holdE, holdL, hf, hr, if_true]
      exact ⟨trivial, Kq.below hb, h0.later hb⟩
    · have hrr := hi.refs c hc
      have hu := hold_up ho.am hi.srt (by have := hi.llen; omega) hc (by have := (hi.place hc).2; have := hi.hi; omega) (by omega)
      rw [ep] at hu
      refine hu.mono ?_
      rintro e w' ⟨rfl, ham, hkp⟩
      have ht := bc_ta ham hkp
      simp only [holdE, holdL, hf, hr, if_false]
      refine ⟨trivial, bl_kq ho.am ht.kp, S, v, bc, bw, ho.to ht, inv_set hi (fun _ => rfl) fun d hd => ?_⟩
      rw [hf] at hd
      injection hd with hd
      subst hd
      simp only
      omega
theorem Oi.drop (h : Oi B wB w A f n xs L W) (p : Int) (hp : i64r p) : Calls Try.prog 29 #[.pointer (some ⟨A, 0, none⟩), .int .i64 p] w fun e w' => e = .returned (.tuple #[.bool (dropB L p), .int .i64 (dropE L p)]) ∧ Kq w w' ∧ ∃ ys W', dropS L p xs ys W W' ∧ Oi B wB w' A f n ys (dropL' L p) W' := by
  obtain ⟨P, N, C, E, _, hfd, hE⟩ := h.found p hp
  have h0 := h
  obtain ⟨S, v, bc, bw, ho, hi⟩ := h
  cases hf : findC L p with
  | none =>
    simp only [dropE, hf] at hE
    subst hE
    refine (drop_bad hfd (by decide)).mono ?_
    rintro e w' ⟨rfl, hb⟩
    simp only [dropB, dropE, dropL', dropS, hf]
    exact ⟨trivial, Kq.below hb, xs, W, ⟨rfl, rfl⟩, h0.later hb⟩
  | some c =>
    obtain ⟨hc, ep⟩ := findC_some hf
    have hrr := hi.refs c hc
    have hpl := hi.place hc
    have hhi := hi.hi
    have hll := hi.llen
    by_cases hr : c.refs ≤ 1
    · have hr1 : c.refs = 1 := by omega
      have hsl := hi.slen hc
      have hnd : (allS L ++ W).Nodup := by
        have := hi.nodup
        exact (List.perm_append_comm.nodup_iff).1 ((List.nodup_append.1 this).2.1)
      have hsub : c.secs.Sublist (allS L) := by
        obtain ⟨a, b, e⟩ := List.append_of_mem hc
        rw [e]
        unfold allS
        rw [List.flatMap_append, List.flatMap_cons]
        exact (List.sublist_append_left _ _).trans (List.sublist_append_right _ _)
      have hcW : (c.secs ++ W).Nodup := hnd.sublist (List.Sublist.append_right hsub W)
      have hwl := hi.wlen
      cases hsr : c.sure with
      | true =>
        have hd := drop_last ho.am hc (by omega) hr1 (fun w' => Ta w w' A S v v bc bw n xs (eraC L (c.place : Nat)) (c.secs.reverse ++ W)) (fun V P N C hkp ham hrow => by
          rw [hsr]
          refine (letGo_sure ham hrow hcW (fun k hk => by have := (hi.sec hc hk).2.1; omega) (by omega)).mono ?_
          rintro e w' ⟨rfl, ht⟩
          exact ⟨rfl, (bc_ta ham hkp).trans ht⟩)
        rw [ep] at hd
        refine hd.mono ?_
        rintro e w' ⟨rfl, ht⟩
        simp only [dropB, dropE, dropL', dropS, hf, hr, decide_true, if_true, hsr]
        exact ⟨trivial, bl_kq ho.am ht.kp, xs, _, ⟨rfl, List.Perm.append_right _ (List.reverse_perm _)⟩, S, v, bc, bw, ho.to ht, inv_gone_sure hi hf (List.Perm.append_right _ (List.reverse_perm _))⟩
      | false =>
        have hd := drop_last ho.am hc (by omega) hr1 (fun w' => ∃ v' ys, Ta w w' A S v v' bc bw n ys (eraC L (c.place : Nat)) W ∧ ∀ j, hasB ys j = (hasB xs j || decide (j ∈ c.secs))) (fun V P N C hkp ham hrow => by
          rw [hsr]
          refine (letGo_free ham hrow (List.nodup_append.1 hcW).1 (fun k hk => (hi.sec hc hk).2.1) (fun k hk => (hi.sec hc hk).2.2.1) (by omega)).mono ?_
          rintro e w' ⟨rfl, v', ys, ht, hys⟩
          exact ⟨rfl, v', ys, (bc_ta ham hkp).trans ht, hys⟩)
        rw [ep] at hd
        refine hd.mono ?_
        rintro e w' ⟨rfl, v', ys, ht, hys⟩
        simp only [dropB, dropE, dropL', dropS, hf, hr, decide_true, if_true, hsr, Bool.false_eq_true, if_false]
        exact ⟨trivial, bl_kq ho.am ht.kp, ys, W, ⟨rfl, hys⟩, S, v', bc, bw, ho.to ht, inv_gone_free hi hf ht.am.set.ok hys⟩
    · have hu := drop_down ho.am hi.srt (by omega) hc (by omega) (by omega) hrr.2
      rw [ep] at hu
      refine hu.mono ?_
      rintro e w' ⟨rfl, ham, hkp⟩
      have ht := bc_ta ham hkp
      simp only [dropB, dropE, dropL', dropS, hf, hr, decide_false, if_false]
      refine ⟨trivial, bl_kq ho.am ht.kp, xs, W, ⟨rfl, rfl⟩, S, v, bc, bw, ho.to ht, inv_set hi (fun _ => rfl) fun d hd => ?_⟩
      rw [hf] at hd
      injection hd with hd
      subst hd
      simp only
      omega
theorem Oi.commit (h : Oi B wB w A f n xs L W) : Calls Try.prog 26 #[.pointer (some ⟨A, 0, none⟩)] w fun e w' => e = .returned (.tuple #[]) ∧ Kq w w' ∧ ∃ ys, (∀ j, hasB ys j = (hasB xs j || decide (j ∈ W))) ∧ Oi B wB w' A f n ys (sureC L) [] := by
  obtain ⟨S, v, bc, bw, ho, hi⟩ := h
  have hhi := hi.hi
  refine (commit_c ho.am hi.srt (by have := hi.llen; omega) (fun c hc => by have := (hi.place hc).2; omega) (fun k hk => ⟨(hi.wait hk).2.1, (hi.wait hk).2.2⟩)).mono ?_
  rintro e w' ⟨rfl, v', ys, ht, hys⟩
  exact ⟨rfl, bl_kq ho.am ht.kp, ys, hys, S, v', bc, bw, ho.to ht, inv_commit hi ht.am.set.ok hys⟩
end
/-- What lies in right blocks is a chain of sectors: New. -/
theorem inv_new {f n : Nat} (h1 : f < n) (h2 : n ≤ 4096) {xs : List Sp} (hok : Ok n xs) (hxs : ∀ j, hasB xs j = decide (f ≤ j ∧ j < n)) : Go.Alloc.Inv f n xs [] [] := by
  refine ⟨hok, h1, h2, .nil, by simp, by simp, ?_⟩
  have : elems xs = List.range' f (n - f) := by
    rw [← elems_eq hok, List.range_eq_range']
    have hsp : List.range' 0 n = List.range' 0 f ++ List.range' f (n - f) := by
      have := List.range'_append_1 (s := 0) (m := f) (n := n - f)
      rw [Nat.zero_add, show f + (n - f) = n by omega] at this
      exact this.symm
    rw [hsp, List.filter_append]
    have e1 : (List.range' 0 f).filter (hasB xs) = [] := filter_none fun x hx => by
      rw [List.mem_range'_1] at hx
      rw [hxs x]
      exact decide_eq_false (by omega)
    have e2 : (List.range' f (n - f)).filter (hasB xs) = List.range' f (n - f) := by
      rw [List.filter_eq_self]
      intro x hx
      rw [List.mem_range'_1] at hx
      rw [hxs x]
      exact decide_eq_true (by omega)
    rw [e1, e2, List.nil_append]
  rw [this]
  simp [allS]
theorem oi_new (f n : Nat) (h1 : f < n) (h2 : n ≤ 4096) (w : World) : Calls Try.prog 8 #[.int .i64 (f : Nat), .int .i64 (n : Nat)] w fun e w' =>
    ∃ A xs, e = .returned (.pointer (some ⟨A, 0, none⟩)) ∧ Oi w.heap.size w w' A f n xs [] [] ∧ ∀ j, hasB xs j = decide (f ≤ j ∧ j < n) := by
  refine (new_al f n h1 h2 w).mono ?_
  rintro e w' ⟨A, S, v, bc, bw, xs, rfl, ho, hxs⟩
  exact ⟨A, xs, rfl, ⟨S, v, bc, bw, ho, inv_new h1 h2 ho.am.set.ok hxs⟩, hxs⟩
end Go.Proofs.Ytnpjbddannkgfaa
