/- AllocKnown. Conditions: none. -/
import Derived.Test.YtnpjbddannkgfaaAlU
namespace Go.Proofs.Ytnpjbddannkgfaa
open Go.ChangeShapes Go.WideShapes Go.RowKit Go.Maps Go.Spans Go.Alloc
set_option maxRecDepth 100000
section
variable {B : Nat} {wB w w' : World} {A f n : Nat} {E : List Nat} {L : List Ch} {W : List Nat}
theorem Oc.allocF (h : Oc B wB w A f n E L W) (k e0 : Int) (hE : allocE E k = e0) (h0 : e0 ≠ 0) : Calls Try.prog 20 #[.pointer (some ⟨A, 0, none⟩), .int .i64 k] w fun e w' => ∃ P C, e = .returned (.tuple #[.slice P 0 C, .int .i64 e0]) ∧ Oc B wB w' A f n E L W := by
  have := h.alloc k
  rw [hE] at this
  simp only [h0, if_false] at this
  refine this.mono ?_
  rintro e w' ⟨P, C, _, _, rfl, ho⟩
  exact ⟨P, C, rfl, ho⟩
theorem Oc.holdN (h : Oc B wB w A f n E L W) (p : Int) (hp : i64r p) (e0 : Int) (L' : List Ch) (h1 : holdE L p = e0) (h2 : holdL L p = L') : Calls Try.prog 21 #[.pointer (some ⟨A, 0, none⟩), .int .i64 p] w fun e w' => e = .returned (.int .i64 e0) ∧ Kq w w' ∧ Oc B wB w' A f n E L' W := by
  subst h1 h2
  obtain ⟨xs, W', h1, rfl, h3⟩ := h
  refine (h1.hold p hp).mono ?_
  rintro e w' ⟨rfl, hq, ho⟩
  exact ⟨rfl, hq, xs, W', ho, rfl, h3⟩
theorem drops_lit (h : Oc B wB w A f n E L W) (p : Int) (hp : i64r p) (last : Bool) (e0 : Int) (E' : List Nat) (L' : List Ch) (W' : List Nat) (h1 : dropB L p = last) (h2 : dropE L p = e0) (h3 : dropF n E L p = E') (h4 : dropL' L p = L') (h5 : dropW W L p = W') :
    Calls Try.prog 23 #[.pointer (some ⟨A, 0, none⟩), .int .i64 p, .bool last, .int .i64 e0] w fun e w' => e = .returned (.bool true) ∧ Oc B wB w' A f n E' L' W' := by
  subst h3 h4 h5
  exact drops_c h p hp last e0 h1 h2
theorem Oc.refsM (h : Oc B wB w A f n E L W) (p : Int) (hp : i64r p) (m : Int) (hm : ((refsN L p : Nat) : Int) = m) : Calls Try.prog 22 #[.pointer (some ⟨A, 0, none⟩), .int .i64 p] w fun e w' => e = .returned (.int .i64 m) ∧ Below w.heap.size w w' := by
  subst hm; exact h.refs p hp
theorem Oc.sureM (h : Oc B wB w A f n E L W) (p : Int) (hp : i64r p) (b : Bool) (hb : sureB L p = b) : Calls Try.prog 25 #[.pointer (some ⟨A, 0, none⟩), .int .i64 p] w fun e w' => e = .returned (.bool b) ∧ Below w.heap.size w w' := by
  subst hb; exact h.sure p hp
theorem Oc.commitM (h : Oc B wB w A f n E L W) (E' : List Nat) (L' : List Ch) (h1 : up n (E ++ W) = E') (h2 : sureC L = L') : Calls Try.prog 26 #[.pointer (some ⟨A, 0, none⟩)] w fun e w' => e = .returned (.tuple #[]) ∧ Oc B wB w' A f n E' L' [] := by
  subst h1 h2; exact h.commit
theorem Oc.chainM (h : Oc B wB w A f n E L W) (p : Int) (hp : i64r p) (m : Nat) (hm : (chainL L p).length = m) (z : Nat) (hz : (chainL L p)[1]? = some z) : Calls Try.prog 28 #[.pointer (some ⟨A, 0, none⟩), .int .i64 p] w fun e w' => ∃ g C, e = .returned (.slice (some ⟨g, 0, none⟩) m C) ∧ w'.cell? ⟨g, 1, none⟩ = some (.int .i64 (z : Nat)) ∧ Below w.heap.size w w' := by
  subst hm
  refine (h.chain p hp).mono ?_
  rintro e w' ⟨P, C, rfl, hr, hb⟩
  have e1 : (nz (chainL L p)).length = (chainL L p).length := by simp [nz]
  rcases hr.2 with ⟨_, h0⟩ | ⟨g, cap, cur, e2, _⟩
  · have := (List.getElem?_eq_some_iff.1 hz).1; omega
  · injection e2 with e2 _ _
    subst e2
    obtain ⟨a, c, ea, hc⟩ := own_sl (xs := nz (chainL L p)) (by rw [e1]; exact hr)
    injection ea with ea _ _
    obtain ⟨ad, e3, hcell⟩ := hc 1 (z : Nat) (by simp [nz, hz])
    rw [← ea] at e3
    injection e3 with e3
    subst e3
    rw [add_at] at hcell
    exact ⟨g, C, rfl, hcell, hb⟩
theorem Oc.listN (h : Oc B wB w A f n E L W) (m : Nat) (hm : L.length = m) : Calls Try.prog 12 #[.pointer (some ⟨A, 0, none⟩)] w fun e w' => ∃ P C, e = .returned (.slice P m C) ∧ Below w.heap.size w w' := by
  subst hm; exact h.list
theorem Oc.low {B' : Nat} {wB' : World} (h : Oc B' wB' w A f n E L W) (hB : B ≤ B') (hb : Below B wB wB') : Oc B wB w A f n E L W := by
  obtain ⟨xs, W', ⟨S, v, bc, bw, ho, hi⟩, h2, h3⟩ := h
  exact ⟨xs, W', ⟨S, v, bc, bw, ⟨ho.am, Nat.le_trans hB ho.loA, fun g hg => Nat.le_trans hB (ho.lo g hg), hb.trans (ho.below.mono hB)⟩, hi⟩, h2, h3⟩
end
theorem ls_one (W : World) (p r z : Int) (hp : i64r p) (hr : i64r r) (hz : i64r z) :
    Ls ((W.alloc (.cells #[.int .i64 z] 3)).alloc (.cells #[.int .i64 p, .int .i64 r, .slice (some ⟨W.heap.size, 0, none⟩) 1 1] 55)) (W.heap.size + 2) (some ⟨W.heap.size + 1, 0, none⟩) [⟨p, r, some ⟨W.heap.size, 0, none⟩, 1, [z]⟩] := by
  intro i x hx
  have hi : i = 0 := by have := (List.getElem?_eq_some_iff.1 hx).1; simp at this; omega
  subst hi
  simp at hx
  subst hx
  have i1 := (Is.new W 3 #[.int .i64 z]).alloc (.cells #[.int .i64 p, .int .i64 r, .slice (some ⟨W.heap.size, 0, none⟩) 1 1] 55)
  have i2 : Is ((W.alloc (.cells #[.int .i64 z] 3)).alloc (.cells #[.int .i64 p, .int .i64 r, .slice (some ⟨W.heap.size, 0, none⟩) 1 1] 55)) (W.heap.size + 1) 55 #[.int .i64 p, .int .i64 r, .slice (some ⟨W.heap.size, 0, none⟩) 1 1] := by
    have := Is.new (W.alloc (.cells #[.int .i64 z] 3)) 55 #[.int .i64 p, .int .i64 r, .slice (some ⟨W.heap.size, 0, none⟩) 1 1]
    rwa [World.size_alloc] at this
  refine ⟨fun j y hj => ?_, ⟨hp, hr, fun y hy => by simp at hy; subst hy; exact hz⟩, _, rfl, ?_, ?_, ?_, ?_⟩
  · have hj0 : j = 0 := by have := (List.getElem?_eq_some_iff.1 hj).1; simp at this; omega
    subst hj0
    simp at hj
    subst hj
    refine ⟨_, rfl, ?_, ?_⟩
    · rw [add_at]; simp
    · rw [add_at, i1.cell]; rfl
  · rw [add_at]; simp
  · rw [add_at, i2.cell]; rfl
  · rw [add_at, i2.cell]; rfl
  · rw [add_at, i2.cell]; rfl
theorem ls_bare (W : World) (p r : Int) (hp : i64r p) (hr : i64r r) :
    Ls (W.alloc (.cells #[.int .i64 p, .int .i64 r, .slice none 0 0] 55)) (W.heap.size + 1) (some ⟨W.heap.size, 0, none⟩) [⟨p, r, none, 0, []⟩] := by
  intro i x hx
  have hi : i = 0 := by have := (List.getElem?_eq_some_iff.1 hx).1; simp at this; omega
  subst hi
  simp at hx
  subst hx
  have i2 := Is.new W 55 #[.int .i64 p, .int .i64 r, .slice none 0 0]
  refine ⟨fun j y hj => by simp at hj, ⟨hp, hr, fun y hy => by simp at hy⟩, _, rfl, ?_, ?_, ?_, ?_⟩
  · rw [add_at]; simp
  · rw [add_at, i2.cell]; rfl
  · rw [add_at, i2.cell]; rfl
  · rw [add_at, i2.cell]; rfl
theorem oc_load (f n : Nat) (h1 : f < n) (h2 : n ≤ 4096) {w : World} {A0 : Option Addr} {l : List Od} (cap : Nat) (hl : Ls w w.heap.size A0 l) (hln : l.length ≤ 8192) (hrl : ∀ o ∈ l, o.rest.length ≤ 8192) (hok : loadOK f n l) (E : List Nat) (hE : (List.range n).filter (fun j => decide (f ≤ j ∧ j < n) && !decide (((j : Nat) : Int) ∈ allO l)) = E) (L : List Ch) (hL : loadL l = L) (m : Nat) (hm : l.length = m) :
    Calls Try.prog 13 #[.int .i64 (f : Nat), .int .i64 (n : Nat), .slice A0 m cap] w fun e w' => ∃ A, e = .returned (.tuple #[.pointer (some ⟨A, 0, none⟩), .int .i64 0]) ∧ Oc w.heap.size w w' A f n E L [] := by
  subst hm hE hL
  refine (load_c f n h1 h2 cap hl hln hrl).mono ?_
  rintro e w' (⟨_, A, S, v, bc, bw, xs, rfl, ho, hxs⟩ | ⟨hn, _⟩)
  · refine ⟨A, rfl, xs, [], ⟨S, v, bc, bw, ho, load_inv hok h1 h2 ho.am.set.ok hxs⟩, ?_, .refl _⟩
    rw [← elems_eq ho.am.set.ok]
    apply List.filter_congr
    intro x _
    exact hxs x
  · exact absurd hok hn
theorem load_bad (f n : Nat) (h1 : f < n) (h2 : n ≤ 4096) {w : World} {A0 : Option Addr} {l : List Od} (cap : Nat) (hl : Ls w w.heap.size A0 l) (hln : l.length ≤ 8192) (hrl : ∀ o ∈ l, o.rest.length ≤ 8192) (hok : ¬ loadOK f n l) (m : Nat) (hm : l.length = m) :
    Calls Try.prog 13 #[.int .i64 (f : Nat), .int .i64 (n : Nat), .slice A0 m cap] w fun e w' => e = .returned (.tuple #[.pointer none, .int .i64 4]) ∧ Below w.heap.size w w' := by
  subst hm
  refine (load_c f n h1 h2 cap hl hln hrl).mono ?_
  rintro e w' (⟨hn, _⟩ | ⟨_, rfl, hb⟩)
  · exact absurd hn hok
  · exact ⟨rfl, hb⟩
theorem drops_no {w : World} {v : Value} (h : No w v) (p : Int) : Calls Try.prog 23 #[v, .int .i64 p, .bool false, .int .i64 1] w fun e w' => e = .returned (.bool true) ∧ Below w.heap.size w w' := by
  have hD := drop_bad (find_no h p) (by decide)
  clear h
  go_enter Try.func23, Try.ntmps23
  go_wp2_with (go_at_call 29; refine hD.mono ?_; rintro e w1 ⟨rfl, hb⟩)
  go_ret
  exact ⟨by simp, hb⟩
end Go.Proofs.Ytnpjbddannkgfaa
