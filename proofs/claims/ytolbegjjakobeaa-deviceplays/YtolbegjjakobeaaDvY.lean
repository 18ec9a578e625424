/- Acts at both devices, step by step. Conditions: none. -/
import Derived.Test.YtolbegjjakobeaaDvX
namespace Go.Proofs.Ytolbegjjakobeaa
open Go.ChangeShapes Go.WideShapes Go.RowKit Go.Maps
set_option maxRecDepth 100000
theorem do_kp {w w1 : World} {B b c : Nat} {st : List Cel} (ho : Own w w1 B b c st) (x : Ac) (hs : Sw w1 w.heap.size x.v x.xs) : Calls Try.prog 11 #[.pointer (some ⟨B, 0, none⟩), .agg x.cells] w1
    fun e w2 => ∃ B' b' c', e = .returned (.tuple #[.pointer (some ⟨B', 0, none⟩), .int .i64 (errA st x)]) ∧ Own w w2 B' b' c' (stA' st x) ∧ Kp w1 w2 [b, c] := by
  have hb := below_alloc (Below.refl w1.heap.size w1) (.cells #[.int .u8 (x.what : Nat), .int .i64 x.at', .int .i64 x.ask, .string x.s, x.v] 33)
  have hob := ho.later hb
  have hbb : Below w.heap.size w1 (boxed w1 x) := hb.mono ho.below.size
  have fin : ∀ (w2 : World) (st' : List Cel), Dv w2 B b c st' → Kp (boxed w1 x) w2 [b, c] → Own w w2 B b c st' ∧ Kp w1 w2 [b, c] := fun w2 st' hd hk =>
    ⟨hob.step hd hk (fun y hy => by simpa using hy), grow_kp hb hk⟩
  unfold errA stA'
  by_cases h2 : x.what % 6 ≤ 2
  · rw [if_pos h2, if_pos h2]
    refine (do_write _ x (fun w2 => Own w w2 B b c (stW st x.at' x.s) ∧ Kp w1 w2 [b, c]) w1 _ rfl h2 (errW st x.at' x.s) ((write_any hob.dev x.at' x.s).mono ?_)).mono ?_
    · rintro e w2 ⟨rfl, hd, hk⟩
      exact ⟨rfl, fin w2 _ hd hk⟩
    · rintro e w2 ⟨rfl, h1, h2⟩
      exact ⟨B, b, c, rfl, h1, h2⟩
  · rw [if_neg h2, if_neg h2]
    by_cases h3 : x.what % 6 = 3
    · rw [if_pos h3]
      refine (do_barrier _ x (fun w2 => Own w w2 B b c (bar st) ∧ Kp w1 w2 [b, c]) w1 h3 ((barrier_yes hob.dev).mono ?_)).mono ?_
      · rintro e w2 ⟨rfl, hd, hk⟩
        exact ⟨rfl, fin w2 _ hd hk⟩
      · rintro e w2 ⟨rfl, h1, h2⟩
        exact ⟨B, b, c, rfl, h1, h2⟩
    · rw [if_neg h3]
      by_cases h4 : x.what % 6 = 4
      · rw [if_pos h4]
        refine (do_crash _ x (fun w2 => Own w w2 B b c (crash st x.xs) ∧ Kp w1 w2 [b, c]) w1 h4 ((crash_yes hob.dev (hs.kept hbb).sl).mono ?_)).mono ?_
        · rintro e w2 ⟨rfl, hd, hk⟩
          exact ⟨rfl, fin w2 _ hd hk⟩
        · rintro e w2 ⟨rfl, h1, h2⟩
          exact ⟨B, b, c, rfl, h1, h2⟩
      · rw [if_neg h4]
        refine (do_copy (.pointer (some ⟨B, 0, none⟩)) x w1 (fun v w2 => ∃ B' b' c', v = .pointer (some ⟨B', 0, none⟩) ∧ Own w w2 B' b' c' st ∧ Kp w1 w2 [b, c]) (by omega) ((copy_yes hob.dev).mono ?_)).mono ?_
        · rintro e w2 ⟨B', b', c', rfl, hc⟩
          exact ⟨_, rfl, B', b', c', rfl, hob.copy hc, grow_kp hb (Kp.of_below hc.below _)⟩
        · rintro e w2 ⟨v, rfl, B', b', c', rfl, h1, h2⟩
          exact ⟨B', b', c', rfl, h1, h2⟩
theorem Is.nomap {w : World} {x : Nat} {t : TypeId} {cs : Array Value} {B b c : Nat} {st : List Cel} (h : Is w x t cs) (hd : Dv w B b c st) : x ≠ b ∧ x ≠ c := by
  obtain ⟨k, D, ⟨es, clock, hb, _⟩, _⟩ := hd.sure
  obtain ⟨k', D', ⟨es', clock', hb', _⟩, _⟩ := hd.wait
  unfold Is at h
  constructor
  · rintro rfl
    rw [hb] at h
    cases h
  · rintro rfl
    rw [hb'] at h
    cases h
/-- Between both: the one has done an act, the other has not. -/
structure Jm (W wr : World) (B b c Bd g : Nat) (L : List Sc) (x : Ac) : Prop where
  own : Own W wr B b c (stA' (cels L) x)
  dev : Rv wr Bd g L
  new : W.heap.size ≤ Bd ∧ W.heap.size ≤ g
theorem do_j {W w1 : World} {B b c Bd g : Nat} {L : List Sc} (h : Jy W w1 B b c Bd g L) (x : Ac) (hs : Sw w1 W.heap.size x.v x.xs) : Calls Try.prog 11 #[.pointer (some ⟨B, 0, none⟩), .agg x.cells] w1
    fun e w2 => ∃ B' b' c', e = .returned (.tuple #[.pointer (some ⟨B', 0, none⟩), .int .i64 (errA (cels L) x)]) ∧ Jm W w2 B' b' c' Bd g L x ∧ Below W.heap.size w1 w2 := by
  refine (do_kp h.own x hs).mono ?_
  rintro e w2 ⟨B', b', c', rfl, ho, hk⟩
  obtain ⟨cap, hi⟩ := h.dev.one
  obtain ⟨cur, hj, _⟩ := h.dev.row
  have n1 := hi.nomap h.own.dev
  have n2 := hj.nomap h.own.dev
  exact ⟨B', b', c', rfl, ⟨ho, h.dev.kept hk (by simp; omega) (by simp; omega), h.new⟩, hk.below h.own.below.size (fun y hy => by have := h.own.new; simp at hy; omega)⟩
theorem their_j {W w1 : World} {B b c Bd g : Nat} {L : List Sc} {x : Ac} (h : Jm W w1 B b c Bd g L x) (hs : Sw w1 W.heap.size x.v x.xs) : Calls Try.prog 12 #[.pointer (some ⟨Bd, 0, none⟩), .agg x.cells] w1
    fun e w2 => ∃ Bd' g' L', e = .returned (.tuple #[.pointer (some ⟨Bd', 0, none⟩), .int .i64 (errA (cels L) x)]) ∧ Jy W w2 B b c Bd' g' L' ∧ Below W.heap.size w1 w2 := by
  refine (their_any h.dev h.own.below.size h.new x hs).mono ?_
  rintro e w2 ⟨Bd', g', L', rfl, hc, hd, hn, hk⟩
  obtain ⟨cur, hj, _⟩ := h.dev.row
  have n1 := hj.nomap h.own.dev
  have n2 : B ≠ g := h.own.dev.one.ne hj (by decide)
  have hbw : Below W.heap.size w1 w2 := hk.below h.own.below.size (fun y hy => by have := h.new; simp at hy; omega)
  exact ⟨Bd', g', L', rfl, ⟨⟨by rw [hc]; exact h.own.dev.kept hk (by simp; omega) (by simp; omega) (by simp; omega), h.own.below.trans hbw, h.own.new⟩, hd, hn⟩, hbw⟩
/-- Where an act lies, in whatever world comes. -/
theorem acts_at {W : World} {A : Option Addr} {l : List Ac} (h : Acts W W.heap.size A l) {k : Nat} {x : Ac} (hx : l[k]? = some x) : ∃ ad, A = some ad ∧ ∀ w, Below W.heap.size W w → Sw w W.heap.size x.v x.xs ∧
    w.cell? (ad.add (k * 5)) = some (.int .u8 (x.what : Nat)) ∧ w.cell? ⟨(ad.add (k * 5)).block, (ad.add (k * 5)).off + 1, none⟩ = some (.int .i64 x.at') ∧
    w.cell? ⟨(ad.add (k * 5)).block, (ad.add (k * 5)).off + 2, none⟩ = some (.int .i64 x.ask) ∧ w.cell? ⟨(ad.add (k * 5)).block, (ad.add (k * 5)).off + 3, none⟩ = some (.string x.s) ∧ w.cell? ⟨(ad.add (k * 5)).block, (ad.add (k * 5)).off + 4, none⟩ = some x.v := by
  obtain ⟨_, ad, e, _⟩ := h k x hx
  refine ⟨ad, e, fun w hb => ?_⟩
  obtain ⟨h1, ad', e', _, c0, c1, c2, c3, c4⟩ := h.kept hb k x hx
  rw [e] at e'
  injection e' with e'
  subst e'
  exact ⟨h1, c0, c1, c2, c3, c4⟩
end Go.Proofs.Ytolbegjjakobeaa
