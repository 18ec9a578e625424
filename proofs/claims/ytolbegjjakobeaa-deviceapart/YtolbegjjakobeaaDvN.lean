/- What acts do to a device. Conditions: none. -/
import Derived.Test.YtolbegjjakobeaaDvM
namespace Go.Proofs.Ytolbegjjakobeaa
open Go.ChangeShapes Go.WideShapes Go.RowKit Go.Maps
set_option maxRecDepth 100000
/-- A sector is written. -/
def wrS (st : List Cel) (i : Nat) (l : List UInt8) : List Cel := match st[i]? with
  | some c => st.set i ⟨c.s, some (full l)⟩
  | none => st
theorem wrS_len (st : List Cel) (i : Nat) (l : List UInt8) : (wrS st i l).length = st.length := by
  unfold wrS
  split
  · rw [List.length_set]
  · rfl
/-- What a write answers, and what stands there then. -/
def errW (st : List Cel) (at' : Int) (s : ByteArray) : Int := if ck st.length at' = 2 then 2 else if 128 < s.size then 3 else 0
def stW (st : List Cel) (at' : Int) (s : ByteArray) : List Cel := if errW st at' s = 0 then wrS st at'.toNat s.data.toList else st
theorem stW_len (st : List Cel) (at' : Int) (s : ByteArray) : (stW st at' s).length = st.length := by
  unfold stW
  split
  · exact wrS_len _ _ _
  · rfl
theorem ck_two (n : Nat) (z : Int) : ck n z = 2 ∨ (ck n z = 0 ∧ ∃ i : Nat, z = i ∧ i < n) := by
  unfold ck
  split
  · exact .inl rfl
  · exact .inr ⟨rfl, z.toNat, by omega, by omega⟩
theorem ck_in {n i : Nat} (h : i < n) : ck n (i : Int) = 0 := if_neg (by omega)
theorem write_any {w : World} {B bs' bw : Nat} {st : List Cel} (h : Dv w B bs' bw st) (at' : Int) (s : ByteArray) : Calls Try.prog 20 #[.pointer (some ⟨B, 0, none⟩), .int .i64 at', .string s] w
    fun e w' => e = .returned (.int .i64 (errW st at' s)) ∧ Dv w' B bs' bw (stW st at' s) ∧ Kp w w' [bs', bw] := by
  unfold stW
  rcases ck_two st.length at' with h2 | ⟨h0, i, rfl, hi⟩
  · have e1 : errW st at' s = 2 := if_pos h2
    rw [e1, if_neg (by decide)]
    refine (write_out h at' s h2).mono ?_
    rintro e w' ⟨rfl, rfl⟩
    exact ⟨rfl, h, Kp.refl _ _⟩
  · by_cases hs : 128 < s.size
    · have e1 : errW st (i : Int) s = 3 := by unfold errW; rw [if_neg (by rw [h0]; decide), if_pos hs]
      rw [e1, if_neg (by decide)]
      refine (write_long h _ s h0 hs).mono ?_
      rintro e w' ⟨rfl, rfl⟩
      exact ⟨rfl, h, Kp.refl _ _⟩
    · have e1 : errW st (i : Int) s = 0 := by unfold errW; rw [if_neg (by rw [h0]; decide), if_neg hs]
      have hc := List.getElem?_eq_getElem hi
      rw [e1, if_pos rfl]
      refine (write_in h hc s (by omega)).mono ?_
      rintro e w' ⟨rfl, hd, hk⟩
      refine ⟨rfl, ?_, hk.more (by simp)⟩
      unfold wrS
      rw [show (i : Int).toNat = i from rfl, hc]
      exact hd
/-- An act's error, and what stands there then. -/
def errA (st : List Cel) (x : Ac) : Int := if x.what % 6 ≤ 2 then errW st x.at' x.s else 0
def stA' (st : List Cel) (x : Ac) : List Cel :=
  if x.what % 6 ≤ 2 then stW st x.at' x.s else if x.what % 6 = 3 then bar st else if x.what % 6 = 4 then crash st x.xs else st
theorem stA'_len (st : List Cel) (x : Ac) : (stA' st x).length = st.length := by
  unfold stA'
  split
  · exact stW_len _ _ _
  · split
    · simp [bar]
    · split
      · exact crash_len _ _
      · rfl
theorem Own.copy {w w1 w2 : World} {B b c B' b' c' : Nat} {st : List Cel} (h : Own w w1 B b c st) (hc : Cp w1 w2 B' b' c' st) : Own w w2 B' b' c' st := by
  have := h.below.size
  exact ⟨hc.dev, h.below.trans (hc.below.mono h.below.size), by have := hc.new; omega⟩
theorem do_any {w w1 : World} {B b c : Nat} {st : List Cel} (ho : Own w w1 B b c st) (x : Ac) (hs : Sw w1 w.heap.size x.v x.xs) : Calls Try.prog 11 #[.pointer (some ⟨B, 0, none⟩), .agg x.cells] w1
    fun e w2 => ∃ B' b' c', e = .returned (.tuple #[.pointer (some ⟨B', 0, none⟩), .int .i64 (errA st x)]) ∧ Own w w2 B' b' c' (stA' st x) ∧ Below w.heap.size w1 w2 := by
  have hb := below_alloc (Below.refl w1.heap.size w1) (.cells #[.int .u8 (x.what : Nat), .int .i64 x.at', .int .i64 x.ask, .string x.s, x.v] 33)
  have hob := ho.later hb
  have hbb : Below w.heap.size w1 (boxed w1 x) := hb.mono ho.below.size
  have fin : ∀ (w2 : World) (st' : List Cel), Dv w2 B b c st' → Kp (boxed w1 x) w2 [b, c] → Own w w2 B b c st' ∧ Below w.heap.size w1 w2 := fun w2 st' hd hk =>
    ⟨hob.step hd hk (fun y hy => by simpa using hy), hbb.trans (hk.below hob.below.size (fun y hy => by simp at hy; rcases hy with rfl | rfl; exact hob.new.2.1; exact hob.new.2.2))⟩
  unfold errA stA'
  by_cases h2 : x.what % 6 ≤ 2
  · rw [if_pos h2, if_pos h2]
    refine (do_write _ x (fun w2 => Own w w2 B b c (stW st x.at' x.s) ∧ Below w.heap.size w1 w2) w1 _ rfl h2 (errW st x.at' x.s) ((write_any hob.dev x.at' x.s).mono ?_)).mono ?_
    · rintro e w2 ⟨rfl, hd, hk⟩
      exact ⟨rfl, fin w2 _ hd hk⟩
    · rintro e w2 ⟨rfl, h1, h2⟩
      exact ⟨B, b, c, rfl, h1, h2⟩
  · rw [if_neg h2, if_neg h2]
    by_cases h3 : x.what % 6 = 3
    · rw [if_pos h3]
      refine (do_barrier _ x (fun w2 => Own w w2 B b c (bar st) ∧ Below w.heap.size w1 w2) w1 h3 ((barrier_yes hob.dev).mono ?_)).mono ?_
      · rintro e w2 ⟨rfl, hd, hk⟩
        exact ⟨rfl, fin w2 _ hd hk⟩
      · rintro e w2 ⟨rfl, h1, h2⟩
        exact ⟨B, b, c, rfl, h1, h2⟩
    · rw [if_neg h3]
      by_cases h4 : x.what % 6 = 4
      · rw [if_pos h4]
        refine (do_crash _ x (fun w2 => Own w w2 B b c (crash st x.xs) ∧ Below w.heap.size w1 w2) w1 h4 ((crash_yes hob.dev (hs.kept hbb).sl).mono ?_)).mono ?_
        · rintro e w2 ⟨rfl, hd, hk⟩
          exact ⟨rfl, fin w2 _ hd hk⟩
        · rintro e w2 ⟨rfl, h1, h2⟩
          exact ⟨B, b, c, rfl, h1, h2⟩
      · rw [if_neg h4]
        refine (do_copy (.pointer (some ⟨B, 0, none⟩)) x w1 (fun v w2 => ∃ B' b' c', v = .pointer (some ⟨B', 0, none⟩) ∧ Own w w2 B' b' c' st ∧ Below w.heap.size w1 w2) (by omega) ((copy_yes hob.dev).mono ?_)).mono ?_
        · rintro e w2 ⟨B', b', c', rfl, hc⟩
          exact ⟨_, rfl, B', b', c', rfl, hob.copy hc, hbb.trans (hc.below.mono hob.below.size)⟩
        · rintro e w2 ⟨v, rfl, B', b', c', rfl, h1, h2⟩
          exact ⟨B', b', c', rfl, h1, h2⟩
/-- A device of 512 sectors of the call's own. -/
def Dd (w wr : World) (v : Value) : Prop := ∃ B b c st, v = .pointer (some ⟨B, 0, none⟩) ∧ Own w wr B b c st ∧ st.length = 512
theorem do_dd {w w1 : World} {v : Value} (h : Dd w w1 v) (x : Ac) (hs : Sw w1 w.heap.size x.v x.xs) : Calls Try.prog 11 #[v, .agg x.cells] w1
    fun e w2 => ∃ v' er, e = .returned (.tuple #[v', .int .i64 er]) ∧ Dd w w2 v' ∧ Below w.heap.size w1 w2 := by
  obtain ⟨B, b, c, st, rfl, ho, hl⟩ := h
  refine (do_any ho x hs).mono ?_
  rintro e w2 ⟨B', b', c', rfl, ho', hb⟩
  exact ⟨_, _, rfl, ⟨B', b', c', _, rfl, ho', by rw [stA'_len]; exact hl⟩, hb⟩
end Go.Proofs.Ytolbegjjakobeaa
