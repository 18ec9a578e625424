/- What acts do to both devices; alike. Conditions: none. -/
import Derived.Test.YtolbegjjakobeaaDvV
import Derived.Test.YtolbegjjakobeaaDvW
namespace Go.Proofs.Ytolbegjjakobeaa
open Go.ChangeShapes Go.WideShapes Go.RowKit Go.Maps
set_option maxRecDepth 100000
theorem cels_set (L : List Sc) (i : Nat) (y : Sc) : cels (L.set i y) = (cels L).set i y.cel := by unfold cels; rw [List.map_set]
theorem rwrite_any {w : World} {B g : Nat} {L : List Sc} (h : Rv w B g L) (at' : Int) (s : ByteArray) : Calls Try.prog 26 #[.pointer (some ⟨B, 0, none⟩), .int .i64 at', .string s] w
    fun e w' => e = .returned (.int .i64 (errW (cels L) at' s)) ∧ ∃ L', cels L' = stW (cels L) at' s ∧ Rv w' B g L' ∧ Kp w w' [g] := by
  unfold stW
  rcases ck_two L.length at' with h2 | ⟨h0, i, rfl, hi⟩
  · have e1 : errW (cels L) at' s = 2 := by unfold errW; rw [cels_len, if_pos h2]
    rw [e1, if_neg (by decide)]
    refine (rwrite_bad at' 2 s (by decide) (by rw [← h2]; exact rhas_any h at')).mono ?_
    rintro e w' ⟨rfl, rfl⟩
    exact ⟨rfl, L, rfl, h, Kp.refl _ _⟩
  · by_cases hs : 128 < s.size
    · have e1 : errW (cels L) (i : Int) s = 3 := by unfold errW; rw [cels_len, if_neg (by rw [h0]; decide), if_pos hs]
      rw [e1, if_neg (by decide)]
      refine (rwrite_long h _ s h0 hs).mono ?_
      rintro e w' ⟨rfl, rfl⟩
      exact ⟨rfl, L, rfl, h, Kp.refl _ _⟩
    · have e1 : errW (cels L) (i : Int) s = 0 := by unfold errW; rw [cels_len, if_neg (by rw [h0]; decide), if_neg hs]
      have hx := List.getElem?_eq_getElem hi
      rw [e1, if_pos rfl]
      refine (rwrite_in h hx s (by omega)).mono ?_
      rintro e w' ⟨rfl, hd, hk⟩
      refine ⟨rfl, _, ?_, hd, hk⟩
      rw [cels_set, show (i : Int).toNat = i from rfl]
      unfold wrS
      rw [cels_get hx]
      rfl
theorem grow_kp {w1 w2 w3 : World} {X : List Nat} (hb : Below w1.heap.size w1 w2) (hk : Kp w2 w3 X) : Kp w1 w3 X := (Kp.of_below hb X).trans hk (fun _ hy => .inl hy)
/-- What an act does to the document's device. -/
theorem their_any {W w1 : World} {B g : Nat} {L : List Sc} (h : Rv w1 B g L) (hW : W.heap.size ≤ w1.heap.size) (hn : W.heap.size ≤ B ∧ W.heap.size ≤ g) (x : Ac) (hs : Sw w1 W.heap.size x.v x.xs) : Calls Try.prog 12 #[.pointer (some ⟨B, 0, none⟩), .agg x.cells] w1
    fun e w2 => ∃ B' g' L', e = .returned (.tuple #[.pointer (some ⟨B', 0, none⟩), .int .i64 (errA (cels L) x)]) ∧ cels L' = stA' (cels L) x ∧ Rv w2 B' g' L' ∧ (W.heap.size ≤ B' ∧ W.heap.size ≤ g') ∧ Kp w1 w2 [g] := by
  have hb := below_alloc (Below.refl w1.heap.size w1) (.cells #[.int .u8 (x.what : Nat), .int .i64 x.at', .int .i64 x.ask, .string x.s, x.v] 33)
  have hob := h.below hb
  unfold errA stA'
  by_cases h2 : x.what % 6 ≤ 2
  · rw [if_pos h2, if_pos h2]
    refine (rdo_write _ x (fun w2 => ∃ L', cels L' = stW (cels L) x.at' x.s ∧ Rv w2 B g L' ∧ Kp w1 w2 [g]) w1 _ rfl h2 (errW (cels L) x.at' x.s) ((rwrite_any hob x.at' x.s).mono ?_)).mono ?_
    · rintro e w2 ⟨rfl, L', h1, h2, h3⟩
      exact ⟨rfl, L', h1, h2, grow_kp hb h3⟩
    · rintro e w2 ⟨rfl, L', h1, h2, h3⟩
      exact ⟨B, g, L', rfl, h1, h2, hn, h3⟩
  · rw [if_neg h2, if_neg h2]
    by_cases h3 : x.what % 6 = 3
    · rw [if_pos h3]
      refine (rdo_barrier _ x (fun w2 => ∃ L', cels L' = bar (cels L) ∧ Rv w2 B g L' ∧ Kp w1 w2 [g]) w1 h3 ((rbarrier_any hob).mono ?_)).mono ?_
      · rintro e w2 ⟨rfl, L', h1, h2, h3⟩
        exact ⟨rfl, L', h1, h2, grow_kp hb h3⟩
      · rintro e w2 ⟨rfl, L', h1, h2, h3⟩
        exact ⟨B, g, L', rfl, h1, h2, hn, h3⟩
    · rw [if_neg h3]
      by_cases h4 : x.what % 6 = 4
      · rw [if_pos h4]
        refine (rdo_crash _ x (fun w2 => ∃ L', cels L' = crash (cels L) x.xs ∧ Rv w2 B g L' ∧ Kp w1 w2 [g]) w1 h4 ((rcrash_any hob (hs.kept (hb.mono hW)) (Nat.le_trans hW hb.size) hn.2).mono ?_)).mono ?_
        · rintro e w2 ⟨rfl, L', h1, h2, h3⟩
          exact ⟨rfl, L', h1, h2, grow_kp hb h3⟩
        · rintro e w2 ⟨rfl, L', h1, h2, h3⟩
          exact ⟨B, g, L', rfl, h1, h2, hn, h3⟩
      · rw [if_neg h4]
        refine (rdo_copy (.pointer (some ⟨B, 0, none⟩)) x w1 (fun v w2 => ∃ B' g', v = .pointer (some ⟨B', 0, none⟩) ∧ Rv w2 B' g' L ∧ (W.heap.size ≤ B' ∧ W.heap.size ≤ g') ∧ Kp w1 w2 [g]) (by omega) ((rcopy_any hob).mono ?_)).mono ?_
        · rintro e w2 ⟨B', g', rfl, hc⟩
          have h5 := hb.size
          have h6 := hc.new
          exact ⟨_, rfl, B', g', rfl, hc.dev, ⟨by omega, by omega⟩, grow_kp hb (Kp.of_below hc.below _)⟩
        · rintro e w2 ⟨v, rfl, B', g', rfl, h5, h6, h7⟩
          exact ⟨B', g', L, rfl, rfl, h5, h6, h7⟩
/-- The error of an act on a device that is none. -/
def errN (x : Ac) : Int := if x.what % 6 ≤ 2 then 1 else 0
theorem do_nil (x : Ac) (w : World) : Calls Try.prog 11 #[.pointer none, .agg x.cells] w fun e w' => e = .returned (.tuple #[.pointer none, .int .i64 (errN x)]) ∧ Below w.heap.size w w' := by
  have hb := below_alloc (Below.refl w.heap.size w) (.cells #[.int .u8 (x.what : Nat), .int .i64 x.at', .int .i64 x.ask, .string x.s, x.v] 33)
  have hP : ∀ w', boxed w x = w' → Below w.heap.size w w' := fun w' e => by rw [← e]; exact hb
  unfold errN
  by_cases h2 : x.what % 6 ≤ 2
  · rw [if_pos h2]
    exact do_write _ x (fun w' => Below w.heap.size w w') w _ rfl h2 1 ((write_no .nil x.at' x.s).mono fun _ w' ⟨h1, h2⟩ => ⟨h1, hP w' h2⟩)
  · rw [if_neg h2]
    by_cases h3 : x.what % 6 = 3
    · exact do_barrier _ x (fun w' => Below w.heap.size w w') w h3 ((barrier_no .nil).mono fun _ w' ⟨h1, h2⟩ => ⟨h1, hP w' h2⟩)
    · by_cases h4 : x.what % 6 = 4
      · exact do_crash _ x (fun w' => Below w.heap.size w w') w h4 ((crash_no .nil).mono fun _ w' ⟨h1, h2⟩ => ⟨h1, hP w' h2⟩)
      · refine (do_copy _ x w (fun v w' => v = .pointer none ∧ Below w.heap.size w w') (by omega) ((copy_no .nil).mono fun _ w' ⟨h1, h2⟩ => ⟨_, h1, rfl, hP w' h2⟩)).mono ?_
        rintro e w' ⟨v, rfl, rfl, h⟩
        exact ⟨rfl, h⟩
theorem rwrite_nil (i : Int) (s : ByteArray) (w : World) : Calls Try.prog 26 #[.pointer none, .int .i64 i, .string s] w fun e w' => e = .returned (.int .i64 1) ∧ w = w' := rwrite_bad i 1 s (by decide) (rhas_nil i w)
theorem their_nil (x : Ac) (w : World) : Calls Try.prog 12 #[.pointer none, .agg x.cells] w fun e w' => e = .returned (.tuple #[.pointer none, .int .i64 (errN x)]) ∧ Below w.heap.size w w' := by
  have hb := below_alloc (Below.refl w.heap.size w) (.cells #[.int .u8 (x.what : Nat), .int .i64 x.at', .int .i64 x.ask, .string x.s, x.v] 33)
  have hP : ∀ w', boxed w x = w' → Below w.heap.size w w' := fun w' e => by rw [← e]; exact hb
  unfold errN
  by_cases h2 : x.what % 6 ≤ 2
  · rw [if_pos h2]
    exact rdo_write _ x (fun w' => Below w.heap.size w w') w _ rfl h2 1 ((rwrite_nil x.at' x.s _).mono fun _ w' ⟨h1, h2⟩ => ⟨h1, hP w' h2⟩)
  · rw [if_neg h2]
    by_cases h3 : x.what % 6 = 3
    · exact rdo_barrier _ x (fun w' => Below w.heap.size w w') w h3 ((rbarrier_nil _).mono fun _ w' ⟨h1, h2⟩ => ⟨h1, hP w' h2⟩)
    · by_cases h4 : x.what % 6 = 4
      · exact rdo_crash _ x (fun w' => Below w.heap.size w w') w h4 ((rcrash_nil _ _).mono fun _ w' ⟨h1, h2⟩ => ⟨h1, hP w' h2⟩)
      · refine (rdo_copy _ x w (fun v w' => v = .pointer none ∧ Below w.heap.size w w') (by omega) ((rcopy_nil _).mono fun _ w' ⟨h1, h2⟩ => ⟨_, h1, rfl, hP w' h2⟩)).mono ?_
        rintro e w' ⟨v, rfl, rfl, h⟩
        exact ⟨rfl, h⟩
theorem alike_core (v u : Value) (at' : Int) (S O : ByteArray) (E N : Int) (P : World → Prop) (hP : ∀ w w', P w → Below w.heap.size w w' → P w')
    (r1 : ∀ w, P w → Calls Try.prog 17 #[v, .int .i64 at'] w fun e w' => e = .returned (.tuple #[.string S, .int .i64 E]) ∧ Below w.heap.size w w')
    (r2 : ∀ w, P w → Calls Try.prog 30 #[u, .int .i64 at'] w fun e w' => e = .returned (.tuple #[.string S, .int .i64 E]) ∧ Below w.heap.size w w')
    (r3 : ∀ w, P w → Calls Try.prog 18 #[v, .int .i64 at'] w fun e w' => e = .returned (.string O) ∧ Below w.heap.size w w')
    (r4 : ∀ w, P w → Calls Try.prog 31 #[u, .int .i64 at'] w fun e w' => e = .returned (.string O) ∧ Below w.heap.size w w')
    (r5 : ∀ w, P w → Calls Try.prog 19 #[v] w fun e w' => e = .returned (.int .i64 N) ∧ w = w')
    (r6 : ∀ w, P w → Calls Try.prog 32 #[u] w fun e w' => e = .returned (.int .i64 N) ∧ w = w') (w : World) (hw : P w) :
    Calls Try.prog 13 #[v, u, .int .i64 at'] w fun e w' => e = .returned (.bool true) ∧ Below w.heap.size w w' := by
  have R1 := Lib.hid r1; have R2 := Lib.hid r2; have R3 := Lib.hid r3; have R4 := Lib.hid r4; have R5 := Lib.hid r5; have R6 := Lib.hid r6
  have HP := Lib.hid hP
  have H0 := Lib.hid hw
  clear r1 r2 r3 r4 r5 r6 hP hw
  go_enter Try.func13, Try.ntmps13
  go_wp2_with (first
    | (go_at_call 17; refine (R1.out _ H0.out).mono ?_; rintro e w1 ⟨rfl, hb1⟩; have H1 := Lib.hid (HP.out _ _ H0.out hb1))
    | (go_at_call 30; refine (R2.out _ H1.out).mono ?_; rintro e w2 ⟨rfl, hb2⟩; have H2 := Lib.hid (HP.out _ _ H1.out hb2))
    | (go_at_call 18; refine (R3.out _ H2.out).mono ?_; rintro e w3 ⟨rfl, hb3⟩; have H3 := Lib.hid (HP.out _ _ H2.out hb3))
    | (go_at_call 31; refine (R4.out _ H3.out).mono ?_; rintro e w4 ⟨rfl, hb4⟩; have H4 := Lib.hid (HP.out _ _ H3.out hb4))
    | (go_at_call 19; refine (R5.out _ H4.out).mono ?_; rintro e w5 ⟨rfl, rfl⟩)
    | (go_at_call 32; refine (R6.out _ H4.out).mono ?_; rintro e w6 ⟨rfl, rfl⟩))
  go_ret
  have s1 := hb1.size
  have s2 := hb2.size
  have s3 := hb3.size
  exact ⟨rfl, hb1.trans ((hb2.mono (by omega)).trans ((hb3.mono (by omega)).trans (hb4.mono (by omega))))⟩
theorem below_eq {Q : Ending → Prop} {f : FuncId} {a : Array Value} {w : World} (h : Calls Try.prog f a w fun e w' => Q e ∧ w = w') : Calls Try.prog f a w fun e w' => Q e ∧ Below w.heap.size w w' :=
  h.mono fun _ _ ⟨h1, h2⟩ => ⟨h1, h2 ▸ Below.refl _ _⟩
theorem alike_nil (at' : Int) (w : World) : Calls Try.prog 13 #[.pointer none, .pointer none, .int .i64 at'] w fun e w' => e = .returned (.bool true) ∧ Below w.heap.size w w' :=
  alike_core _ _ at' ⟨#[]⟩ ⟨#[]⟩ 1 0 (fun _ => True) (fun _ _ _ _ => trivial) (fun _ _ => below_eq (read_no .nil at')) (fun _ _ => below_eq (rread_bad at' 1 (by decide) (rhas_nil at' _))) (fun _ _ => below_eq (sure_no .nil at'))
    (fun _ _ => below_eq (rsure_bad at' 1 (by decide) (rhas_nil at' _))) (fun _ _ => waiting_no .nil) (fun _ _ => rwaiting_nil _) w trivial
/-- Both devices, alike. -/
structure Jy (W wr : World) (B b c Bd g : Nat) (L : List Sc) : Prop where
  own : Own W wr B b c (cels L)
  dev : Rv wr Bd g L
  new : W.heap.size ≤ Bd ∧ W.heap.size ≤ g
theorem Jy.later {W w1 w2 : World} {B b c Bd g : Nat} {L : List Sc} (h : Jy W w1 B b c Bd g L) (hb : Below w1.heap.size w1 w2) : Jy W w2 B b c Bd g L := ⟨h.own.later hb, h.dev.below hb, h.new⟩
theorem alike_any {W w : World} {B b c Bd g : Nat} {L : List Sc} (h : Jy W w B b c Bd g L) (at' : Int) : Calls Try.prog 13 #[.pointer (some ⟨B, 0, none⟩), .pointer (some ⟨Bd, 0, none⟩), .int .i64 at'] w fun e w' => e = .returned (.bool true) ∧ Below w.heap.size w w' := by
  rcases ck_two L.length at' with h2 | ⟨h0, i, rfl, hi⟩
  · have h2' : ck (cels L).length at' = 2 := by rw [cels_len]; exact h2
    exact alike_core _ _ at' ⟨#[]⟩ ⟨#[]⟩ 2 (waitsN (cels L) : Nat) (fun w => Jy W w B b c Bd g L) (fun _ _ h hb => h.later hb) (fun _ h => below_eq (read_out h.own.dev at' h2'))
      (fun _ h => below_eq (rread_bad at' 2 (by decide) (by rw [← h2]; exact rhas_any h.dev at'))) (fun _ h => below_eq (sure_out h.own.dev at' h2'))
      (fun _ h => below_eq (rsure_bad at' 2 (by decide) (by rw [← h2]; exact rhas_any h.dev at'))) (fun _ h => waiting_yes h.own.dev) (fun _ h => rwaiting_any h.dev) w h
  · have hx := List.getElem?_eq_getElem hi
    exact alike_core _ _ (i : Int) _ _ 0 (waitsN (cels L) : Nat) (fun w => Jy W w B b c Bd g L) (fun _ _ h hb => h.later hb) (fun _ h => read_in h.own.dev (cels_get hx)) (fun _ h => rread_in h.dev hx) (fun _ h => sure_in h.own.dev (cels_get hx))
      (fun _ h => rsure_in h.dev hx) (fun _ h => waiting_yes h.own.dev) (fun _ h => rwaiting_any h.dev) w h
end Go.Proofs.Ytolbegjjakobeaa
