/- Both lines beside each other; reads, one, alike. Conditions: none. -/
import Derived.Test.YtkefopakfjdfkaaFsG
namespace Go.Proofs.Ytkefopakfjdfkaa
open Go.ChangeShapes Go.WideShapes Go.RowKit Go.Maps
set_option maxRecDepth 100000
/-- What a read says. -/
def rdS (st : List Cel) (i : Int) : ByteArray := if ck st.length i = 0 then bs (((st[i.toNat]?).map Cel.r).getD []) else ⟨#[]⟩
def rdE (st : List Cel) (i : Int) : Int := ck st.length i
theorem read_any {w : World} {B b c : Nat} {st : List Cel} (h : Dv w B b c st) (i : Int) : Calls Try.prog 23 #[.pointer (some ⟨B, 0, none⟩), .int .i64 i] w
    fun e w' => e = .returned (.tuple #[.string (rdS st i), .int .i64 (rdE st i)]) ∧ Below w.heap.size w w' := by
  unfold rdS rdE
  rcases ck_two st.length i with h2 | ⟨h0, j, rfl, hj⟩
  · rw [h2, if_neg (by decide)]
    exact below_eq (Q := fun e => e = .returned (.tuple #[.string ⟨#[]⟩, .int .i64 2])) (read_out h i h2)
  · have hx := List.getElem?_eq_getElem hj
    rw [h0, if_pos rfl, show (j : Int).toNat = j from rfl, hx]
    exact read_in h hx
theorem rread_any {w : World} {B g : Nat} {L : List Sc} (h : Rv w B g L) (i : Int) : Calls Try.prog 31 #[.pointer (some ⟨B, 0, none⟩), .int .i64 i] w
    fun e w' => e = .returned (.tuple #[.string (rdS (cels L) i), .int .i64 (rdE (cels L) i)]) ∧ Below w.heap.size w w' := by
  unfold rdS rdE
  rcases ck_two L.length i with h2 | ⟨h0, j, rfl, hj⟩
  · rw [cels_len, h2, if_neg (by decide)]
    exact below_eq (Q := fun e => e = .returned (.tuple #[.string ⟨#[]⟩, .int .i64 2])) (rread_bad i 2 (by decide) (by rw [← h2]; exact rhas_any h i))
  · have hx := List.getElem?_eq_getElem hj
    rw [cels_len, h0, if_pos rfl, show (j : Int).toNat = j from rfl, cels_get hx]
    exact rread_in h hx
/-- Both lines. -/
structure Jm (W w : World) (F B b c : Nat) (st : List Cel) (k : Nat) (cut : Bool) (G Bd g : Nat) (L : List Sc) (k2 : Nat) (cut2 : Bool) (z : Int) (u v : Value) (xs : List Int) : Prop where
  lo : Lo W w F B b c st z u xs k cut
  rl : Rl W w G Bd g L z v xs k2 cut2
  lt : F < G ∧ F < Bd ∧ F < g
section
variable {W w w' : World} {F B b c G Bd g : Nat} {st st' : List Cel} {L L' : List Sc} {z : Int} {u v : Value} {xs : List Int} {k k' k2 k2' : Nat} {cut cut' cut2 cut2' : Bool}
theorem Jm.later (h : Jm W w F B b c st k cut G Bd g L k2 cut2 z u v xs) (hb : Below w.heap.size w w') : Jm W w' F B b c st k cut G Bd g L k2 cut2 z u v xs := ⟨h.lo.later hb, h.rl.below hb, h.lt⟩
theorem Jm.stepA (h : Jm W w F B b c st k cut G Bd g L k2 cut2 z u v xs) (hl : Ln w' F B b c st' z u xs k' cut') (hk : Kp w w' [F, b, c]) : Jm W w' F B b c st' k' cut' G Bd g L k2 cut2 z u v xs := by
  have hm := h.rl.one.nomap h.lo.ln.dev
  obtain ⟨cap, hi⟩ := h.rl.dev.one
  obtain ⟨cur, hj, _⟩ := h.rl.dev.row
  have hm2 := hi.nomap h.lo.ln.dev
  have hm3 := hj.nomap h.lo.ln.dev
  have hlt := h.lt
  have hn := h.lo.new
  exact ⟨h.lo.step hl hk, h.rl.kept hk (by simp; omega) (by simp; omega) (by simp; omega) (by simp; omega), h.lt⟩
theorem Jm.stepB (h : Jm W w F B b c st k cut G Bd g L k2 cut2 z u v xs) (hl : Rl W w' G Bd g L' z v xs k2' cut2') (hk : Kp w w' [G, g]) : Jm W w' F B b c st k cut G Bd g L' k2' cut2' z u v xs := by
  have hm := h.rl.one.nomap h.lo.ln.dev
  obtain ⟨cur, hj, _⟩ := h.rl.dev.row
  have hm3 := hj.nomap h.lo.ln.dev
  have hB1 := h.rl.one.ne h.lo.ln.dev.one (by decide)
  have hB2 := hj.ne h.lo.ln.dev.one (by decide)
  have hlt := h.lt
  have hn := h.rl.new
  exact ⟨⟨h.lo.ln.kept hk (by simp; omega) (by simp; omega) (by simp; omega) (by simp; omega), h.lo.below.trans (hk.below h.lo.below.size (by simp; omega)), h.lo.new⟩, hl, h.lt⟩
abbrev boxed (w : World) (x : Ac) : World := w.alloc (.cells #[.int .u8 (x.what : Nat), .int .i64 x.at', .string x.s] 37)
/-- The act lies in a block of the call's own. -/
def Bc (w : World) (A : Nat) (x : Ac) : Prop := w.cell? ⟨A, 0, none⟩ = some (.int .u8 (x.what : Nat)) ∧ w.cell? ⟨A, 1, none⟩ = some (.int .i64 x.at') ∧ w.cell? ⟨A, 2, none⟩ = some (.string x.s)
theorem Bc.kp {X : List Nat} {A : Nat} {x : Ac} (hi : Is w A 37 #[.int .u8 (x.what : Nat), .int .i64 x.at', .string x.s]) (hk : Kp w w' X) (hX : A ∉ X) : Bc w' A x := by
  have h := hk.is hi hX
  refine ⟨?_, ?_, ?_⟩ <;> rw [h.cell] <;> rfl
variable (f r : Value) (x : Ac) (P Q : World → Prop)
theorem one_write (hm : x.what % 4 = 0) (er : Int) (H1 : Calls Try.prog 16 #[f, .int .i64 x.at', .string x.s] (boxed w x) fun e w2 => e = .returned (.int .i64 er) ∧ P w2 ∧ Bc w2 w.heap.size x)
    (H2 : ∀ w2, P w2 → Calls Try.prog 26 #[r, .int .i64 x.at', .string x.s] w2 fun e w3 => e = .returned (.int .i64 er) ∧ Q w3) :
    Calls Try.prog 11 #[f, r, .agg x.cells] w fun e w' => e = .returned (.bool true) ∧ Q w' := by
  unfold Ac.cells
  obtain ⟨m, at', s⟩ := x
  simp only [Bc] at H1 H2 hm ⊢
  have hmi : (m : Int).tmod 4 = 0 := by rw [Int.tmod_eq_emod_of_nonneg (by omega)]; omega
  have h2 := Lib.hid H2
  clear H2
  go_enter Try.func11, Try.ntmps11
  go_wp2_with (first
    | (go_at_call 16; refine H1.mono ?_; rintro e w2 ⟨rfl, hp, c0, c1, c2⟩)
    | (go_at_call 26; refine (h2.out _ hp).mono ?_; rintro e w3 ⟨rfl, hq⟩))
  go_ret
  exact ⟨rfl, hq⟩
theorem one_barrier (hm : x.what % 4 = 1) (er : Int) (H1 : Calls Try.prog 17 #[f] (boxed w x) fun e w2 => e = .returned (.int .i64 er) ∧ P w2)
    (H2 : ∀ w2, P w2 → Calls Try.prog 27 #[r] w2 fun e w3 => e = .returned (.int .i64 er) ∧ Q w3) :
    Calls Try.prog 11 #[f, r, .agg x.cells] w fun e w' => e = .returned (.bool true) ∧ Q w' := by
  unfold Ac.cells
  obtain ⟨m, at', s⟩ := x
  simp only at H1 H2 hm ⊢
  have hmi : (m : Int).tmod 4 = 1 := by rw [Int.tmod_eq_emod_of_nonneg (by omega)]; omega
  have h2 := Lib.hid H2
  clear H2
  go_enter Try.func11, Try.ntmps11
  go_wp2_with (first
    | (go_at_call 17; refine H1.mono ?_; rintro e w2 ⟨rfl, hp⟩)
    | (go_at_call 27; refine (h2.out _ hp).mono ?_; rintro e w3 ⟨rfl, hq⟩))
  go_ret
  exact ⟨rfl, hq⟩
theorem one_read (hm : x.what % 4 = 2) (S : ByteArray) (er : Int) (H1 : Calls Try.prog 21 #[f, .int .i64 x.at'] (boxed w x) fun e w2 => e = .returned (.tuple #[.string S, .int .i64 er]) ∧ P w2 ∧ Bc w2 w.heap.size x)
    (H2 : ∀ w2, P w2 → Calls Try.prog 28 #[r, .int .i64 x.at'] w2 fun e w3 => e = .returned (.tuple #[.string S, .int .i64 er]) ∧ Q w3) :
    Calls Try.prog 11 #[f, r, .agg x.cells] w fun e w' => e = .returned (.bool true) ∧ Q w' := by
  unfold Ac.cells
  obtain ⟨m, at', s⟩ := x
  simp only [Bc] at H1 H2 hm ⊢
  have hmi : (m : Int).tmod 4 = 2 := by rw [Int.tmod_eq_emod_of_nonneg (by omega)]; omega
  have h2 := Lib.hid H2
  clear H2
  go_enter Try.func11, Try.ntmps11
  go_wp2_with (first
    | (go_at_call 21; refine H1.mono ?_; rintro e w2 ⟨rfl, hp, c0, c1, c2⟩)
    | (go_at_call 28; refine (h2.out _ hp).mono ?_; rintro e w3 ⟨rfl, hq⟩))
  go_ret
  exact ⟨rfl, hq⟩
theorem one_blow (hm : x.what % 4 = 3) (H1 : Calls Try.prog 18 #[f] (boxed w x) fun e w2 => e = .returned (.tuple #[]) ∧ P w2)
    (H2 : ∀ w2, P w2 → Calls Try.prog 29 #[r] w2 fun e w3 => e = .returned (.tuple #[]) ∧ Q w3) :
    Calls Try.prog 11 #[f, r, .agg x.cells] w fun e w' => e = .returned (.bool true) ∧ Q w' := by
  unfold Ac.cells
  obtain ⟨m, at', s⟩ := x
  simp only at H1 H2 hm ⊢
  have hmi : (m : Int).tmod 4 = 3 := by rw [Int.tmod_eq_emod_of_nonneg (by omega)]; omega
  have h2 := Lib.hid H2
  clear H2
  go_enter Try.func11, Try.ntmps11
  go_wp2_with (first
    | (go_at_call 18; refine H1.mono ?_; rintro e w2 ⟨rfl, hp⟩)
    | (go_at_call 29; refine (h2.out _ hp).mono ?_; rintro e w3 ⟨rfl, hq⟩))
  go_ret
  exact ⟨rfl, hq⟩
end
end Go.Proofs.Ytkefopakfjdfkaa
