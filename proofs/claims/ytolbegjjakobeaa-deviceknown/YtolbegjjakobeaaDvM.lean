/- Acts that come in; few, do, their. Conditions: none. -/
import Derived.Test.YtolbegjjakobeaaDvK
namespace Go.Proofs.Ytolbegjjakobeaa
open Go.ChangeShapes Go.WideShapes Go.RowKit Go.Maps
set_option maxRecDepth 100000
/-- A slice of numbers that lies below block B. -/
def Sw (w : World) (B : Nat) (v : Value) (xs : List Int) : Prop :=
  ∃ a c, v = .slice a xs.length c ∧ ∀ j x, xs[j]? = some x → ∃ ad, a = some ad ∧ (ad.add j).block < B ∧ w.cell? (ad.add j) = some (.int .i64 x)
theorem Sw.sl {w : World} {B : Nat} {v : Value} {xs : List Int} (h : Sw w B v xs) : Sl w v xs := by
  obtain ⟨a, c, e, hx⟩ := h
  refine ⟨a, c, e, fun j x hj => ?_⟩
  obtain ⟨ad, e, _, hc⟩ := hx j x hj
  exact ⟨ad, e, hc⟩
theorem Sw.kept {w w' : World} {B : Nat} {v : Value} {xs : List Int} (h : Sw w B v xs) (hb : Below B w w') : Sw w' B v xs := by
  obtain ⟨a, c, e, hx⟩ := h
  refine ⟨a, c, e, fun j x hj => ?_⟩
  obtain ⟨ad, e, hB, hc⟩ := hx j x hj
  exact ⟨ad, e, hB, (hb.cell (p := ad.add j) hB).trans hc⟩
structure Ac where
  what : Nat
  at' : Int
  ask : Int
  s : ByteArray
  v : Value
  xs : List Int
def Ac.cells (x : Ac) : Array Value := #[.int .u8 (x.what : Nat), .int .i64 x.at', .int .i64 x.ask, .string x.s, x.v]
/-- The acts lie from A on, below block B. -/
def Acts (w : World) (B : Nat) (A : Option Addr) (l : List Ac) : Prop := ∀ i x, l[i]? = some x → Sw w B x.v x.xs ∧
  ∃ ad, A = some ad ∧ (ad.add (i * 5)).block < B ∧ w.cell? (ad.add (i * 5)) = some (.int .u8 (x.what : Nat)) ∧ w.cell? ⟨(ad.add (i * 5)).block, (ad.add (i * 5)).off + 1, none⟩ = some (.int .i64 x.at') ∧
    w.cell? ⟨(ad.add (i * 5)).block, (ad.add (i * 5)).off + 2, none⟩ = some (.int .i64 x.ask) ∧ w.cell? ⟨(ad.add (i * 5)).block, (ad.add (i * 5)).off + 3, none⟩ = some (.string x.s) ∧ w.cell? ⟨(ad.add (i * 5)).block, (ad.add (i * 5)).off + 4, none⟩ = some x.v
theorem Acts.kept {w w' : World} {B : Nat} {A : Option Addr} {l : List Ac} (h : Acts w B A l) (hb : Below B w w') : Acts w' B A l := by
  intro i x hx
  obtain ⟨h1, ad, e, hB, c0, c1, c2, c3, c4⟩ := h i x hx
  exact ⟨h1.kept hb, ad, e, hB, (hb.cell (p := ad.add (i * 5)) hB).trans c0, (hb.cell (p := ⟨(ad.add (i * 5)).block, (ad.add (i * 5)).off + 1, none⟩) hB).trans c1, (hb.cell (p := ⟨(ad.add (i * 5)).block, (ad.add (i * 5)).off + 2, none⟩) hB).trans c2, (hb.cell (p := ⟨(ad.add (i * 5)).block, (ad.add (i * 5)).off + 3, none⟩) hB).trans c3, (hb.cell (p := ⟨(ad.add (i * 5)).block, (ad.add (i * 5)).off + 4, none⟩) hB).trans c4⟩
def Few (l : List Ac) : Prop := l.length ≤ 60
def FewPost (l : List Ac) (w : World) (e : Ending) (w' : World) : Prop := ∃ b : Bool, e = .returned (.bool b) ∧ w = w' ∧ (b = true → Few l)
set_option maxHeartbeats 1000000 in
theorem few_any (A : Option Addr) (l : List Ac) (cap : Nat) (hl : l.length ≤ maxLen) (w : World) (B : Nat) (h : Acts w B A l) : Calls Try.prog 9 #[.slice A l.length cap] w (FewPost l w) := by
  unfold maxLen at hl
  have HI := Lib.hid h; clear h
  obtain ⟨n, hn⟩ : ∃ n, n = l.length := ⟨_, rfl⟩
  rw [← hn] at hl
  rw [← hn]
  have HN := Lib.hid hn; clear hn
  go_enter Try.func9, Try.ntmps9
  go_wp2
  go_loop [3] (fun i => ∃ k : Nat, k ≤ n ∧ k ≤ 70 ∧ i = .int .i64 k) (fun i => 71 - (RowKit.intOf i).toNat)
  case atStart => exact ⟨0, by omega, by omega, rfl⟩
  case round =>
    obtain ⟨k, hk, hk7, rfl⟩ := hrel
    by_cases hlt : k < n ∧ k < 70
    · obtain ⟨hkn, hk70⟩ := hlt
      obtain ⟨x, hx⟩ : ∃ x, l[k]? = some x := ⟨_, List.getElem?_eq_getElem (by rw [← HN.out]; exact hkn)⟩
      obtain ⟨-, ad, rfl, hB, c0, c1, c2, c3, c4⟩ := HI.out k x hx
      have HX := Lib.hid hx; clear hx
      go_wp2
      all_goals first
        | (go_ret; exact ⟨false, rfl, rfl, fun h => by cases h⟩)
        | exact ⟨⟨k + 1, by omega, by omega, by go_num⟩, by simp [RowKit.intOf]; omega⟩
    · have hfin : ∀ b : Bool, b = decide ((n : Int) ≤ 60) → b = true → Few l := by
        intro b hb hbt
        rw [hb, decide_eq_true_eq] at hbt
        have hn := HN.out
        unfold Few
        omega
      have HFin := Lib.hid hfin; clear hfin
      by_cases hkn : k < n
      all_goals
        go_wp2
        go_ret
        exact ⟨_, rfl, rfl, HFin.out _ rfl⟩
abbrev boxed (w : World) (x : Ac) : World := w.alloc (.cells #[.int .u8 (x.what : Nat), .int .i64 x.at', .int .i64 x.ask, .string x.s, x.v] 33)
section
variable (v : Value) (x : Ac) (P : World → Prop) (w : World)
theorem do_write (m : Nat) (hm : x.what % 6 = m) (h2 : m ≤ 2) (er : Int) (H : Calls Try.prog 20 #[v, .int .i64 x.at', .string x.s] (boxed w x) fun e w' => e = .returned (.int .i64 er) ∧ P w') :
    Calls Try.prog 11 #[v, .agg x.cells] w fun e w' => e = .returned (.tuple #[v, .int .i64 er]) ∧ P w' := by
  unfold Ac.cells
  obtain ⟨W, at', ask, s, u, xs⟩ := x
  simp only at H hm ⊢
  have hmi : (W : Int).tmod 6 = (m : Int) := by rw [← hm]; rfl
  obtain rfl | rfl | rfl : m = 0 ∨ m = 1 ∨ m = 2 := by omega
  all_goals
    go_enter Try.func11, Try.ntmps11
    go_wp2_with (go_at_call 20; refine H.mono ?_; rintro e w' ⟨rfl, hp⟩)
    go_ret2
    exact ⟨rfl, hp⟩
theorem do_barrier (hm : x.what % 6 = 3) (H : Calls Try.prog 22 #[v] (boxed w x) fun e w' => e = .returned (.tuple #[]) ∧ P w') :
    Calls Try.prog 11 #[v, .agg x.cells] w fun e w' => e = .returned (.tuple #[v, .int .i64 0]) ∧ P w' := by
  unfold Ac.cells
  obtain ⟨W, at', ask, s, u, xs⟩ := x
  simp only at H hm ⊢
  have hmi : (W : Int).tmod 6 = 3 := by rw [show (3 : Int) = ((3 : Nat) : Int) from rfl, ← hm]; rfl
  go_enter Try.func11, Try.ntmps11
  go_wp2_with (go_at_call 22; refine H.mono ?_; rintro e w' ⟨rfl, hp⟩)
  go_ret2
  exact ⟨rfl, hp⟩
theorem do_crash (hm : x.what % 6 = 4) (H : Calls Try.prog 16 #[v, x.v] (boxed w x) fun e w' => e = .returned (.tuple #[]) ∧ P w') :
    Calls Try.prog 11 #[v, .agg x.cells] w fun e w' => e = .returned (.tuple #[v, .int .i64 0]) ∧ P w' := by
  unfold Ac.cells
  obtain ⟨W, at', ask, s, u, xs⟩ := x
  simp only at H hm ⊢
  have hmi : (W : Int).tmod 6 = 4 := by rw [show (4 : Int) = ((4 : Nat) : Int) from rfl, ← hm]; rfl
  go_enter Try.func11, Try.ntmps11
  go_wp2_with (go_at_call 16; refine H.mono ?_; rintro e w' ⟨rfl, hp⟩)
  go_ret2
  exact ⟨rfl, hp⟩
theorem do_copy (P : Value → World → Prop) (hm : x.what % 6 = 5) (H : Calls Try.prog 15 #[v] (boxed w x) fun e w' => ∃ v', e = .returned v' ∧ P v' w') :
    Calls Try.prog 11 #[v, .agg x.cells] w fun e w' => ∃ v', e = .returned (.tuple #[v', .int .i64 0]) ∧ P v' w' := by
  unfold Ac.cells
  obtain ⟨W, at', ask, s, u, xs⟩ := x
  simp only at H hm ⊢
  have hmi : (W : Int).tmod 6 = 5 := by rw [show (5 : Int) = ((5 : Nat) : Int) from rfl, ← hm]; rfl
  go_enter Try.func11, Try.ntmps11
  go_wp2_with (go_at_call 15; refine H.mono ?_; rintro e w' ⟨v', rfl, hp⟩)
  go_ret2
  exact ⟨v', rfl, hp⟩
theorem rdo_write (m : Nat) (hm : x.what % 6 = m) (h2 : m ≤ 2) (er : Int) (H : Calls Try.prog 26 #[v, .int .i64 x.at', .string x.s] (boxed w x) fun e w' => e = .returned (.int .i64 er) ∧ P w') :
    Calls Try.prog 12 #[v, .agg x.cells] w fun e w' => e = .returned (.tuple #[v, .int .i64 er]) ∧ P w' := by
  unfold Ac.cells
  obtain ⟨W, at', ask, s, u, xs⟩ := x
  simp only at H hm ⊢
  have hmi : (W : Int).tmod 6 = (m : Int) := by rw [← hm]; rfl
  obtain rfl | rfl | rfl : m = 0 ∨ m = 1 ∨ m = 2 := by omega
  all_goals
    go_enter Try.func12, Try.ntmps12
    go_wp2_with (go_at_call 26; refine H.mono ?_; rintro e w' ⟨rfl, hp⟩)
    go_ret2
    exact ⟨rfl, hp⟩
theorem rdo_barrier (hm : x.what % 6 = 3) (H : Calls Try.prog 27 #[v] (boxed w x) fun e w' => e = .returned (.tuple #[]) ∧ P w') :
    Calls Try.prog 12 #[v, .agg x.cells] w fun e w' => e = .returned (.tuple #[v, .int .i64 0]) ∧ P w' := by
  unfold Ac.cells
  obtain ⟨W, at', ask, s, u, xs⟩ := x
  simp only at H hm ⊢
  have hmi : (W : Int).tmod 6 = 3 := by rw [show (3 : Int) = ((3 : Nat) : Int) from rfl, ← hm]; rfl
  go_enter Try.func12, Try.ntmps12
  go_wp2_with (go_at_call 27; refine H.mono ?_; rintro e w' ⟨rfl, hp⟩)
  go_ret2
  exact ⟨rfl, hp⟩
theorem rdo_crash (hm : x.what % 6 = 4) (H : Calls Try.prog 28 #[v, x.v] (boxed w x) fun e w' => e = .returned (.tuple #[]) ∧ P w') :
    Calls Try.prog 12 #[v, .agg x.cells] w fun e w' => e = .returned (.tuple #[v, .int .i64 0]) ∧ P w' := by
  unfold Ac.cells
  obtain ⟨W, at', ask, s, u, xs⟩ := x
  simp only at H hm ⊢
  have hmi : (W : Int).tmod 6 = 4 := by rw [show (4 : Int) = ((4 : Nat) : Int) from rfl, ← hm]; rfl
  go_enter Try.func12, Try.ntmps12
  go_wp2_with (go_at_call 28; refine H.mono ?_; rintro e w' ⟨rfl, hp⟩)
  go_ret2
  exact ⟨rfl, hp⟩
theorem rdo_copy (P : Value → World → Prop) (hm : x.what % 6 = 5) (H : Calls Try.prog 29 #[v] (boxed w x) fun e w' => ∃ v', e = .returned v' ∧ P v' w') :
    Calls Try.prog 12 #[v, .agg x.cells] w fun e w' => ∃ v', e = .returned (.tuple #[v', .int .i64 0]) ∧ P v' w' := by
  unfold Ac.cells
  obtain ⟨W, at', ask, s, u, xs⟩ := x
  simp only at H hm ⊢
  have hmi : (W : Int).tmod 6 = 5 := by rw [show (5 : Int) = ((5 : Nat) : Int) from rfl, ← hm]; rfl
  go_enter Try.func12, Try.ntmps12
  go_wp2_with (go_at_call 29; refine H.mono ?_; rintro e w' ⟨v', rfl, hp⟩)
  go_ret2
  exact ⟨v', rfl, hp⟩
end
end Go.Proofs.Ytolbegjjakobeaa
