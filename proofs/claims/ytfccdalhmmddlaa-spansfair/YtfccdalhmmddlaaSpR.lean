/- The document's set: a list of yes and no. New, Has, Give, Fill, Count, Copy. Conditions: none. -/
import Derived.Test.YtfccdalhmmddlaaSpE
import Derived.Lib.Walk
namespace Go.Proofs.Ytfccdalhmmddlaa
open Go.ChangeShapes Go.WideShapes Go.RowKit Go.Spans
set_option maxRecDepth 100000
/-- The document's set in memory: h says which there are. -/
structure Rf (w : World) (R b n cap : Nat) (h : Nat → Bool) : Prop where
  one : Is w R 55 #[.slice (some ⟨b, 0, none⟩) n cap]
  row : ∃ cur, Is w b 4 cur ∧ cur.size = cap ∧ n ≤ cap ∧ cap ≤ maxLen ∧ ∀ k, k < n → cur[k]? = some (.bool (h k))
  lo : 1 ≤ n
  hi : n ≤ 4096
section
variable {w w' : World} {R b n cap : Nat} {h : Nat → Bool}
theorem Rf.lt (x : Rf w R b n cap h) : R < w.heap.size ∧ b < w.heap.size ∧ R ≠ b := by
  obtain ⟨cur, hi, _⟩ := x.row
  exact ⟨x.one.lt, hi.lt, x.one.ne hi (by decide)⟩
theorem Rf.kept {X : List Nat} (x : Rf w R b n cap h) (hk : Kp w w' X) (h1 : R ∉ X) (h2 : b ∉ X) : Rf w' R b n cap h := by
  obtain ⟨cur, hi, r⟩ := x.row
  exact ⟨hk.is x.one h1, ⟨cur, hk.is hi h2, r⟩, x.lo, x.hi⟩
theorem Rf.below (x : Rf w R b n cap h) (hb : Below w.heap.size w w') : Rf w' R b n cap h := x.kept (Kp.of_below hb []) (by simp) (by simp)
theorem Rf.cells (x : Rf w R b n cap h) : w.cell? ⟨R, 0, none⟩ = some (.slice (some ⟨b, 0, none⟩) n cap) ∧ (∀ k, k < n → w.cell? ⟨b, k, none⟩ = some (.bool (h k))) ∧ ∀ k, w.frozen? ⟨b, k, none⟩ = false := by
  obtain ⟨cur, hi, _, _, _, hc⟩ := x.row
  have := x.one.cell 0
  exact ⟨by simpa using this, fun k hk => (hi.cell k).trans (hc k hk), fun k => hi.frozen k⟩
theorem Rf.ext {h' : Nat → Bool} (x : Rf w R b n cap h) (e : ∀ k, k < n → h k = h' k) : Rf w R b n cap h' := by
  obtain ⟨cur, hi, h1, h2, h3, hc⟩ := x.row
  exact ⟨x.one, ⟨cur, hi, h1, h2, h3, fun k hk => by rw [hc k hk, e k hk]⟩, x.lo, x.hi⟩
theorem Rf.put (x : Rf w R b n cap h) (k : Nat) (u : Bool) : Rf (w.setCell ⟨b, k, none⟩ (.bool u)) R b n cap (fun j => if j = k then u else h j) := by
  obtain ⟨cur, hi, h1, h2, h3, hc⟩ := x.row
  have hne := x.lt.2.2
  refine ⟨x.one.other (by simpa using hne) _, ⟨_, hi.put k (.bool u), by simpa using h1, h2, h3, fun j hj => ?_⟩, x.lo, x.hi⟩
  rw [Array.getElem?_setIfInBounds]
  have hjs : j < cur.size := by omega
  by_cases e : k = j
  · subst e; simp [hjs]
  · rw [if_neg e, hc j hj]; simp [show ¬ j = k by omega]
end
theorem info4 : (Try.prog.info? 4).map (fun i => (i.zero, i.size, i.bytes)) = some (some (.bool false), 1, 1) := by kernel_rfl
theorem rnew_ok (w : World) (q : Nat) (h1 : 1 ≤ q) (h2 : q ≤ 4096) : Calls Try.prog 7 #[.int .i64 q] w fun e w' =>
    ∃ R, e = .returned (.pointer (some ⟨R, 0, none⟩)) ∧ ∃ b, Rf w' R b q q (fun _ => false) ∧ w.heap.size ≤ R ∧ w.heap.size ≤ b ∧ Below w.heap.size w w' := by
  obtain ⟨i0, hi0, hz0, hz1, hz2⟩ := info_parts info4
  have hmk := run_make (P := Try.prog) w 40 4 i0 _ Try.underlying40 hi0 hz0 .i64 .i64 (q : Int) (q : Int) (by omega) (by omega) (by rw [hz2]; omega) (by omega)
  simp only [Int.toNat_natCast, hz1, Nat.mul_one] at hmk
  obtain ⟨cs, hcs⟩ : ∃ cs, cs = madeCells (Value.bool false).cells q := ⟨_, rfl⟩
  rw [← hcs] at hmk
  have hsz : cs.size = q := by rw [hcs, size_madeCells]
  have hget : ∀ k, k < q → cs[k]? = some (.bool false) := fun k hk => by
    rw [hcs]
    simp [madeCells, Value.cells, hk, Nat.mod_one]
  have hn1 : ¬ ((q : Int) < 1) := by omega
  have hn2 : ¬ ((4096 : Int) < (q : Int)) := by omega
  have hres : Rf ((w.alloc (.cells cs 4)).alloc (.cells #[.slice (some ⟨w.heap.size, 0, none⟩) q q] 55)) (w.heap.size + 1) w.heap.size q q (fun _ => false) := by
    have := Is.new (w.alloc (.cells cs 4)) 55 #[.slice (some ⟨w.heap.size, 0, none⟩) q q]
    rw [World.size_alloc] at this
    exact ⟨this, ⟨cs, (Is.new w 4 cs).alloc _, hsz, Nat.le_refl _, by unfold maxLen; omega, fun k hk => hget k hk⟩, by omega, by omega⟩
  have hB : Below w.heap.size w ((w.alloc (.cells cs 4)).alloc (.cells #[.slice (some ⟨w.heap.size, 0, none⟩) q q] 55)) := ((Below.refl _ w).alloc (Nat.le_refl _) _).alloc (by simp) _
  clear hcs hget hsz
  go_enter Try.func7, Try.ntmps7
  go_wp2
  go_ret
  exact ⟨_, rfl, _, hres, by omega, Nat.le_refl _, hB⟩
theorem rnew_bad (w : World) (n : Int) (h : ¬ (1 ≤ n ∧ n ≤ 4096)) : Calls Try.prog 7 #[.int .i64 n] w fun e w' => e = .returned (.pointer none) ∧ w' = w := by
  go_enter Try.func7, Try.ntmps7
  go_wp2
  all_goals first
    | (exfalso; omega)
    | (go_ret; exact ⟨rfl, rfl⟩)
theorem rhas_c {w : World} {R b n cap : Nat} {h : Nat → Bool} (x : Rf w R b n cap h) (a : Int) :
    Calls Try.prog 11 #[.pointer (some ⟨R, 0, none⟩), .int .i64 a] w fun e w' => e = .returned (.bool (decide (0 ≤ a) && (decide (a < n) && h a.toNat))) ∧ w' = w := by
  obtain ⟨c0, c1, _⟩ := x.cells
  have hhi := x.hi
  obtain ⟨E, hE⟩ : ∃ E, E = (decide (0 ≤ a) && (decide (a < n) && h a.toNat)) := ⟨_, rfl⟩
  rw [← hE]
  by_cases h0 : 0 ≤ a
  · obtain ⟨q, rfl⟩ := Int.eq_ofNat_of_zero_le h0
    by_cases h1 : q < n
    · have c2 := c1 q h1
      have hz : (q : Int) < (n : Int) := by omega
      have e1 : E = h q := by rw [hE]; simp [h1]
      rw [e1]
      generalize h q = u at *
      clear x c1 e1 hE
      go_enter Try.func11, Try.ntmps11
      go_wp2
      go_ret
      exact ⟨rfl, rfl⟩
    · have hz : ¬ ((q : Int) < (n : Int)) := by omega
      have e1 : E = false := by rw [hE]; simp [hz]
      rw [e1]
      clear x c1 e1 hE
      go_enter Try.func11, Try.ntmps11
      go_wp2
      go_ret
      exact ⟨rfl, rfl⟩
  · have e1 : E = false := by rw [hE]; simp [h0]
    rw [e1]
    clear x c1 e1 hE
    go_enter Try.func11, Try.ntmps11
    go_wp2
    go_ret
    exact ⟨rfl, rfl⟩
/-- What Give answers. -/
def rgiveE (n : Nat) (h : Nat → Bool) (a : Int) : Int := if a < 0 ∨ a ≥ n then 2 else if h a.toNat then 6 else 0
def rgiveX (n : Nat) (h : Nat → Bool) (a : Int) : Nat → Bool := fun k => h k || (decide (0 ≤ a ∧ a < n) && decide (k = a.toNat))
theorem rgive_c {w : World} {R b n cap : Nat} {h : Nat → Bool} (x : Rf w R b n cap h) (a : Int) :
    Calls Try.prog 24 #[.pointer (some ⟨R, 0, none⟩), .int .i64 a] w fun e w' => e = .returned (.int .i64 (rgiveE n h a)) ∧ Rf w' R b n cap (rgiveX n h a) ∧ Kp w w' [b] := by
  obtain ⟨c0, c1, c2⟩ := x.cells
  have hhi := x.hi
  by_cases hbad : a < 0 ∨ a ≥ n
  · have e1 : rgiveE n h a = 2 := by simp only [rgiveE, if_pos hbad]
    have e2 : rgiveX n h a = h := by
      funext k
      simp only [rgiveX]
      rw [decide_eq_false (p := 0 ≤ a ∧ a < n) (by omega)]
      simp
    rw [e1, e2]
    have hk := Kp.refl w [b]
    have x' : Hid (Rf w R b n cap h) := Lib.hid x
    clear e1 e2 c1 c2 x
    go_enter Try.func24, Try.ntmps24
    go_wp2
    all_goals first
      | (exfalso; omega)
      | (go_ret; exact ⟨rfl, x', hk⟩)
  · obtain ⟨q, rfl⟩ := Int.eq_ofNat_of_zero_le (a := a) (by omega)
    have hq : q < n := by omega
    have hz : (q : Int) < (n : Int) := by omega
    have hz' : ¬ ((n : Int) ≤ (q : Int)) := by omega
    have c3 := c1 q hq
    have c4 := c2 q
    have e1 : rgiveE n h (q : Int) = if h q then 6 else 0 := by simp only [rgiveE, if_neg hbad, Int.toNat_natCast]
    have hput := x.put q true
    have e2 : ∀ k, k < n → (if k = q then true else h k) = rgiveX n h (q : Int) k := fun k _ => by
      simp only [rgiveX]
      rw [decide_eq_true (p := 0 ≤ (q : Int) ∧ (q : Int) < n) (by omega)]
      by_cases e : k = q
      · simp [e]
      · simp [e]
    have x1 : Hid (h q = true → Rf w R b n cap (rgiveX n h (q : Int))) := Lib.hid fun hh => x.ext fun k _ => by
      simp only [rgiveX]
      by_cases e : k = q
      · rw [e, hh]; simp
      · simp [e]
    have x2 : Hid (Rf (w.setCell ⟨b, q, none⟩ (.bool true)) R b n cap (rgiveX n h (q : Int))) := Lib.hid (hput.ext e2)
    have k2 : Kp w (w.setCell ⟨b, q, none⟩ (.bool true)) [b] := (Kp.refl w [b]).put _ _ (.inl (by simp))
    have k1 := Kp.refl w [b]
    rw [e1]
    clear e1 e2 hput c1 c2 x hbad
    rcases Bool.eq_false_or_eq_true (h q) with hh | hh
    · rw [hh] at c3
      rw [if_pos hh]
      go_enter Try.func24, Try.ntmps24
      go_wp2
      go_ret
      exact ⟨rfl, (x1 hh), k1⟩
    · rw [hh] at c3
      rw [if_neg (by rw [hh]; simp)]
      go_enter Try.func24, Try.ntmps24
      go_wp2
      go_ret
      exact ⟨rfl, x2, k2⟩
end Go.Proofs.Ytfccdalhmmddlaa
