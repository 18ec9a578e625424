/- Words for blocks, for rows of spans and for a set in memory; isMade, end, each. Conditions: none. -/
import Derived.Test.YtnpjbddannkgfaaRows
import Derived.Test.YtnpjbddannkgfaaSpP
import Derived.Test.YtnpjbddannkgfaaSpL
import Derived.WalkKit
import Derived.Lib.Hide
import Derived.Lib.BufferWrite
import Derived.Lib.UnsafeStr
import Derived.Laws.MakeOwn
import Derived.Laws.EntriesVeiled
import Derived.Laws.StructEq
import Derived.Laws.CopyRow
import Derived.Deep.OwnRows
import Derived.Deep.WholeRow
import Derived.Deep.RegionHeld3
import Derived.Deep.Cut
import Derived.BigQuiet
import Derived.BigRegion
import Derived.Maps.AppendAt
namespace Go.Proofs.Ytnpjbddannkgfaa
open Go.ChangeShapes Go.WideShapes Go.RowKit Go.Spans
set_option maxRecDepth 100000
/-- Block g is just these cells, none frozen. -/
def Is (w : World) (g : Nat) (t : TypeId) (cs : Array Value) : Prop := w.heap[g]? = some (.cells cs t (0, 0))
section
variable {w w' : World} {g : Nat} {t : TypeId} {cs : Array Value}
theorem Is.lt (h : Is w g t cs) : g < w.heap.size := (Array.getElem?_eq_some_iff.1 h).1
theorem Is.cell (h : Is w g t cs) (i : Nat) : w.cell? ⟨g, i, none⟩ = cs[i]? := cell_of_row w g i cs t (0, 0) h
theorem Is.frozen (h : Is w g t cs) (i : Nat) : w.frozen? ⟨g, i, none⟩ = false := by
  unfold Is at h
  simp [World.frozen?, h]
theorem Is.new (w : World) (t : TypeId) (cs : Array Value) : Is (w.alloc (.cells cs t)) w.heap.size t cs := heap_alloc_new w _
theorem Is.alloc (h : Is w g t cs) (o : Obj) : Is (w.alloc o) g t cs := (Below.heap_alloc w o g h.lt).trans h
theorem Is.put (h : Is w g t cs) (i : Nat) (u : Value) : Is (w.setCell ⟨g, i, none⟩ u) g t (cs.setIfInBounds i u) := by
  unfold Is at h ⊢
  simp [World.setCell, Array.getElem?_modify, h]
theorem Is.other (h : Is w g t cs) {p : Addr} (hp : g ≠ p.block) (u : Value) : Is (w.setCell p u) g t cs := (Below.heap_setCell w p u g hp).trans h
theorem Is.kept {row : Option Nat} (h : Is w g t cs) (hb : w.grownBy w' row) (hg : some g ≠ row) : Is w' g t cs := (hb.block g h.lt hg).trans h
theorem Is.ne {g' : Nat} {t' : TypeId} {cs' : Array Value} (h : Is w g t cs) (h' : Is w g' t' cs') (hne : t ≠ t') : g ≠ g' := by
  rintro rfl
  unfold Is at h h'
  rw [h] at h'
  injection h' with h'
  injection h' with _ ht
  exact hne ht
theorem Is.row {cs' : Array Value} (h : Is w g t cs) : Is (w.setRow g cs') g t cs' := setRow_heap _ _ cs _ t (0, 0) h
theorem Is.offrow {g' : Nat} {cs' : Array Value} (h : Is w g t cs) (hne : g ≠ g') : Is (w.setRow g' cs') g t cs := (setRow_other _ _ _ _ (by omega)).trans h
theorem Is.drewN (h : Is w g t cs) (k : Nat) : Is (w.drewN k) g t cs := h
end
/-- Only the blocks X have turned, of those that lay there. -/
structure Kp (w w' : World) (X : List Nat) : Prop where
  os : w'.os = w.os
  tape : w'.tape = w.tape
  output : w'.output = w.output
  size : w.heap.size ≤ w'.heap.size
  block : ∀ k, k < w.heap.size → k ∉ X → w'.heap[k]? = w.heap[k]?
theorem Kp.refl (w : World) (X : List Nat) : Kp w w X := ⟨rfl, rfl, rfl, Nat.le_refl _, fun _ _ _ => rfl⟩
theorem Kp.trans {a b c : World} {X Y : List Nat} (h : Kp a b X) (k : Kp b c Y) (hY : ∀ y ∈ Y, y ∈ X ∨ a.heap.size ≤ y) : Kp a c X :=
  ⟨k.os.trans h.os, k.tape.trans h.tape, k.output.trans h.output, Nat.le_trans h.size k.size, fun i hi hX =>
    (k.block i (Nat.lt_of_lt_of_le hi h.size) (fun hy => by rcases hY i hy with e | e; exact hX e; omega)).trans (h.block i hi hX)⟩
theorem Kp.more {a b : World} {X Y : List Nat} (h : Kp a b X) (hs : ∀ x ∈ X, x ∈ Y) : Kp a b Y := ⟨h.os, h.tape, h.output, h.size, fun i hi hX => h.block i hi (fun e => hX (hs i e))⟩
theorem Kp.of_below {a b : World} (h : Below a.heap.size a b) (X : List Nat) : Kp a b X := ⟨h.os, h.tape, h.output, h.size, fun k hk _ => h.block k hk⟩
theorem Kp.of_grown {a b : World} {row : Option Nat} (h : a.grownBy b row) : Kp a b row.toList := ⟨h.os, h.tape, h.output, h.size, fun k hk hX => h.block k hk (fun e => hX (by rw [← e]; simp))⟩
theorem Kp.below {B : Nat} {a b : World} {X : List Nat} (h : Kp a b X) (hB : B ≤ a.heap.size) (hX : ∀ x ∈ X, B ≤ x) : Below B a b :=
  ⟨h.os, h.tape, h.output, h.size, fun k hk => h.block k (by omega) (fun e => by have := hX k e; omega)⟩
theorem Kp.is {w w' : World} {X : List Nat} {g : Nat} {t : TypeId} {cs : Array Value} (h : Kp w w' X) (hi : Is w g t cs) (hX : g ∉ X) : Is w' g t cs := (h.block g hi.lt hX).trans hi
theorem Kp.alloc {a b : World} {X : List Nat} (h : Kp a b X) (o : Obj) : Kp a (b.alloc o) X := h.trans (Y := []) (Kp.of_below ((Below.refl _ b).alloc (Nat.le_refl _) o) []) (by simp)
theorem Kp.drewN {a b : World} {X : List Nat} (h : Kp a b X) (n : Nat) : Kp a (b.drewN n) X := ⟨h.os, h.tape, h.output, h.size, h.block⟩
theorem Kp.put {a b : World} {X : List Nat} (h : Kp a b X) (p : Addr) (v : Value) (hp : p.block ∈ X ∨ a.heap.size ≤ p.block) : Kp a (b.setCell p v) X :=
  h.trans (Y := [p.block]) ⟨rfl, rfl, rfl, Nat.le_of_eq (by simp), fun k _ hk => Below.heap_setCell b p v k (by simpa using hk)⟩ (fun y hy => by simp at hy; subst hy; exact hp)
theorem Kp.row {a b : World} {X : List Nat} (h : Kp a b X) (g : Nat) (cs : Array Value) (hp : g ∈ X ∨ a.heap.size ≤ g) : Kp a (b.setRow g cs) X :=
  h.trans (Y := [g]) ⟨rfl, rfl, rfl, Nat.le_of_eq (by simp), fun k _ hk => setRow_other b g k cs (by simpa using hk)⟩ (fun y hy => by simp at hy; subst hy; exact hp)
/-- The cells of a span; of spans. -/
def ec (e : Sp) : List Value := [.int .i64 e.1, .int .i64 e.2]
def ecs (xs : List Sp) : List Value := xs.flatMap ec
theorem ecs_cons (e : Sp) (xs : List Sp) : ecs (e :: xs) = .int .i64 e.1 :: .int .i64 e.2 :: ecs xs := rfl
theorem ecs_append (xs ys : List Sp) : ecs (xs ++ ys) = ecs xs ++ ecs ys := by simp [ecs]
theorem ecs_len (xs : List Sp) : (ecs xs).length = xs.length * 2 := by
  induction xs with
  | nil => rfl
  | cons e ys ih => simp [ecs_cons, ih]; omega
theorem ecs_at (xs : List Sp) (i : Nat) (h : i < xs.length) : (ecs xs)[2 * i]? = some (.int .i64 xs[i].1) ∧ (ecs xs)[2 * i + 1]? = some (.int .i64 xs[i].2) := by
  induction xs generalizing i with
  | nil => simp at h
  | cons e ys ih =>
    cases i with
    | zero => exact ⟨rfl, rfl⟩
    | succ i =>
      have := ih i (by simpa using h)
      rw [ecs_cons]
      simpa [Nat.mul_succ] using this
theorem ecs_take (xs : List Sp) (k : Nat) : (ecs xs).take (k * 2) = ecs (xs.take k) := by
  induction xs generalizing k with
  | nil => simp [ecs]
  | cons e ys ih =>
    cases k with
    | zero => simp [ecs]
    | succ k =>
      have := ih k
      rw [List.take_succ_cons, ecs_cons, ecs_cons, ← this, show (k + 1) * 2 = k * 2 + 1 + 1 by omega, List.take_succ_cons, List.take_succ_cons]
theorem ecs_drop (xs : List Sp) (k : Nat) : (ecs xs).drop (k * 2) = ecs (xs.drop k) := by
  induction xs generalizing k with
  | nil => simp [ecs]
  | cons e ys ih =>
    cases k with
    | zero => simp
    | succ k =>
      have := ih k
      rw [List.drop_succ_cons, ecs_cons, ← this, show (k + 1) * 2 = k * 2 + 1 + 1 by omega, List.drop_succ_cons, List.drop_succ_cons]
theorem ecs_one (xs : List Sp) : ∀ v ∈ ecs xs, v.oneCell' = true := by
  intro v hv
  simp only [ecs, ec, List.mem_flatMap, List.mem_cons, List.not_mem_nil, or_false] at hv
  obtain ⟨e, _, rfl | rfl⟩ := hv <;> rfl
/-- A slice of spans, in a block that lies at base or behind it (or none at all). -/
def Rw (w : World) (base : Nat) (v : Value) (xs : List Sp) : Prop := w.ownsRow base 101 2 v xs.length (ecs xs)
theorem Rw.cases {w : World} {base : Nat} {v : Value} {xs : List Sp} (h : Rw w base v xs) : (v = .slice none 0 0 ∧ xs = []) ∨
    ∃ g cap cur, v = .slice (some ⟨g, 0, none⟩) xs.length cap ∧ base ≤ g ∧ Is w g 101 cur ∧ xs.length ≤ cap ∧ cap ≤ maxLen ∧ cur.size = cap * 2 ∧ cur.toList.take (xs.length * 2) = ecs xs := by
  rcases h.2 with ⟨h1, h2⟩ | ⟨g, cap, cur, h1, h2, h3, h4, h5, h6, h7⟩
  · exact .inl ⟨h1, List.eq_nil_of_length_eq_zero h2⟩
  · exact .inr ⟨g, cap, cur, h1, h2, h3, h4, h5, h6, h7⟩
theorem Rw.mk {w : World} {base g cap : Nat} {cur : Array Value} {xs : List Sp} (h2 : base ≤ g) (h3 : Is w g 101 cur) (h4 : xs.length ≤ cap) (h5 : cap ≤ maxLen) (h6 : cur.size = cap * 2) (h7 : cur.toList.take (xs.length * 2) = ecs xs) :
    Rw w base (.slice (some ⟨g, 0, none⟩) xs.length cap) xs := ⟨ecs_len xs, .inr ⟨g, cap, cur, rfl, h2, h3, h4, h5, h6, h7⟩⟩
theorem Rw.nil (w : World) (base : Nat) : Rw w base (.slice none 0 0) [] := ⟨rfl, .inl ⟨rfl, rfl⟩⟩
theorem Rw.len {w : World} {base : Nat} {v : Value} {xs : List Sp} (h : Rw w base v xs) : ∃ p cap, v = .slice p xs.length cap := by
  rcases h.cases with ⟨rfl, rfl⟩ | ⟨g, cap, cur, h1, _⟩
  · exact ⟨none, 0, rfl⟩
  · exact ⟨_, _, h1⟩
/-- The blocks of a slice. -/
def ob (v : Value) : List Nat := v.ownBlock.toList
theorem Rw.lt {w : World} {base : Nat} {v : Value} {xs : List Sp} (h : Rw w base v xs) : ∀ g ∈ ob v, base ≤ g ∧ g < w.heap.size := by
  rcases h.cases with ⟨rfl, rfl⟩ | ⟨g, cap, cur, rfl, hb, hi, _⟩
  · intro g hg; cases hg
  · intro g' hg
    simp [ob, Value.ownBlock] at hg
    subst hg
    exact ⟨hb, hi.lt⟩
theorem Rw.kept {w w' : World} {base : Nat} {v : Value} {xs : List Sp} {X : List Nat} (h : Rw w base v xs) (hk : Kp w w' X) (hX : ∀ g ∈ ob v, g ∉ X) : Rw w' base v xs := by
  rcases h.cases with ⟨rfl, rfl⟩ | ⟨g, cap, cur, rfl, hb, hi, h4, h5, h6, h7⟩
  · exact Rw.nil _ _
  · exact Rw.mk hb (hk.is hi (hX g (by simp [ob, Value.ownBlock]))) h4 h5 h6 h7
theorem Rw.low {w : World} {base base' : Nat} {v : Value} {xs : List Sp} (h : Rw w base v xs) (hb : base' ≤ base) : Rw w base' v xs := by
  rcases h.cases with ⟨rfl, rfl⟩ | ⟨g, cap, cur, rfl, hb', hi, h4, h5, h6, h7⟩
  · exact Rw.nil _ _
  · exact Rw.mk (by omega) hi h4 h5 h6 h7
theorem cur_get {cur : Array Value} {cs : List Value} {k : Nat} (h : cur.toList.take k = cs) {j : Nat} {u : Value} (hj : cs[j]? = some u) : cur[j]? = some u := by
  rw [← h, List.getElem?_take] at hj
  split at hj
  · simpa using hj
  · cases hj
/-- The cells of the i-th span. -/
theorem row_cells {w : World} {g : Nat} {cur : Array Value} {xs : List Sp} {k : Nat} (hi : Is w g 101 cur) (h : cur.toList.take k = ecs xs) (i : Nat) (hx : i < xs.length) :
    w.cell? ⟨g, i * 2, none⟩ = some (.int .i64 xs[i].1) ∧ w.cell? ⟨g, i * 2 + 1, none⟩ = some (.int .i64 xs[i].2) := by
  obtain ⟨h1, h2⟩ := ecs_at xs i hx
  rw [hi.cell, hi.cell, Nat.mul_comm i 2]
  exact ⟨cur_get h h1, cur_get h h2⟩
/-- A set in memory: its struct's block, its list. -/
structure St (w : World) (S : Nat) (v : Value) (n : Nat) (xs : List Sp) : Prop where
  one : Is w S 99 #[.int .i64 n, v]
  row : Rw w 0 v xs
  ok : Ok n xs
  lo : 1 ≤ n
  hi : n ≤ 4096
theorem St.ne {w : World} {S n : Nat} {v : Value} {xs : List Sp} (h : St w S v n xs) : S ∉ ob v := by
  intro hm
  rcases h.row.cases with ⟨rfl, rfl⟩ | ⟨g, cap, cur, rfl, hb, hi, h4, h5, h6, h7⟩
  · cases hm
  · simp [ob, Value.ownBlock] at hm
    exact h.one.ne hi (by decide) hm
theorem St.kept {w w' : World} {S n : Nat} {v : Value} {xs : List Sp} {X : List Nat} (h : St w S v n xs) (hk : Kp w w' X) (h1 : S ∉ X) (h2 : ∀ g ∈ ob v, g ∉ X) : St w' S v n xs :=
  ⟨hk.is h.one h1, h.row.kept hk h2, h.ok, h.lo, h.hi⟩
theorem St.below {w w' : World} {S n : Nat} {v : Value} {xs : List Sp} (h : St w S v n xs) (hb : Below w.heap.size w w') : St w' S v n xs := h.kept (Kp.of_below hb []) (by simp) (by simp)
theorem St.alloc {w : World} {S n : Nat} {v : Value} {xs : List Sp} (h : St w S v n xs) (o : Obj) : St (w.alloc o) S v n xs := h.below ((Below.refl _ w).alloc (Nat.le_refl _) o)
theorem wrap_small {x : Int} (h1 : -9223372036854775808 ≤ x) (h2 : x ≤ 9223372036854775807) : IntKind.i64.wrap x = x := by rw [IntKind.wrap_i64]; omega
theorem isMade_st {w : World} {S n : Nat} {v : Value} {xs : List Sp} (h : St w S v n xs) : Calls Try.prog 56 #[.pointer (some ⟨S, 0, none⟩)] w fun e w' => e = .returned (.bool true) ∧ w' = w := by
  have hn := h.one.cell 0
  have hl := h.lo
  simp at hn
  clear h
  go_enter Try.func56, Try.ntmps56
  go_wp2
  go_ret
  refine ⟨?_, rfl⟩
  simp
  omega
theorem isMade_nil (w : World) : Calls Try.prog 56 #[.pointer none] w fun e w' => e = .returned (.bool false) ∧ w' = w := by
  go_enter Try.func56, Try.ntmps56
  go_wp2
  go_ret
  exact ⟨rfl, rfl⟩
theorem isMade_zero {w : World} {S : Nat} {v : Value} (h : Is w S 99 #[.int .i64 0, v]) : Calls Try.prog 56 #[.pointer (some ⟨S, 0, none⟩)] w fun e w' => e = .returned (.bool false) ∧ w' = w := by
  have hn := h.cell 0
  simp at hn
  clear h
  go_enter Try.func56, Try.ntmps56
  go_wp2
  go_ret
  exact ⟨rfl, rfl⟩
theorem end_c (e : Sp) (h : en e ≤ 4096) (w : World) : Calls Try.prog 70 #[.agg #[.int .i64 e.1, .int .i64 e.2]] w fun r w' => r = .returned (.int .i64 (en e : Nat)) ∧ w' = w.alloc (.cells #[.int .i64 e.1, .int .i64 e.2] 101) := by
  obtain ⟨a, n⟩ := e
  have hw : IntKind.i64.wrap ((a : Int) + (n : Int)) = ((a + n : Nat) : Int) := by
    simp only [en] at h
    rw [wrap_small (by omega) (by omega)]
    omega
  simp only [en] at *
  go_enter Try.func70, Try.ntmps70
  go_wp2
  go_ret
  exact ⟨rfl, rfl⟩
theorem each_c (p : Option Addr) (w : World) : Calls Try.prog 67 #[.pointer p] w fun e w' => e = .returned (.func (.func 76) #[] #[.pointer (some ⟨w.heap.size, 0, none⟩)]) ∧ w' = w.alloc (.cells #[.pointer p] 57) := by
  go_enter Try.func67, Try.ntmps67
  go_wp2
  go_ret
  exact ⟨rfl, rfl⟩
theorem new_c (w : World) (n : Int) : Calls Try.prog 31 #[.int .i64 n] w fun e w' =>
    (1 ≤ n ∧ n ≤ 4096 ∧ e = .returned (.pointer (some ⟨w.heap.size, 0, none⟩)) ∧ w' = w.alloc (.cells #[.int .i64 n, .slice none 0 0] 99)) ∨ (¬ (1 ≤ n ∧ n ≤ 4096) ∧ e = .returned (.pointer none) ∧ w' = w) := by
  go_enter Try.func31, Try.ntmps31
  go_wp2
  all_goals go_ret
  all_goals first
    | exact .inr ⟨by omega, rfl, rfl⟩
    | exact .inl ⟨by omega, by omega, rfl, rfl⟩
end Go.Proofs.Ytnpjbddannkgfaa
