/- A line to a device in memory; check, Down, Count, Device, Read, lastIsDone, Blow. Conditions: none. -/
import Derived.Test.YtlidieffaaicaaaGreatDvK
namespace Go.Proofs.YtlidieffaaicaaaGreat.Fu
open Go.ChangeShapes Go.WideShapes Go.RowKit Go.Maps
set_option maxRecDepth 100000
theorem Is.nomap {w : World} {x : Nat} {t : TypeId} {cs : Array Value} {B b c : Nat} {st : List Cel} (h : Is w x t cs) (hd : Dv w B b c st) : x ≠ b ∧ x ≠ c := by
  obtain ⟨k, D, ⟨es, clock, hb, _⟩, _⟩ := hd.sure
  obtain ⟨k', D', ⟨es', clock', hb', _⟩, _⟩ := hd.wait
  unfold Is at h
  constructor
  · rintro rfl; rw [hb] at h; cases h
  · rintro rfl; rw [hb'] at h; cases h
theorem Sw.turn {w w' : World} {g : Nat} {v : Value} {xs : List Int} {X : List Nat} (h : Sw w g v xs) (hk : Kp w w' X) (hX : ∀ y ∈ X, g ≤ y ∨ ∀ a u, a.block = y → w.cell? a ≠ some u) : Sw w' g v xs := by
  obtain ⟨a, c, rfl, hx⟩ := h
  refine ⟨a, c, rfl, fun j x hj => ?_⟩
  obtain ⟨ad, e, hlt, hc⟩ := hx j x hj
  refine ⟨ad, e, hlt, ?_⟩
  have hb : (ad.add j).block < w.heap.size := World.block_lt_of_cell? w _ hc
  have hn : (ad.add j).block ∉ X := fun hm => by
    rcases hX _ hm with h1 | h1
    · omega
    · exact h1 _ _ rfl hc
  unfold World.cell? at hc ⊢
  rw [hk.block _ hb hn]
  exact hc
/-- A line: its block, its device, what stands on that, its fuse, its choices, how many acts there were, and whether it is cut. -/
structure Ln (w : World) (F B b c : Nat) (st : List Cel) (z : Int) (u : Value) (xs : List Int) (k : Nat) (cut : Bool) : Prop where
  one : Is w F 79 #[.pointer (some ⟨B, 0, none⟩), .int .i64 z, u, .int .i64 (k : Int), .bool cut]
  dev : Dv w B b c st
  ch : Sw w F u xs
  ne : F ≠ B
section
variable {w w' : World} {F B b c : Nat} {st : List Cel} {z : Int} {u : Value} {xs : List Int} {k : Nat} {cut : Bool}
theorem Ln.cells (h : Ln w F B b c st z u xs k cut) : w.cell? ⟨F, 0, none⟩ = some (.pointer (some ⟨B, 0, none⟩)) ∧ w.cell? ⟨F, 1, none⟩ = some (.int .i64 z) ∧ w.cell? ⟨F, 2, none⟩ = some u ∧ w.cell? ⟨F, 3, none⟩ = some (.int .i64 (k : Int)) ∧ w.cell? ⟨F, 4, none⟩ = some (.bool cut) := by
  refine ⟨?_, ?_, ?_, ?_, ?_⟩ <;> rw [h.one.cell] <;> rfl
theorem Ln.nomap (h : Ln w F B b c st z u xs k cut) : F ≠ b ∧ F ≠ c := h.one.nomap h.dev
theorem Ln.kept {X : List Nat} (h : Ln w F B b c st z u xs k cut) (hk : Kp w w' X) (h1 : B ∉ X) (h2 : b ∉ X) (h3 : c ∉ X) (hX : ∀ y ∈ X, F < y) : Ln w' F B b c st z u xs k cut :=
  ⟨hk.is h.one (fun e => by have := hX _ e; omega), h.dev.kept hk h1 h2 h3, h.ch.turn hk (fun y hy => .inl (by have := hX y hy; omega)), h.ne⟩
theorem Ln.below (h : Ln w F B b c st z u xs k cut) (hb : Below w.heap.size w w') : Ln w' F B b c st z u xs k cut := h.kept (Kp.of_below hb []) (by simp) (by simp) (by simp) (by simp)
theorem Ln.drew (h : Ln w F B b c st z u xs k cut) : Ln w.drew F B b c st z u xs k cut := h.kept (X := []) (Kp.drew (Kp.refl _ _)) (by simp) (by simp) (by simp) (by simp)
/-- What the device did. -/
theorem Ln.dev' {st' : List Cel} (h : Ln w F B b c st z u xs k cut) (hd : Dv w' B b c st') (hk : Kp w w' [b, c]) : Ln w' F B b c st' z u xs k cut :=
  ⟨hk.is h.one (by have := h.nomap; simp; omega), hd, h.ch.turn hk (fun y hy => .inr (fun a v e => h.dev.nocell y hy a v e)), h.ne⟩
theorem cell_kp (w : World) (g i : Nat) (v : Value) : Kp w (w.setCell ⟨g, i, none⟩ v) [g] :=
  ⟨rfl, rfl, rfl, by simp [World.setCell], fun k _ hX => Below.heap_setCell _ _ _ _ (by simpa using hX)⟩
/-- Its own cells are written. -/
theorem Ln.count (h : Ln w F B b c st z u xs k cut) (k' : Nat) : Ln (w.setCell ⟨F, 3, none⟩ (.int .i64 (k' : Int))) F B b c st z u xs k' cut :=
  ⟨by have := h.one.put 3 (.int .i64 (k' : Int)); exact this, h.dev.kept (cell_kp w F 3 _) (by have := h.ne; simp; omega) (by have := h.nomap; simp; omega) (by have := h.nomap; simp; omega), h.ch.turn (cell_kp w F 3 _) (fun y hy => .inl (by simp at hy; omega)), h.ne⟩
theorem Ln.blown (h : Ln w F B b c st z u xs k cut) (cut' : Bool) : Ln (w.setCell ⟨F, 4, none⟩ (.bool cut')) F B b c st z u xs k cut' :=
  ⟨by have := h.one.put 4 (.bool cut'); exact this, h.dev.kept (cell_kp w F 4 _) (by have := h.ne; simp; omega) (by have := h.nomap; simp; omega) (by have := h.nomap; simp; omega), h.ch.turn (cell_kp w F 4 _) (fun y hy => .inl (by simp at hy; omega)), h.ne⟩
/-- Does the line hold? -/
theorem check_any (h : Ln w F B b c st z u xs k cut) : Calls Tryz.prog 40 #[.pointer (some ⟨F, 0, none⟩)] w fun e w' => e = .returned (.int .i64 (if cut then 8 else 0)) ∧ w = w' := by
  obtain ⟨c0, c1, c2, c3, c4⟩ := h.cells
  clear h
  cases cut
  · go_enter Tryz.func40, Tryz.ntmps40
    go_wp2
    go_ret
    exact ⟨rfl, rfl⟩
  · go_enter Tryz.func40, Tryz.ntmps40
    go_wp2
    go_ret
    exact ⟨rfl, rfl⟩
/-- A line that New did not make. -/
inductive Nl (w : World) : Value → Prop where
  | nil : Nl w (.pointer none)
  | zero (F : Nat) (h : Is w F 79 #[.pointer none, .int .i64 0, .slice none 0 0, .int .i64 0, .bool false]) : Nl w (.pointer (some ⟨F, 0, none⟩))
theorem Nl.below {v : Value} (h : Nl w v) (hb : Below w.heap.size w w') : Nl w' v := by
  cases h with
  | nil => exact .nil
  | zero F h => exact .zero F ((Kp.of_below hb []).is h (by simp))
theorem lcheck_no {v : Value} (h : Nl w v) : Calls Tryz.prog 40 #[v] w fun e w' => e = .returned (.int .i64 1) ∧ w = w' := by
  cases h with
  | nil =>
    go_enter Tryz.func40, Tryz.ntmps40
    go_wp2
    go_ret
    exact ⟨rfl, rfl⟩
  | zero F h =>
    have c0 := h.cell 0
    simp at c0
    clear h
    go_enter Tryz.func40, Tryz.ntmps40
    go_wp2
    go_ret
    exact ⟨rfl, rfl⟩
theorem count_any (h : Ln w F B b c st z u xs k cut) : Calls Tryz.prog 17 #[.pointer (some ⟨F, 0, none⟩)] w fun e w' => e = .returned (.int .i64 (k : Int)) ∧ w = w' := by
  obtain ⟨c0, c1, c2, c3, c4⟩ := h.cells
  clear h
  go_enter Tryz.func17, Tryz.ntmps17
  go_wp2
  go_ret
  exact ⟨rfl, rfl⟩
theorem count_nil (w : World) : Calls Tryz.prog 17 #[.pointer none] w fun e w' => e = .returned (.int .i64 0) ∧ w = w' := by
  go_enter Tryz.func17, Tryz.ntmps17
  go_wp2
  go_ret
  exact ⟨rfl, rfl⟩
theorem device_any (h : Ln w F B b c st z u xs k cut) : Calls Tryz.prog 48 #[.pointer (some ⟨F, 0, none⟩)] w fun e w' => e = .returned (.pointer (some ⟨B, 0, none⟩)) ∧ w = w' := by
  obtain ⟨c0, c1, c2, c3, c4⟩ := h.cells
  clear h
  go_enter Tryz.func48, Tryz.ntmps48
  go_wp2
  go_ret
  exact ⟨rfl, rfl⟩
theorem device_zero {F : Nat} (h : Is w F 79 #[.pointer none, .int .i64 0, .slice none 0 0, .int .i64 0, .bool false]) : Calls Tryz.prog 48 #[.pointer (some ⟨F, 0, none⟩)] w fun e w' => e = .returned (.pointer none) ∧ w = w' := by
  have c0 := h.cell 0
  simp at c0
  clear h
  go_enter Tryz.func48, Tryz.ntmps48
  go_wp2
  go_ret
  exact ⟨rfl, rfl⟩
theorem lread_down (h : Ln w F B b c st z u xs k true) (i : Int) : Calls Tryz.prog 47 #[.pointer (some ⟨F, 0, none⟩), .int .i64 i] w fun e w' => e = .returned (.tuple #[.string ⟨#[]⟩, .int .i64 8]) ∧ w = w' := by
  have hm := check_any h
  clear h
  go_enter Tryz.func47, Tryz.ntmps47
  go_wp2_with (go_at_call 40; refine hm.mono ?_; rintro e w' ⟨rfl, rfl⟩)
  go_ret2
  exact ⟨rfl, rfl⟩
theorem lread_no {v : Value} (h : Nl w v) (i : Int) : Calls Tryz.prog 47 #[v, .int .i64 i] w fun e w' => e = .returned (.tuple #[.string ⟨#[]⟩, .int .i64 1]) ∧ w = w' := by
  have hm := lcheck_no h
  clear h
  go_enter Tryz.func47, Tryz.ntmps47
  go_wp2_with (go_at_call 40; refine hm.mono ?_; rintro e w' ⟨rfl, rfl⟩)
  go_ret2
  exact ⟨rfl, rfl⟩
theorem lread_up (h : Ln w F B b c st z u xs k false) (i : Int) (s : ByteArray) (er : Int) (H : Calls Tryz.prog 77 #[.pointer (some ⟨B, 0, none⟩), .int .i64 i] w fun e w' => e = .returned (.tuple #[.string s, .int .i64 er]) ∧ Below w.heap.size w w') :
    Calls Tryz.prog 47 #[.pointer (some ⟨F, 0, none⟩), .int .i64 i] w fun e w' => e = .returned (.tuple #[.string s, .int .i64 er]) ∧ Below w.heap.size w w' := by
  have hm := check_any h
  obtain ⟨c0, c1, c2, c3, c4⟩ := h.cells
  clear h
  go_enter Tryz.func47, Tryz.ntmps47
  go_wp2_with (first
    | (go_at_call 40; refine hm.mono ?_; rintro e w' ⟨rfl, rfl⟩)
    | (go_at_call 77; refine H.mono ?_; rintro e w' ⟨rfl, hb⟩))
  go_ret2
  exact ⟨rfl, hb⟩
/-- Is the first choice odd? -/
def oddF (xs : List Int) : Bool := match xs with
  | [] => false
  | x :: _ => x.tmod 2 != 0
theorem last_any (h : Ln w F B b c st z u xs k cut) : Calls Tryz.prog 103 #[.pointer (some ⟨F, 0, none⟩)] w fun e w' => e = .returned (.bool (oddF xs)) ∧ w = w' := by
  obtain ⟨c0, c1, c2, c3, c4⟩ := h.cells
  obtain ⟨a, cp, rfl, hx⟩ := h.ch
  clear h
  cases xs with
  | nil =>
    go_enter Tryz.func103, Tryz.ntmps103
    go_wp2
    go_ret
    exact ⟨rfl, rfl⟩
  | cons x l =>
    obtain ⟨ad, rfl, hlt, hc⟩ := hx 0 x rfl
    have e0 : ad.add 0 = ad := by simp [Addr.add]
    rw [e0] at hc
    clear e0 hlt
    have hpos : (0 : Int) < ((x :: l).length : Nat) := by simp
    have hpos' : 0 < (x :: l).length := by simp
    generalize (x :: l).length = n at *
    clear hx
    unfold oddF
    go_enter Tryz.func103, Tryz.ntmps103
    go_wp2
    go_ret
    exact ⟨rfl, rfl⟩
end
end Go.Proofs.YtlidieffaaicaaaGreat.Fu
