/- The document's line to its device. Conditions: none. -/
import Derived.Test.YtlidieffaaicaaaGreatFsD
import Derived.Test.YtlidieffaaicaaaGreatDvX
namespace Go.Proofs.YtlidieffaaicaaaGreat.Fu
open Go.ChangeShapes Go.WideShapes Go.RowKit Go.Maps
set_option maxRecDepth 100000
/-- The document's line: its block, its device's blocks, its sectors, its fuse, its choices, how many acts, and whether it is cut. -/
structure Rl (W w : World) (G Bd g : Nat) (L : List Sc) (z : Int) (v : Value) (xs : List Int) (k : Nat) (cut : Bool) : Prop where
  one : Is w G 41 #[.pointer (some ⟨Bd, 0, none⟩), .int .i64 z, v, .int .i64 (k : Int), .bool cut]
  dev : Rv w Bd g L
  ch : Sw w W.heap.size v xs
  new : W.heap.size ≤ G ∧ W.heap.size ≤ Bd ∧ W.heap.size ≤ g
section
variable {W w w' : World} {G Bd g : Nat} {L L' : List Sc} {z : Int} {v : Value} {xs : List Int} {k : Nat} {cut : Bool}
theorem Rl.cells (h : Rl W w G Bd g L z v xs k cut) : w.cell? ⟨G, 0, none⟩ = some (.pointer (some ⟨Bd, 0, none⟩)) ∧ w.cell? ⟨G, 1, none⟩ = some (.int .i64 z) ∧ w.cell? ⟨G, 2, none⟩ = some v ∧ w.cell? ⟨G, 3, none⟩ = some (.int .i64 (k : Int)) ∧ w.cell? ⟨G, 4, none⟩ = some (.bool cut) := by
  refine ⟨?_, ?_, ?_, ?_, ?_⟩ <;> rw [h.one.cell] <;> rfl
theorem Rl.free (h : Rl W w G Bd g L z v xs k cut) (i : Nat) : w.frozen? ⟨G, i, none⟩ = false := h.one.frozen i
theorem Rl.ne (h : Rl W w G Bd g L z v xs k cut) : G ≠ Bd ∧ G ≠ g := by
  obtain ⟨cap, hi⟩ := h.dev.one
  obtain ⟨cur, hj, _⟩ := h.dev.row
  exact ⟨h.one.ne hi (by decide), h.one.ne hj (by decide)⟩
theorem Rl.kept {X : List Nat} (h : Rl W w G Bd g L z v xs k cut) (hk : Kp w w' X) (h1 : G ∉ X) (h2 : Bd ∉ X) (h3 : g ∉ X) (hX : ∀ y ∈ X, W.heap.size ≤ y) : Rl W w' G Bd g L z v xs k cut :=
  ⟨hk.is h.one h1, h.dev.kept hk h2 h3, h.ch.turn hk (fun y hy => .inl (hX y hy)), h.new⟩
theorem Rl.below (h : Rl W w G Bd g L z v xs k cut) (hb : Below w.heap.size w w') : Rl W w' G Bd g L z v xs k cut := h.kept (Kp.of_below hb []) (by simp) (by simp) (by simp) (by simp)
theorem Rl.drew (h : Rl W w G Bd g L z v xs k cut) : Rl W w.drew G Bd g L z v xs k cut := h.kept (X := []) (Kp.drew (Kp.refl _ _)) (by simp) (by simp) (by simp) (by simp)
theorem Rl.dev' (h : Rl W w G Bd g L z v xs k cut) (hd : Rv w' Bd g L') (hk : Kp w w' [g]) : Rl W w' G Bd g L' z v xs k cut :=
  ⟨hk.is h.one (by have := h.ne; simp; omega), hd, h.ch.turn hk (fun y hy => .inl (by have := h.new; simp at hy; omega)), h.new⟩
theorem Rl.count (h : Rl W w G Bd g L z v xs k cut) (k' : Nat) : Rl W (w.setCell ⟨G, 3, none⟩ (.int .i64 (k' : Int))) G Bd g L z v xs k' cut :=
  ⟨by have := h.one.put 3 (.int .i64 (k' : Int)); exact this, h.dev.kept (cell_kp w G 3 _) (by have := h.ne; simp; omega) (by have := h.ne; simp; omega), h.ch.turn (cell_kp w G 3 _) (fun y hy => .inl (by have := h.new; simp at hy; omega)), h.new⟩
theorem Rl.blown (h : Rl W w G Bd g L z v xs k cut) (cut' : Bool) : Rl W (w.setCell ⟨G, 4, none⟩ (.bool cut')) G Bd g L z v xs k cut' :=
  ⟨by have := h.one.put 4 (.bool cut'); exact this, h.dev.kept (cell_kp w G 4 _) (by have := h.ne; simp; omega) (by have := h.ne; simp; omega), h.ch.turn (cell_kp w G 4 _) (fun y hy => .inl (by have := h.new; simp at hy; omega)), h.new⟩
theorem rodd_any (h : Rl W w G Bd g L z v xs k cut) : Calls Tryz.prog 72 #[.pointer (some ⟨G, 0, none⟩)] w fun e w' => e = .returned (.bool (oddF xs)) ∧ w = w' := by
  obtain ⟨c0, c1, c2, c3, c4⟩ := h.cells
  obtain ⟨a, cp, rfl, hx⟩ := h.ch
  clear h
  cases xs with
  | nil =>
    go_enter Tryz.func72, Tryz.ntmps72
    go_wp2
    go_ret
    exact ⟨rfl, rfl⟩
  | cons x l =>
    obtain ⟨ad, rfl, hlt, hc⟩ := hx 0 x rfl
    have e0 : ad.add 0 = ad := by simp [Addr.add]
    rw [e0] at hc
    clear e0 hlt
    have hpos : (0 : Int) < ((x :: l).length : Nat) := by simp
    have hpos' : 0 < (x :: l).length := by simp
    generalize (x :: l).length = n at *
    clear hx
    unfold oddF
    go_enter Tryz.func72, Tryz.ntmps72
    go_wp2
    go_ret
    exact ⟨rfl, rfl⟩
theorem rblow_cut (h : Rl W w G Bd g L z v xs k true) : Calls Tryz.prog 19 #[.pointer (some ⟨G, 0, none⟩)] w fun e w' => e = .returned (.tuple #[]) ∧ w = w' := by
  obtain ⟨c0, c1, c2, c3, c4⟩ := h.cells
  clear h
  go_enter Tryz.func19, Tryz.ntmps19
  go_wp2
  refine bodyPost_ret (results_none rfl _ _ _) rfl ?_
  exact ⟨rfl, rfl⟩
theorem rblow_up (hW : W.heap.size ≤ w.heap.size) (h : Rl W w G Bd g L z v xs k false) : Calls Tryz.prog 19 #[.pointer (some ⟨G, 0, none⟩)] w
    fun e w' => e = .returned (.tuple #[]) ∧ ∃ L', cels L' = crash (cels L) xs ∧ Rl W w' G Bd g L' z v xs k true ∧ Kp w w' [G, g] := by
  have H := Lib.hid h.drew
  obtain ⟨a0, a1, a2, a3, a4⟩ := h.cells
  obtain ⟨c0, c1, c2, c3, c4⟩ := h.drew.cells
  have hcr := rcrash_any H.out.dev H.out.ch hW h.new.2.2
  clear h c1 c3 c4
  go_enter Tryz.func19, Tryz.ntmps19
  go_wp2
  go_region_with (go_at_call 41; refine hcr.mono ?_; rintro e w2 ⟨rfl, L', hL, hd, hk⟩)
  all_goals
    have H2 := Lib.hid (H.out.dev' hd hk)
    have HK := Lib.hid hk
    obtain ⟨d0, d1, d2, d3, d4⟩ := H2.out.cells
    have hf := H2.out.free 4
    clear hd hk d0 d1 d2 d3 c0 c2 a0 a1 a2 a3 a4
    go_wp2
    go_end0
    refine ⟨rfl, L', hL, H2.out.blown true, ?_⟩
    exact ((Kp.drew (Kp.refl w _)).trans (HK.out.more (Y := [G, g]) (by simp)) (fun _ hy => .inl hy)).trans (cell_kp _ _ _ _) (fun _ hy => .inl (by simp at hy; simp [hy]))
theorem rlread_cut (h : Rl W w G Bd g L z v xs k true) (i : Int) : Calls Tryz.prog 61 #[.pointer (some ⟨G, 0, none⟩), .int .i64 i] w fun e w' => e = .returned (.tuple #[.string ⟨#[]⟩, .int .i64 8]) ∧ w = w' := by
  obtain ⟨c0, c1, c2, c3, c4⟩ := h.cells
  clear h
  go_enter Tryz.func61, Tryz.ntmps61
  go_wp2
  go_ret2
  exact ⟨rfl, rfl⟩
theorem rlread_up (h : Rl W w G Bd g L z v xs k false) (i : Int) (s : ByteArray) (er : Int) (H : Calls Tryz.prog 94 #[.pointer (some ⟨Bd, 0, none⟩), .int .i64 i] w fun e w' => e = .returned (.tuple #[.string s, .int .i64 er]) ∧ Below w.heap.size w w') :
    Calls Tryz.prog 61 #[.pointer (some ⟨G, 0, none⟩), .int .i64 i] w fun e w' => e = .returned (.tuple #[.string s, .int .i64 er]) ∧ Below w.heap.size w w' := by
  obtain ⟨c0, c1, c2, c3, c4⟩ := h.cells
  clear h
  go_enter Tryz.func61, Tryz.ntmps61
  go_wp2_with (go_at_call 94; refine H.mono ?_; rintro e w' ⟨rfl, hb⟩)
  go_ret2
  exact ⟨rfl, hb⟩
theorem rlwrite_cut (h : Rl W w G Bd g L z v xs k true) (i : Int) (s : ByteArray) : Calls Tryz.prog 38 #[.pointer (some ⟨G, 0, none⟩), .int .i64 i, .string s] w fun e w' => e = .returned (.int .i64 8) ∧ w = w' := by
  obtain ⟨c0, c1, c2, c3, c4⟩ := h.cells
  clear h
  go_enter Tryz.func38, Tryz.ntmps38
  go_wp2
  go_ret
  exact ⟨rfl, rfl⟩
theorem kpG {w1 w2 : World} (h : Kp w w1 [G]) (h' : Kp w1 w2 [g]) : Kp w w2 [G, g] := (h.more (by simp)).trans (h'.more (Y := [G, g]) (by simp)) (fun _ hy => .inl hy)
theorem kpG2 {w1 w2 : World} (h : Kp w w1 [G, g]) (h' : Kp w1 w2 [G, g]) : Kp w w2 [G, g] := h.trans h' (fun _ hy => .inl hy)
set_option maxHeartbeats 1000000 in
theorem rlwrite_up (hW : W.heap.size ≤ w.heap.size) (h : Rl W w G Bd g L z v xs k false) (hk : k < 1000000) (i : Int) (s : ByteArray) : Calls Tryz.prog 38 #[.pointer (some ⟨G, 0, none⟩), .int .i64 i, .string s] w
    fun e w' => e = .returned (.int .i64 (if (k : Int) = z then 8 else errW (cels L) i s)) ∧ ∃ L', cels L' = aft (cels L) (stW (cels L) i s) xs z k ∧ Rl W w' G Bd g L' z v xs (k + 1) (decide ((k : Int) = z)) ∧ Kp w w' [G, g] := by
  have hcount := h.count (k + 1)
  obtain ⟨c0, c1, c2, c3, c4⟩ := h.cells
  have hf := h.free 3
  have ek : ((k + 1 : Nat) : Int) = (k : Int) + 1 := by omega
  rw [ek] at hcount
  obtain ⟨d0, d1, d2, d3, d4⟩ := hcount.cells
  have HK := Lib.hid (cell_kp w G 3 (.int .i64 ((k : Int) + 1)))
  have hsz : W.heap.size ≤ (w.setCell ⟨G, 3, none⟩ (.int .i64 ((k : Int) + 1))).heap.size := Nat.le_trans hW HK.out.size
  have hla := rodd_any hcount
  have HW := Lib.hid (rwrite_any hcount.dev i s)
  have HC := Lib.hid hcount
  have HB := Lib.hid (rblow_up hsz hcount)
  have HZ := Lib.hid (show ∀ w2, Kp (w.setCell ⟨G, 3, none⟩ (.int .i64 ((k : Int) + 1))) w2 [g] → W.heap.size ≤ w2.heap.size from fun w2 h2 => Nat.le_trans hsz h2.size)
  clear h hcount ek hsz hW
  by_cases hz : (k : Int) = z
  · subst hz
    cases ho : oddF xs
    · have ea : aft (cels L) (stW (cels L) i s) xs (k : Int) k = crash (cels L) xs := by unfold aft; rw [if_pos rfl, ho]; rfl
      rw [if_pos rfl, decide_eq_true rfl, ea]
      rw [ho] at hla
      clear ho ea
      go_enter Tryz.func38, Tryz.ntmps38
      go_wp2_with (first
        | (go_at_call 72; refine hla.mono ?_; rintro e w' ⟨rfl, rfl⟩)
        | (go_at_call 19; refine HB.out.mono ?_; rintro e w3 ⟨rfl, L', hL, hl, hk3⟩))
      go_ret
      exact ⟨rfl, L', hL, hl, kpG2 (HK.out.more (by simp)) hk3⟩
    · have ea : aft (cels L) (stW (cels L) i s) xs (k : Int) k = crash (stW (cels L) i s) xs := by unfold aft; rw [if_pos rfl, ho]; rfl
      rw [if_pos rfl, decide_eq_true rfl, ea]
      rw [ho] at hla
      clear ho ea
      go_enter Tryz.func38, Tryz.ntmps38
      go_wp2_with (first
        | (go_at_call 72; refine hla.mono ?_; rintro e w' ⟨rfl, rfl⟩)
        | (go_at_call 10; refine HW.out.mono ?_; rintro e w2 ⟨rfl, L2, hL2, hd2, hk2⟩; have HB2 := Lib.hid (rblow_up (HZ.out w2 hk2) (HC.out.dev' hd2 hk2)); have HK2 := Lib.hid hk2; clear hd2 hk2)
        | (go_at_call 19; refine HB2.out.mono ?_; rintro e w3 ⟨rfl, L', hL, hl, hk3⟩))
      go_ret
      exact ⟨rfl, L', by rw [hL, hL2], hl, kpG2 (kpG HK.out HK2.out) hk3⟩
  · have ea : aft (cels L) (stW (cels L) i s) xs z k = stW (cels L) i s := if_neg hz
    rw [if_neg hz, decide_eq_false hz, ea]
    clear ea
    go_enter Tryz.func38, Tryz.ntmps38
    go_wp2_with (go_at_call 10; refine HW.out.mono ?_; rintro e w2 ⟨rfl, L2, hL2, hd2, hk2⟩)
    go_ret
    exact ⟨rfl, L2, hL2, HC.out.dev' hd2 hk2, kpG HK.out hk2⟩
end
end Go.Proofs.YtlidieffaaicaaaGreat.Fu
