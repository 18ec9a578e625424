/- The document's device: New, Waiting, Write, Barrier. Conditions: none. -/
import Derived.Test.YtlidieffaaicaaaGreatDvQ
namespace Go.Proofs.YtlidieffaaicaaaGreat.Fu
open Go.ChangeShapes Go.WideShapes Go.RowKit Go.Maps
set_option maxRecDepth 100000
theorem info90 : (Tryz.prog.info? 75).map (fun i => (i.zero, i.size, i.bytes)) = some (some (.agg #[.string ⟨#[]⟩, .string ⟨#[]⟩, .bool false]), 3, 40) := by kernel_rfl
def sc0 : Sc := ⟨⟨#[]⟩, ⟨#[]⟩, false⟩
theorem made_get (n j : Nat) (h : j < n) : (madeCells #[.string ⟨#[]⟩, .string ⟨#[]⟩, .bool false] n)[j]? = some ((#[.string ⟨#[]⟩, .string ⟨#[]⟩, .bool false] : Array Value)[j % 3]!) := by
  simp [madeCells, h]
theorem row_made (w : World) (n : Nat) : Row (w.alloc (.cells (madeCells #[.string ⟨#[]⟩, .string ⟨#[]⟩, .bool false] (n * 3)) 75)) w.heap.size (List.replicate n sc0) := by
  refine ⟨_, Is.new _ _ _, fun i x hx => ?_⟩
  rw [List.getElem?_replicate] at hx
  split at hx
  · injection hx with hx
    subst hx
    refine ⟨?_, ?_, ?_⟩
    · rw [made_get _ _ (by omega), show i * 3 % 3 = 0 by omega]; rfl
    · rw [made_get _ _ (by omega), show (i * 3 + 1) % 3 = 1 by omega]; rfl
    · rw [made_get _ _ (by omega), show (i * 3 + 2) % 3 = 2 by omega]; rfl
  · cases hx
theorem cels_new (n : Nat) : cels (List.replicate n sc0) = fresh n := by
  unfold cels fresh
  rw [List.map_replicate]
  rfl
/-- What the document's New gives. -/
inductive RMade (w w' : World) (n : Int) : Value → Prop where
  | none (h : n < 512 ∨ 4096 < n) (hw : w = w') : RMade w w' n (.pointer none)
  | some (m B g : Nat) (hn : n = m) (h0 : 512 ≤ m) (h1 : m ≤ 4096) (hd : Rv w' B g (List.replicate m sc0)) (hB : w.heap.size ≤ B ∧ w.heap.size ≤ g) (hb : Below w.heap.size w w') : RMade w w' n (.pointer (some ⟨B, 0, none⟩))
theorem rnew_any (n : Int) (w : World) : Calls Tryz.prog 8 #[.int .i64 n] w fun e w' => ∃ v, e = .returned v ∧ RMade w w' n v := by
  by_cases h0 : n < 512
  · go_enter Tryz.func8, Tryz.ntmps8
    go_wp2
    go_ret
    exact ⟨_, rfl, .none (.inl h0) rfl⟩
  · by_cases h1 : 4096 < n
    · go_enter Tryz.func8, Tryz.ntmps8
      go_wp2
      go_ret
      exact ⟨_, rfl, .none (.inr h1) rfl⟩
    · obtain ⟨m, rfl⟩ : ∃ m : Nat, n = m := ⟨n.toNat, by omega⟩
      have hmk : (Instr.makeSlice 66 (.int .i64 (m : Int)) (.int .i64 (m : Int))).run Tryz.prog w = .ok (.slice (some ⟨w.heap.size, 0, none⟩) m m) (w.alloc (.cells (madeCells #[.string ⟨#[]⟩, .string ⟨#[]⟩, .bool false] (m * 3)) 75)) := by
        have hinfo := info90
        cases hq : Tryz.prog.info? 75 with
        | none => rw [hq] at hinfo; cases hinfo
        | some i =>
          rw [hq] at hinfo
          simp at hinfo
          obtain ⟨z, hs, hb⟩ := hinfo
          have := run_make (P := Tryz.prog) w 66 75 i _ Tryz.underlying66 hq z .i64 .i64 (m : Int) (m : Int) (by omega) (Int.le_refl _) (by rw [hb]; omega) (by omega)
          rw [this, hs]
          rfl
      have hr := row_made w m
      generalize madeCells #[.string ⟨#[]⟩, .string ⟨#[]⟩, .bool false] (m * 3) = R0 at *
      have e1 : (w.alloc (.cells R0 75)).heap.size = w.heap.size + 1 := by simp
      have n2 := Is.new (w.alloc (.cells R0 75)) 68 #[.slice (some ⟨w.heap.size, 0, none⟩) m m]
      rw [e1] at n2
      have hr2 := hr.kept (X := []) (Kp.of_below (below_alloc (Below.refl _ _) (.cells #[.slice (some ⟨w.heap.size, 0, none⟩) m m] 68)) []) (by simp)
      have hb := below_alloc (below_alloc (Below.refl w.heap.size w) (.cells R0 75)) (.cells #[.slice (some ⟨w.heap.size, 0, none⟩) m m] 68)
      have HR := Lib.hid hr2
      have HN := Lib.hid n2
      have HB := Lib.hid hb
      clear hr hr2 n2 hb e1
      go_enter Tryz.func8, Tryz.ntmps8
      go_wp2
      go_ret
      refine ⟨_, rfl, .some m (w.heap.size + 1) w.heap.size rfl (by omega) (by omega) ⟨⟨m, by rw [List.length_replicate]; exact HN.out⟩, HR.out, ?_, by simp; omega, by simp; omega⟩ ⟨by omega, by omega⟩ HB.out⟩
      intro i x hx
      rw [List.getElem?_replicate] at hx
      split at hx
      · injection hx with hx
        subst hx
        exact ⟨by decide, by decide⟩
      · cases hx
def cnt (L : List Sc) (k : Nat) : Nat := (L.take k).countP fun x => x.w
theorem cnt_succ {L : List Sc} {k : Nat} {x : Sc} (h : L[k]? = some x) : cnt L (k + 1) = cnt L k + (if x.w then 1 else 0) := by
  unfold cnt
  have hlt := (List.getElem?_eq_some_iff.1 h).1
  rw [List.take_add_one, h]
  simp [List.countP_append, List.countP_cons]
theorem cnt_le (L : List Sc) (k : Nat) : cnt L k ≤ k := by
  unfold cnt
  exact Nat.le_trans List.countP_le_length (by rw [List.length_take]; omega)
theorem cnt_all (L : List Sc) : cnt L L.length = waitsN (cels L) := by
  unfold cnt waitsN cels
  rw [List.take_length, List.countP_map]
  apply List.countP_congr
  intro x _
  simp [Sc.cel]
/-- A sector is put. -/
theorem Row.turn {w w' : World} {g : Nat} {L : List Sc} {i : Nat} {x : Sc} (h : Row w g L)
    (hc : ∀ cur, Is w g 75 cur → i * 3 + 2 < cur.size → ∃ cur', Is w' g 75 cur' ∧ (∀ j, j ≠ i * 3 → j ≠ i * 3 + 1 → j ≠ i * 3 + 2 → cur'[j]? = cur[j]?) ∧ cur'[i * 3]? = some (.string x.sure) ∧ cur'[i * 3 + 1]? = some (.string x.shows) ∧ cur'[i * 3 + 2]? = some (.bool x.w))
    (hi : i < L.length) : Row w' g (L.set i x) := by
  obtain ⟨cur, h1, h2⟩ := h
  obtain ⟨_, _, h3⟩ := h2 i _ (List.getElem?_eq_getElem hi)
  have hsz : i * 3 + 2 < cur.size := (Array.getElem?_eq_some_iff.1 h3).1
  obtain ⟨cur', n1, n2, n3, n4, n5⟩ := hc cur h1 hsz
  refine ⟨cur', n1, fun j y hy => ?_⟩
  by_cases e : i = j
  · subst e
    rw [List.getElem?_set_self hi] at hy
    injection hy with hy
    subst hy
    exact ⟨n3, n4, n5⟩
  · rw [List.getElem?_set_ne e] at hy
    obtain ⟨m1, m2, m3⟩ := h2 j y hy
    exact ⟨(n2 _ (by omega) (by omega) (by omega)).trans m1, (n2 _ (by omega) (by omega) (by omega)).trans m2, (n2 _ (by omega) (by omega) (by omega)).trans m3⟩
theorem kp_set (w : World) (g i : Nat) (u : Value) : Kp w (w.setCell ⟨g, i, none⟩ u) [g] :=
  ⟨rfl, rfl, rfl, by simp [World.setCell], fun k _ hX => Below.heap_setCell _ _ _ _ (by simpa using hX)⟩
theorem rwrite_bad {v : Value} {w : World} (i e0 : Int) (s : ByteArray) (he : e0 ≠ 0) (H : Calls Tryz.prog 30 #[v, .int .i64 i] w fun e w' => e = .returned (.int .i64 e0) ∧ w = w') :
    Calls Tryz.prog 10 #[v, .int .i64 i, .string s] w fun e w' => e = .returned (.int .i64 e0) ∧ w = w' := by
  have hb : (e0 != 0) = true := by simpa using he
  clear he
  go_enter Tryz.func10, Tryz.ntmps10
  go_wp2_with (go_at_call 30; refine H.mono ?_; rintro e w' ⟨rfl, rfl⟩)
  go_ret
  exact ⟨rfl, rfl⟩
theorem rwrite_long {w : World} {B g : Nat} {L : List Sc} (h : Rv w B g L) (i : Int) (s : ByteArray) (hi : ck L.length i = 0) (hs : 128 < s.size) :
    Calls Tryz.prog 10 #[.pointer (some ⟨B, 0, none⟩), .int .i64 i, .string s] w fun e w' => e = .returned (.int .i64 3) ∧ w = w' := by
  have hm := rhas_any h i
  rw [hi] at hm
  clear h hi
  go_enter Tryz.func10, Tryz.ntmps10
  go_wp2_with (go_at_call 30; refine hm.mono ?_; rintro e w' ⟨rfl, rfl⟩)
  go_ret
  exact ⟨rfl, rfl⟩
theorem rwrite_in {w : World} {B g : Nat} {L : List Sc} (h : Rv w B g L) {i : Nat} {x : Sc} (hx : L[i]? = some x) (s : ByteArray) (hs : s.size ≤ 128) :
    Calls Tryz.prog 10 #[.pointer (some ⟨B, 0, none⟩), .int .i64 (i : Int), .string s] w fun e w' => e = .returned (.int .i64 0) ∧ Rv w' B g (L.set i ⟨x.sure, s, true⟩) ∧ Kp w w' [g] := by
  have hm := rhas_any h (i : Int)
  have hi := (List.getElem?_eq_some_iff.1 hx).1
  rw [ck_in hi] at hm
  obtain ⟨cap, h1⟩ := h.one
  have hne := h.ne
  have k1 := kp_set w g (i * 3 + 2) (.bool true)
  have k2 := k1.trans (kp_set (w.setCell ⟨g, i * 3 + 2, none⟩ (.bool true)) g (i * 3 + 1) (.string s)) (fun y hy => .inl hy)
  have c0 := h1.cell 0
  have c0' := (k1.is h1 (by simpa using hne)).cell 0
  simp at c0 c0'
  obtain ⟨d0, d1, d2⟩ := h.row.at' hx
  have f1 := h.row.free (i * 3 + 1)
  have f2 := h.row.free (i * 3 + 2)
  have hrow : Row ((w.setCell ⟨g, i * 3 + 2, none⟩ (.bool true)).setCell ⟨g, i * 3 + 1, none⟩ (.string s)) g (L.set i ⟨x.sure, s, true⟩) := by
    refine h.row.turn (fun cur hc hz => ⟨_, (hc.put _ _).put _ _, fun j j0 j1 j2 => ?_, ?_, ?_, ?_⟩) hi
    · rw [Array.getElem?_setIfInBounds_ne (by omega), Array.getElem?_setIfInBounds_ne (by omega)]
    · rw [Array.getElem?_setIfInBounds_ne (by omega), Array.getElem?_setIfInBounds_ne (by omega)]
      exact (hc.cell _).symm.trans d0
    · rw [Array.getElem?_setIfInBounds_self_of_lt (by simp; omega)]
    · rw [Array.getElem?_setIfInBounds_ne (by omega), Array.getElem?_setIfInBounds_self_of_lt (by omega)]
  have hfin : Rv ((w.setCell ⟨g, i * 3 + 2, none⟩ (.bool true)).setCell ⟨g, i * 3 + 1, none⟩ (.string s)) B g (L.set i ⟨x.sure, s, true⟩) :=
    ⟨⟨cap, by rw [List.length_set]; exact k2.is h1 (by simpa using hne)⟩, hrow, h.small.set i _ (h.small i x hx).1 hs, by rw [List.length_set]; exact h.lo, by rw [List.length_set]; exact h.hi⟩
  have HF := Lib.hid hfin
  have HK := Lib.hid k2
  have hii : (i : Int) < (L.length : Int) := by omega
  obtain ⟨n, hn⟩ : ∃ n, L.length = n := ⟨_, rfl⟩
  rw [hn] at c0 c0' hi hii
  clear h h1 hx k1 k2 hrow hfin hn hne
  go_enter Tryz.func10, Tryz.ntmps10
  go_wp2_with (go_at_call 30; refine hm.mono ?_; rintro e w' ⟨rfl, rfl⟩)
  go_ret
  exact ⟨rfl, HF.out, HK.out⟩
end Go.Proofs.YtlidieffaaicaaaGreat.Fu
