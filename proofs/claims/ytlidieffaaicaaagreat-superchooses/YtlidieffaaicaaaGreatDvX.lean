/- The document's device: Full, New, has, Read, Sure, Waiting. Conditions: none. The document's device: New, Waiting, Write, Barrier. Conditions: none. The document's device: Barrier. Conditions: none. The document's device: Crash. Conditions: none. The document's device: Crash walked. Conditions: none. What a write does to the document's device. Conditions: none. -/
import Derived.Test.YtlidieffaaicaaaGreatDvK
namespace Go.Proofs.YtlidieffaaicaaaGreat.Fu
open Go.ChangeShapes Go.WideShapes Go.RowKit Go.Maps
set_option maxRecDepth 100000
/-- A sector, by the document. -/
structure Sc where
  sure : ByteArray
  shows : ByteArray
  w : Bool
def Sc.cel (x : Sc) : Cel := ⟨full x.sure.data.toList, if x.w then some (full x.shows.data.toList) else none⟩
/-- What stands on the document's device. -/
def cels (L : List Sc) : List Cel := L.map Sc.cel
theorem cels_len (L : List Sc) : (cels L).length = L.length := by simp [cels]
theorem cels_get {L : List Sc} {i : Nat} {x : Sc} (h : L[i]? = some x) : (cels L)[i]? = some x.cel := by unfold cels; rw [List.getElem?_map, h]; rfl
def Small (L : List Sc) : Prop := ∀ (i : Nat) (x : Sc), L[i]? = some x → x.sure.size ≤ 128 ∧ x.shows.size ≤ 128
theorem Small.set {L : List Sc} (h : Small L) (k : Nat) (x : Sc) (h1 : x.sure.size ≤ 128) (h2 : x.shows.size ≤ 128) : Small (L.set k x) := by
  intro i y hy
  rw [List.getElem?_set] at hy
  split at hy
  · split at hy
    · injection hy with hy; subst hy; exact ⟨h1, h2⟩
    · cases hy
  · exact h i y hy
/-- The sectors lie in block g. -/
def Row (w : World) (g : Nat) (L : List Sc) : Prop := ∃ cur, Is w g 75 cur ∧ ∀ (i : Nat) (x : Sc), L[i]? = some x → cur[i * 3]? = some (.string x.sure) ∧ cur[i * 3 + 1]? = some (.string x.shows) ∧ cur[i * 3 + 2]? = some (.bool x.w)
theorem Row.lt {w : World} {g : Nat} {L : List Sc} (h : Row w g L) : g < w.heap.size := by obtain ⟨cur, hi, _⟩ := h; exact hi.lt
theorem Row.at' {w : World} {g : Nat} {L : List Sc} (h : Row w g L) {i : Nat} {x : Sc} (hx : L[i]? = some x) :
    w.cell? ⟨g, i * 3, none⟩ = some (.string x.sure) ∧ w.cell? ⟨g, i * 3 + 1, none⟩ = some (.string x.shows) ∧ w.cell? ⟨g, i * 3 + 2, none⟩ = some (.bool x.w) := by
  obtain ⟨cur, hi, hc⟩ := h
  obtain ⟨h1, h2, h3⟩ := hc i x hx
  exact ⟨(hi.cell _).trans h1, (hi.cell _).trans h2, (hi.cell _).trans h3⟩
theorem Row.free {w : World} {g : Nat} {L : List Sc} (h : Row w g L) (i : Nat) : w.frozen? ⟨g, i, none⟩ = false := by obtain ⟨cur, hi, _⟩ := h; exact hi.frozen i
theorem Row.kept {w w' : World} {g : Nat} {L : List Sc} {X : List Nat} (h : Row w g L) (hk : Kp w w' X) (hX : g ∉ X) : Row w' g L := by obtain ⟨cur, hi, hc⟩ := h; exact ⟨cur, hk.is hi hX, hc⟩
/-- A device of the document's: its struct's block, its row's block, its sectors. -/
structure Rv (w : World) (B g : Nat) (L : List Sc) : Prop where
  one : ∃ cap, Is w B 68 #[.slice (some ⟨g, 0, none⟩) L.length cap]
  row : Row w g L
  small : Small L
  lo : 512 ≤ L.length
  hi : L.length ≤ 4096
theorem Rv.kept {w w' : World} {B g : Nat} {L : List Sc} {X : List Nat} (h : Rv w B g L) (hk : Kp w w' X) (h1 : B ∉ X) (h2 : g ∉ X) : Rv w' B g L := by
  obtain ⟨cap, hi⟩ := h.one
  exact ⟨⟨cap, hk.is hi h1⟩, h.row.kept hk h2, h.small, h.lo, h.hi⟩
theorem Rv.below {w w' : World} {B g : Nat} {L : List Sc} (h : Rv w B g L) (hb : Below w.heap.size w w') : Rv w' B g L := h.kept (Kp.of_below hb []) (by simp) (by simp)
theorem Rv.drew {w : World} {B g : Nat} {L : List Sc} (h : Rv w B g L) : Rv w.drew B g L := h.kept (X := []) (Kp.drew (Kp.refl _ _)) (by simp) (by simp)
theorem Rv.ne {w : World} {B g : Nat} {L : List Sc} (h : Rv w B g L) : B ≠ g := by
  obtain ⟨cap, hi⟩ := h.one
  obtain ⟨cur, hj, _⟩ := h.row
  exact hi.ne hj (by decide)
theorem madeN (n : Nat) : madeCells #[.int .u8 0] n = cl (List.replicate n 0) := by
  apply Array.ext'
  rw [toList_madeCells_one]
  unfold cl Lib.byteCells
  rw [List.map_replicate]
  rfl
theorem make_bytes (n : Nat) (hn : n ≤ 1000) (w : World) : (Instr.makeSlice 72 (.int .i64 (n : Int)) (.int .i64 (n : Int))).run Tryz.prog w = .ok (.slice (some ⟨w.heap.size, 0, none⟩) n n) (w.alloc (.cells (cl (List.replicate n 0)) 5)) := by
  rw [← madeN]
  exact run_make_row' 72 5 (.int .u8 0) 1 Tryz.underlying72 info5 rfl .i64 .i64 n (by omega) (by omega) w
theorem rfull_any (s : ByteArray) (hs : s.size ≤ 128) (w : World) : Calls Tryz.prog 73 #[.string s] w fun e w' => e = .returned (.string (bs (full s.data.toList))) ∧ Below w.heap.size w w' := by
  obtain ⟨c, hc⟩ : ∃ c : Nat, 128 - (s.size : Int) = (c : Int) := ⟨128 - s.size, by omega⟩
  have hmk := make_bytes c (by omega) w
  have htx := row_text (k := c) (by simp) (Is.new w 5 (cl (List.replicate c 0)))
  obtain ⟨Z, eZ⟩ : ∃ Z, bs (List.replicate c 0) = Z := ⟨_, rfl⟩
  have hno : ¬ 9223372036854775807 < s.size + Z.size := by
    have : Z.size = c := by rw [← eZ]; simp [bs, ByteArray.size]
    omega
  have hb := below_alloc (Below.refl w.heap.size w) (.cells (cl (List.replicate c 0)) 5)
  have e3 : s ++ Z = bs (full s.data.toList) := by
    have e1 : c = 128 - s.data.toList.length := by rw [← Lib.size_eq]; omega
    rw [← eZ, full, ← bs_app, bs_data, ← e1]
  rw [eZ] at htx
  have E3 := Lib.hid e3
  have EB := Lib.hid hb
  clear e3 eZ hb
  generalize hR : cl (List.replicate c 0) = R0 at *
  clear hR
  go_enter Tryz.func73, Tryz.ntmps73
  go_wp2
  go_ret
  exact ⟨congrArg (fun x => Ending.returned (.string x)) E3.out, EB.out⟩
/-- The error of a place. -/
theorem rhas_nil (i : Int) (w : World) : Calls Tryz.prog 30 #[.pointer none, .int .i64 i] w fun e w' => e = .returned (.int .i64 1) ∧ w = w' := by
  go_enter Tryz.func30, Tryz.ntmps30
  go_wp2
  go_ret
  exact ⟨rfl, rfl⟩
theorem rhas_any {w : World} {B g : Nat} {L : List Sc} (h : Rv w B g L) (i : Int) : Calls Tryz.prog 30 #[.pointer (some ⟨B, 0, none⟩), .int .i64 i] w fun e w' => e = .returned (.int .i64 (ck L.length i)) ∧ w = w' := by
  obtain ⟨cap, hi⟩ := h.one
  have c0 := hi.cell 0
  simp at c0
  clear h hi
  by_cases h0 : i < 0
  · rw [show ck L.length i = 2 from if_pos (.inl h0)]
    go_enter Tryz.func30, Tryz.ntmps30
    go_wp2
    go_ret
    exact ⟨rfl, rfl⟩
  · by_cases h1 : (L.length : Int) ≤ i
    · rw [show ck L.length i = 2 from if_pos (.inr h1)]
      go_enter Tryz.func30, Tryz.ntmps30
      go_wp2
      go_ret
      exact ⟨rfl, rfl⟩
    · rw [show ck L.length i = 0 from if_neg (by omega)]
      go_enter Tryz.func30, Tryz.ntmps30
      go_wp2
      go_ret
      exact ⟨rfl, rfl⟩
theorem rread_bad {v : Value} {w : World} (i e0 : Int) (he : e0 ≠ 0) (H : Calls Tryz.prog 30 #[v, .int .i64 i] w fun e w' => e = .returned (.int .i64 e0) ∧ w = w') :
    Calls Tryz.prog 94 #[v, .int .i64 i] w fun e w' => e = .returned (.tuple #[.string ⟨#[]⟩, .int .i64 e0]) ∧ w = w' := by
  have hb : (e0 != 0) = true := by simpa using he
  clear he
  go_enter Tryz.func94, Tryz.ntmps94
  go_wp2_with (go_at_call 30; refine H.mono ?_; rintro e w' ⟨rfl, rfl⟩)
  go_ret2
  exact ⟨rfl, rfl⟩
theorem rread_in {w : World} {B g : Nat} {L : List Sc} (h : Rv w B g L) {i : Nat} {x : Sc} (hx : L[i]? = some x) :
    Calls Tryz.prog 94 #[.pointer (some ⟨B, 0, none⟩), .int .i64 (i : Int)] w fun e w' => e = .returned (.tuple #[.string (bs x.cel.r), .int .i64 0]) ∧ Below w.heap.size w w' := by
  have hm := rhas_any h (i : Int)
  have hi := (List.getElem?_eq_some_iff.1 hx).1
  rw [ck_in hi] at hm
  obtain ⟨cap, h1⟩ := h.one
  have c0 := h1.cell 0
  simp at c0
  obtain ⟨d0, d1, d2⟩ := h.row.at' hx
  obtain ⟨z0, z1⟩ := h.small i x hx
  have f0 := fun w => rfull_any x.sure z0 w
  have f1 := fun w => rfull_any x.shows z1 w
  have hii : (i : Int) < (L.length : Int) := by omega
  obtain ⟨su, sh, wt⟩ := x
  simp only at d0 d1 d2 f0 f1
  clear h h1 hx z0 z1
  obtain ⟨n, hn⟩ : ∃ n, L.length = n := ⟨_, rfl⟩
  rw [hn] at c0 hi hii
  clear hn
  cases wt with
  | true =>
    have er : (Sc.cel ⟨su, sh, true⟩).r = full sh.data.toList := rfl
    rw [er]
    go_enter Tryz.func94, Tryz.ntmps94
    go_wp2_with (first
      | (go_at_call 30; refine hm.mono ?_; rintro e w' ⟨rfl, rfl⟩)
      | (go_at_call 73; refine (f1 _).mono ?_; rintro e w1 ⟨rfl, hb⟩))
    go_ret2
    exact ⟨rfl, hb⟩
  | false =>
    have er : (Sc.cel ⟨su, sh, false⟩).r = full su.data.toList := rfl
    rw [er]
    go_enter Tryz.func94, Tryz.ntmps94
    go_wp2_with (first
      | (go_at_call 30; refine hm.mono ?_; rintro e w' ⟨rfl, rfl⟩)
      | (go_at_call 73; refine (f0 _).mono ?_; rintro e w1 ⟨rfl, hb⟩))
    go_ret2
    exact ⟨rfl, hb⟩
end Go.Proofs.YtlidieffaaicaaaGreat.Fu
namespace Go.Proofs.YtlidieffaaicaaaGreat.Fu
open Go.ChangeShapes Go.WideShapes Go.RowKit Go.Maps
set_option maxRecDepth 100000
theorem info90 : (Tryz.prog.info? 75).map (fun i => (i.zero, i.size, i.bytes)) = some (some (.agg #[.string ⟨#[]⟩, .string ⟨#[]⟩, .bool false]), 3, 40) := by kernel_rfl
def sc0 : Sc := ⟨⟨#[]⟩, ⟨#[]⟩, false⟩
theorem made_get (n j : Nat) (h : j < n) : (madeCells #[.string ⟨#[]⟩, .string ⟨#[]⟩, .bool false] n)[j]? = some ((#[.string ⟨#[]⟩, .string ⟨#[]⟩, .bool false] : Array Value)[j % 3]!) := by
  simp [madeCells, h]
theorem row_made (w : World) (n : Nat) : Row (w.alloc (.cells (madeCells #[.string ⟨#[]⟩, .string ⟨#[]⟩, .bool false] (n * 3)) 75)) w.heap.size (List.replicate n sc0) := by
  refine ⟨_, Is.new _ _ _, fun i x hx => ?_⟩
  rw [List.getElem?_replicate] at hx
  split at hx
  · injection hx with hx
    subst hx
    refine ⟨?_, ?_, ?_⟩
    · rw [made_get _ _ (by omega), show i * 3 % 3 = 0 by omega]; rfl
    · rw [made_get _ _ (by omega), show (i * 3 + 1) % 3 = 1 by omega]; rfl
    · rw [made_get _ _ (by omega), show (i * 3 + 2) % 3 = 2 by omega]; rfl
  · cases hx
theorem cels_new (n : Nat) : cels (List.replicate n sc0) = fresh n := by
  unfold cels fresh
  rw [List.map_replicate]
  rfl
/-- What the document's New gives. -/
inductive RMade (w w' : World) (n : Int) : Value → Prop where
  | none (h : n < 512 ∨ 4096 < n) (hw : w = w') : RMade w w' n (.pointer none)
  | some (m B g : Nat) (hn : n = m) (h0 : 512 ≤ m) (h1 : m ≤ 4096) (hd : Rv w' B g (List.replicate m sc0)) (hB : w.heap.size ≤ B ∧ w.heap.size ≤ g) (hb : Below w.heap.size w w') : RMade w w' n (.pointer (some ⟨B, 0, none⟩))
theorem rnew_any (n : Int) (w : World) : Calls Tryz.prog 8 #[.int .i64 n] w fun e w' => ∃ v, e = .returned v ∧ RMade w w' n v := by
  by_cases h0 : n < 512
  · go_enter Tryz.func8, Tryz.ntmps8
    go_wp2
    go_ret
    exact ⟨_, rfl, .none (.inl h0) rfl⟩
  · by_cases h1 : 4096 < n
    · go_enter Tryz.func8, Tryz.ntmps8
      go_wp2
      go_ret
      exact ⟨_, rfl, .none (.inr h1) rfl⟩
    · obtain ⟨m, rfl⟩ : ∃ m : Nat, n = m := ⟨n.toNat, by omega⟩
      have hmk : (Instr.makeSlice 66 (.int .i64 (m : Int)) (.int .i64 (m : Int))).run Tryz.prog w = .ok (.slice (some ⟨w.heap.size, 0, none⟩) m m) (w.alloc (.cells (madeCells #[.string ⟨#[]⟩, .string ⟨#[]⟩, .bool false] (m * 3)) 75)) := by
        have hinfo := info90
        cases hq : Tryz.prog.info? 75 with
        | none => rw [hq] at hinfo; cases hinfo
        | some i =>
          rw [hq] at hinfo
          simp at hinfo
          obtain ⟨z, hs, hb⟩ := hinfo
          have := run_make (P := Tryz.prog) w 66 75 i _ Tryz.underlying66 hq z .i64 .i64 (m : Int) (m : Int) (by omega) (Int.le_refl _) (by rw [hb]; omega) (by omega)
          rw [this, hs]
          rfl
      have hr := row_made w m
      generalize madeCells #[.string ⟨#[]⟩, .string ⟨#[]⟩, .bool false] (m * 3) = R0 at *
      have e1 : (w.alloc (.cells R0 75)).heap.size = w.heap.size + 1 := by simp
      have n2 := Is.new (w.alloc (.cells R0 75)) 68 #[.slice (some ⟨w.heap.size, 0, none⟩) m m]
      rw [e1] at n2
      have hr2 := hr.kept (X := []) (Kp.of_below (below_alloc (Below.refl _ _) (.cells #[.slice (some ⟨w.heap.size, 0, none⟩) m m] 68)) []) (by simp)
      have hb := below_alloc (below_alloc (Below.refl w.heap.size w) (.cells R0 75)) (.cells #[.slice (some ⟨w.heap.size, 0, none⟩) m m] 68)
      have HR := Lib.hid hr2
      have HN := Lib.hid n2
      have HB := Lib.hid hb
      clear hr hr2 n2 hb e1
      go_enter Tryz.func8, Tryz.ntmps8
      go_wp2
      go_ret
      refine ⟨_, rfl, .some m (w.heap.size + 1) w.heap.size rfl (by omega) (by omega) ⟨⟨m, by rw [List.length_replicate]; exact HN.out⟩, HR.out, ?_, by simp; omega, by simp; omega⟩ ⟨by omega, by omega⟩ HB.out⟩
      intro i x hx
      rw [List.getElem?_replicate] at hx
      split at hx
      · injection hx with hx
        subst hx
        exact ⟨by decide, by decide⟩
      · cases hx
def cnt (L : List Sc) (k : Nat) : Nat := (L.take k).countP fun x => x.w
theorem cnt_succ {L : List Sc} {k : Nat} {x : Sc} (h : L[k]? = some x) : cnt L (k + 1) = cnt L k + (if x.w then 1 else 0) := by
  unfold cnt
  have hlt := (List.getElem?_eq_some_iff.1 h).1
  rw [List.take_add_one, h]
  simp [List.countP_append, List.countP_cons]
theorem cnt_le (L : List Sc) (k : Nat) : cnt L k ≤ k := by
  unfold cnt
  exact Nat.le_trans List.countP_le_length (by rw [List.length_take]; omega)
theorem cnt_all (L : List Sc) : cnt L L.length = waitsN (cels L) := by
  unfold cnt waitsN cels
  rw [List.take_length, List.countP_map]
  apply List.countP_congr
  intro x _
  simp [Sc.cel]
/-- A sector is put. -/
theorem Row.turn {w w' : World} {g : Nat} {L : List Sc} {i : Nat} {x : Sc} (h : Row w g L)
    (hc : ∀ cur, Is w g 75 cur → i * 3 + 2 < cur.size → ∃ cur', Is w' g 75 cur' ∧ (∀ j, j ≠ i * 3 → j ≠ i * 3 + 1 → j ≠ i * 3 + 2 → cur'[j]? = cur[j]?) ∧ cur'[i * 3]? = some (.string x.sure) ∧ cur'[i * 3 + 1]? = some (.string x.shows) ∧ cur'[i * 3 + 2]? = some (.bool x.w))
    (hi : i < L.length) : Row w' g (L.set i x) := by
  obtain ⟨cur, h1, h2⟩ := h
  obtain ⟨_, _, h3⟩ := h2 i _ (List.getElem?_eq_getElem hi)
  have hsz : i * 3 + 2 < cur.size := (Array.getElem?_eq_some_iff.1 h3).1
  obtain ⟨cur', n1, n2, n3, n4, n5⟩ := hc cur h1 hsz
  refine ⟨cur', n1, fun j y hy => ?_⟩
  by_cases e : i = j
  · subst e
    rw [List.getElem?_set_self hi] at hy
    injection hy with hy
    subst hy
    exact ⟨n3, n4, n5⟩
  · rw [List.getElem?_set_ne e] at hy
    obtain ⟨m1, m2, m3⟩ := h2 j y hy
    exact ⟨(n2 _ (by omega) (by omega) (by omega)).trans m1, (n2 _ (by omega) (by omega) (by omega)).trans m2, (n2 _ (by omega) (by omega) (by omega)).trans m3⟩
theorem kp_set (w : World) (g i : Nat) (u : Value) : Kp w (w.setCell ⟨g, i, none⟩ u) [g] :=
  ⟨rfl, rfl, rfl, by simp [World.setCell], fun k _ hX => Below.heap_setCell _ _ _ _ (by simpa using hX)⟩
theorem rwrite_bad {v : Value} {w : World} (i e0 : Int) (s : ByteArray) (he : e0 ≠ 0) (H : Calls Tryz.prog 30 #[v, .int .i64 i] w fun e w' => e = .returned (.int .i64 e0) ∧ w = w') :
    Calls Tryz.prog 10 #[v, .int .i64 i, .string s] w fun e w' => e = .returned (.int .i64 e0) ∧ w = w' := by
  have hb : (e0 != 0) = true := by simpa using he
  clear he
  go_enter Tryz.func10, Tryz.ntmps10
  go_wp2_with (go_at_call 30; refine H.mono ?_; rintro e w' ⟨rfl, rfl⟩)
  go_ret
  exact ⟨rfl, rfl⟩
theorem rwrite_long {w : World} {B g : Nat} {L : List Sc} (h : Rv w B g L) (i : Int) (s : ByteArray) (hi : ck L.length i = 0) (hs : 128 < s.size) :
    Calls Tryz.prog 10 #[.pointer (some ⟨B, 0, none⟩), .int .i64 i, .string s] w fun e w' => e = .returned (.int .i64 3) ∧ w = w' := by
  have hm := rhas_any h i
  rw [hi] at hm
  clear h hi
  go_enter Tryz.func10, Tryz.ntmps10
  go_wp2_with (go_at_call 30; refine hm.mono ?_; rintro e w' ⟨rfl, rfl⟩)
  go_ret
  exact ⟨rfl, rfl⟩
theorem rwrite_in {w : World} {B g : Nat} {L : List Sc} (h : Rv w B g L) {i : Nat} {x : Sc} (hx : L[i]? = some x) (s : ByteArray) (hs : s.size ≤ 128) :
    Calls Tryz.prog 10 #[.pointer (some ⟨B, 0, none⟩), .int .i64 (i : Int), .string s] w fun e w' => e = .returned (.int .i64 0) ∧ Rv w' B g (L.set i ⟨x.sure, s, true⟩) ∧ Kp w w' [g] := by
  have hm := rhas_any h (i : Int)
  have hi := (List.getElem?_eq_some_iff.1 hx).1
  rw [ck_in hi] at hm
  obtain ⟨cap, h1⟩ := h.one
  have hne := h.ne
  have k1 := kp_set w g (i * 3 + 2) (.bool true)
  have k2 := k1.trans (kp_set (w.setCell ⟨g, i * 3 + 2, none⟩ (.bool true)) g (i * 3 + 1) (.string s)) (fun y hy => .inl hy)
  have c0 := h1.cell 0
  have c0' := (k1.is h1 (by simpa using hne)).cell 0
  simp at c0 c0'
  obtain ⟨d0, d1, d2⟩ := h.row.at' hx
  have f1 := h.row.free (i * 3 + 1)
  have f2 := h.row.free (i * 3 + 2)
  have hrow : Row ((w.setCell ⟨g, i * 3 + 2, none⟩ (.bool true)).setCell ⟨g, i * 3 + 1, none⟩ (.string s)) g (L.set i ⟨x.sure, s, true⟩) := by
    refine h.row.turn (fun cur hc hz => ⟨_, (hc.put _ _).put _ _, fun j j0 j1 j2 => ?_, ?_, ?_, ?_⟩) hi
    · rw [Array.getElem?_setIfInBounds_ne (by omega), Array.getElem?_setIfInBounds_ne (by omega)]
    · rw [Array.getElem?_setIfInBounds_ne (by omega), Array.getElem?_setIfInBounds_ne (by omega)]
      exact (hc.cell _).symm.trans d0
    · rw [Array.getElem?_setIfInBounds_self_of_lt (by simp; omega)]
    · rw [Array.getElem?_setIfInBounds_ne (by omega), Array.getElem?_setIfInBounds_self_of_lt (by omega)]
  have hfin : Rv ((w.setCell ⟨g, i * 3 + 2, none⟩ (.bool true)).setCell ⟨g, i * 3 + 1, none⟩ (.string s)) B g (L.set i ⟨x.sure, s, true⟩) :=
    ⟨⟨cap, by rw [List.length_set]; exact k2.is h1 (by simpa using hne)⟩, hrow, h.small.set i _ (h.small i x hx).1 hs, by rw [List.length_set]; exact h.lo, by rw [List.length_set]; exact h.hi⟩
  have HF := Lib.hid hfin
  have HK := Lib.hid k2
  have hii : (i : Int) < (L.length : Int) := by omega
  obtain ⟨n, hn⟩ : ∃ n, L.length = n := ⟨_, rfl⟩
  rw [hn] at c0 c0' hi hii
  clear h h1 hx k1 k2 hrow hfin hn hne
  go_enter Tryz.func10, Tryz.ntmps10
  go_wp2_with (go_at_call 30; refine hm.mono ?_; rintro e w' ⟨rfl, rfl⟩)
  go_ret
  exact ⟨rfl, HF.out, HK.out⟩
end Go.Proofs.YtlidieffaaicaaaGreat.Fu
namespace Go.Proofs.YtlidieffaaicaaaGreat.Fu
open Go.ChangeShapes Go.WideShapes Go.RowKit Go.Maps
set_option maxRecDepth 100000
/-- The first k are settled, if they wait. -/
def rbar (L : List Sc) (k : Nat) : List Sc := L.mapIdx fun i x => if i < k ∧ x.w = true then ⟨x.shows, ⟨#[]⟩, false⟩ else x
theorem rbar_get (L : List Sc) (k i : Nat) : (rbar L k)[i]? = L[i]?.map fun x => if i < k ∧ x.w = true then ⟨x.shows, ⟨#[]⟩, false⟩ else x := by simp [rbar]
theorem rbar_len (L : List Sc) (k : Nat) : (rbar L k).length = L.length := by simp [rbar]
theorem rbar_zero (L : List Sc) : rbar L 0 = L := by
  apply List.ext_getElem?
  intro i
  rw [rbar_get]
  cases L[i]? <;> simp
theorem rbar_all (L : List Sc) : cels (rbar L L.length) = bar (cels L) := by
  apply List.ext_getElem?
  intro i
  unfold cels bar
  rw [List.getElem?_map, List.getElem?_map, List.getElem?_map, rbar_get]
  cases hx : L[i]? with
  | none => rfl
  | some x =>
    have hi := (List.getElem?_eq_some_iff.1 hx).1
    obtain ⟨a, b, c⟩ := x
    cases c <;> simp [Sc.cel, Cel.r, hi]
theorem rbar_yes {L : List Sc} {k : Nat} {x : Sc} (hx : L[k]? = some x) (hw : x.w = true) : (rbar L k).set k ⟨x.shows, ⟨#[]⟩, false⟩ = rbar L (k + 1) := by
  have hk := (List.getElem?_eq_some_iff.1 hx).1
  apply List.ext_getElem?
  intro i
  rw [rbar_get, List.getElem?_set, rbar_len]
  by_cases e : k = i
  · subst e
    rw [if_pos rfl, if_pos hk, hx]
    simp [hw]
  · rw [if_neg e, rbar_get]
    have hiff : (i < k + 1) ↔ (i < k) := by omega
    simp only [hiff]
theorem rbar_no {L : List Sc} {k : Nat} {x : Sc} (hx : L[k]? = some x) (hw : x.w = false) : rbar L k = rbar L (k + 1) := by
  apply List.ext_getElem?
  intro i
  rw [rbar_get, rbar_get]
  by_cases e : k = i
  · subst e
    rw [hx]
    simp [hw]
  · have hiff : (i < k + 1) ↔ (i < k) := by omega
    simp only [hiff]
theorem rbar_next {L : List Sc} {k : Nat} {x : Sc} (hx : L[k]? = some x) : (rbar L k)[k]? = some x := by rw [rbar_get, hx]; simp
theorem rbarrier_nil (w : World) : Calls Tryz.prog 12 #[.pointer none] w fun e w' => e = .returned (.tuple #[]) ∧ w = w' := by
  go_enter Tryz.func12, Tryz.ntmps12
  go_wp2
  refine bodyPost_ret (results_none rfl _ _ _) rfl ?_
  exact ⟨rfl, rfl⟩
abbrev put3 (w : World) (g i : Nat) (a b c : Value) : World := ((w.setCell ⟨g, i * 3, none⟩ a).setCell ⟨g, i * 3 + 1, none⟩ b).setCell ⟨g, i * 3 + 2, none⟩ c
theorem kp_put3 (w : World) (g i : Nat) (a b c : Value) : Kp w (put3 w g i a b c) [g] :=
  ((kp_set _ _ _ _).trans (kp_set _ _ _ _) (fun _ hy => .inl hy)).trans (kp_set _ _ _ _) (fun _ hy => .inl hy)
/-- A sector is put whole. -/
theorem Rv.put {w : World} {B g : Nat} {L : List Sc} (h : Rv w B g L) {i : Nat} (hi : i < L.length) (x : Sc) (h1 : x.sure.size ≤ 128) (h2 : x.shows.size ≤ 128) :
    Rv (put3 w g i (.string x.sure) (.string x.shows) (.bool x.w)) B g (L.set i x) := by
  obtain ⟨cap, ho⟩ := h.one
  refine ⟨⟨cap, by rw [List.length_set]; exact (kp_put3 w g i _ _ _).is ho (by simpa using h.ne)⟩, ?_, h.small.set i x h1 h2, by rw [List.length_set]; exact h.lo, by rw [List.length_set]; exact h.hi⟩
  refine h.row.turn (fun cur hc hz => ⟨_, ((hc.put _ _).put _ _).put _ _, fun j j0 j1 j2 => ?_, ?_, ?_, ?_⟩) hi
  · rw [Array.getElem?_setIfInBounds_ne (by omega), Array.getElem?_setIfInBounds_ne (by omega), Array.getElem?_setIfInBounds_ne (by omega)]
  · rw [Array.getElem?_setIfInBounds_ne (by omega), Array.getElem?_setIfInBounds_ne (by omega), Array.getElem?_setIfInBounds_self_of_lt (by omega)]
  · rw [Array.getElem?_setIfInBounds_ne (by omega), Array.getElem?_setIfInBounds_self_of_lt (by simp; omega)]
  · rw [Array.getElem?_setIfInBounds_self_of_lt (by simp; omega)]
/-- How a barrier's loop stands. -/
structure Rb (w : World) (B g : Nat) (L : List Sc) (k : Nat) (wr : World) : Prop where
  dev : Rv wr B g (rbar L k)
  kp : Kp w wr [g]
set_option maxHeartbeats 4000000 in
theorem rbarrier_any {w : World} {B g : Nat} {L : List Sc} (h : Rv w B g L) : Calls Tryz.prog 12 #[.pointer (some ⟨B, 0, none⟩)] w
    fun e w' => e = .returned (.tuple #[]) ∧ ∃ L', cels L' = bar (cels L) ∧ Rv w' B g L' ∧ Kp w w' [g] := by
  have h0 : Rb w B g L 0 w := ⟨by rw [rbar_zero]; exact h, Kp.refl _ _⟩
  have hhi := h.hi
  obtain ⟨n, hn⟩ : ∃ n, L.length = n := ⟨_, rfl⟩
  have HN := Lib.hid hn
  rw [hn] at hhi
  have H0 := Lib.hid h0
  clear h h0 hn
  go_enter Tryz.func12, Tryz.ntmps12
  go_wp2
  go_loopw [2] (fun i wr => ∃ k : Nat, i = .int .i64 (k : Int) ∧ k ≤ n ∧ Rb w B g L k wr) (fun i _ => n - (RowKit.intOf i).toNat)
  case atStart => exact ⟨0, rfl, Nat.zero_le _, H0.out⟩
  case round =>
    obtain ⟨k, rfl, hkn, hb⟩ := hrel
    obtain ⟨cap, h1⟩ := hb.dev.one
    rw [rbar_len, HN.out] at h1
    have c0 := h1.cell 0
    simp at c0
    by_cases hlt : k < n
    · obtain ⟨x, hx⟩ : ∃ x, L[k]? = some x := ⟨_, List.getElem?_eq_getElem (by rw [HN.out]; exact hlt)⟩
      obtain ⟨d0, d1, d2⟩ := hb.dev.row.at' (rbar_next hx)
      have hki : (k : Int) < (n : Int) := by omega
      cases hw : x.w with
      | true =>
        have hdr := hb.dev.drew
        have hz := hb.dev.small k x (rbar_next hx)
        have hput := hdr.put (i := k) (by rw [rbar_len, HN.out]; exact hlt) ⟨x.shows, ⟨#[]⟩, false⟩ hz.2 (show ByteArray.size ⟨#[]⟩ ≤ 128 from by decide)
        rw [rbar_yes hx hw] at hput
        have hkk : Kp w (put3 wr.drew g k (.string x.shows) (.string ⟨#[]⟩) (.bool false)) [g] := hb.kp.drew.trans (kp_put3 _ _ _ _ _ _) (fun y hy => .inl hy)
        have f0 := hb.dev.row.free (k * 3)
        have f1 := hb.dev.row.free (k * 3 + 1)
        have f2 := hb.dev.row.free (k * 3 + 2)
        have HP := Lib.hid hput
        have HK := Lib.hid hkk
        rw [hw] at d2
        obtain ⟨su, sh, wt⟩ := x
        simp only at d0 d1 hw
        clear hput hkk hdr hb hz h1 hx
        clear hw
        go_wp2
        go_region
        go_wp2
        go_roundw
        case rel => exact ⟨k + 1, by go_num, by omega, HP.out, HK.out⟩
        case measure => simp [RowKit.intOf]; omega
      | false =>
        have hnx : Rb w B g L (k + 1) wr := ⟨by rw [← rbar_no hx hw]; exact hb.dev, hb.kp⟩
        have HX := Lib.hid hnx
        rw [hw] at d2
        clear hnx hb h1 hx hw d0 d1
        go_wp2
        go_roundw
        case rel => exact ⟨k + 1, by go_num, by omega, HX.out⟩
        case measure => simp [RowKit.intOf]; omega
    · obtain rfl : k = n := by omega
      have HB := Lib.hid hb
      clear hb h1
      go_wp2
      go_end0
      exact ⟨rfl, rbar L k, by rw [← HN.out]; exact rbar_all L, HB.out.dev, HB.out.kp⟩
end Go.Proofs.YtlidieffaaicaaaGreat.Fu
namespace Go.Proofs.YtlidieffaaicaaaGreat.Fu
open Go.ChangeShapes Go.WideShapes Go.RowKit Go.Maps
set_option maxRecDepth 100000
theorem full_full {l : List UInt8} (h : l.length = 128) : full l = l := by unfold full; rw [h]; simp
/-- The text that a crash leaves. -/
def tx (x : Sc) (n : Nat) : ByteArray := bs (tornL (full x.sure.data.toList) (full x.shows.data.toList) n)
def rcr (L : List Sc) (xs : List Int) (k : Nat) : List Sc := L.mapIdx fun i x => if i < k ∧ x.w = true then ⟨tx x (kp xs (cnt L i)), ⟨#[]⟩, false⟩ else x
theorem rcr_get (L : List Sc) (xs : List Int) (k i : Nat) : (rcr L xs k)[i]? = L[i]?.map fun x => if i < k ∧ x.w = true then ⟨tx x (kp xs (cnt L i)), ⟨#[]⟩, false⟩ else x := by simp [rcr]
theorem rcr_len (L : List Sc) (xs : List Int) (k : Nat) : (rcr L xs k).length = L.length := by simp [rcr]
theorem rcr_zero (L : List Sc) (xs : List Int) : rcr L xs 0 = L := by
  apply List.ext_getElem?
  intro i
  rw [rcr_get]
  cases L[i]? <;> simp
theorem rcr_yes {L : List Sc} {xs : List Int} {k : Nat} {x : Sc} (hx : L[k]? = some x) (hw : x.w = true) : (rcr L xs k).set k ⟨tx x (kp xs (cnt L k)), ⟨#[]⟩, false⟩ = rcr L xs (k + 1) := by
  have hk := (List.getElem?_eq_some_iff.1 hx).1
  apply List.ext_getElem?
  intro i
  rw [rcr_get, List.getElem?_set, rcr_len]
  by_cases e : k = i
  · subst e
    rw [if_pos rfl, if_pos hk, hx]
    simp [hw]
  · rw [if_neg e, rcr_get]
    have hiff : (i < k + 1) ↔ (i < k) := by omega
    simp only [hiff]
theorem rcr_no {L : List Sc} {xs : List Int} {k : Nat} {x : Sc} (hx : L[k]? = some x) (hw : x.w = false) : rcr L xs k = rcr L xs (k + 1) := by
  apply List.ext_getElem?
  intro i
  rw [rcr_get, rcr_get]
  by_cases e : k = i
  · subst e
    rw [hx]
    simp [hw]
  · have hiff : (i < k + 1) ↔ (i < k) := by omega
    simp only [hiff]
theorem rcr_next {L : List Sc} {xs : List Int} {k : Nat} {x : Sc} (hx : L[k]? = some x) : (rcr L xs k)[k]? = some x := by rw [rcr_get, hx]; simp
theorem waits_cels (L : List Sc) (i : Nat) : (((cels L)[i]?).map fun c => c.t.isSome).getD false = ((L[i]?).map fun x => x.w).getD false := by
  unfold cels
  rw [List.getElem?_map]
  cases L[i]? with
  | none => rfl
  | some x => obtain ⟨a, b, c⟩ := x; cases c <;> rfl
theorem cnt_filter (L : List Sc) : ∀ k, k ≤ L.length → ((List.range k).filter fun i => ((L[i]?).map fun x => x.w).getD false).length = cnt L k
  | 0, _ => rfl
  | k + 1, h => by
    have hx := List.getElem?_eq_getElem (show k < L.length by omega)
    rw [List.range_succ, List.filter_append, List.length_append, cnt_filter L k (by omega), cnt_succ hx]
    congr 1
    rw [List.filter_cons, hx]
    cases h : L[k].w <;> simp [h]
theorem order_rank {L : List Sc} {i : Nat} {x : Sc} (hx : L[i]? = some x) (hw : x.w = true) : (order (cels L))[cnt L i]? = some i := by
  have hi := (List.getElem?_eq_some_iff.1 hx).1
  unfold order
  rw [cels_len]
  have e : ((List.range L.length).filter fun i => (((cels L)[i]?).map fun c => c.t.isSome).getD false) = (List.range L.length).filter fun i => ((L[i]?).map fun x => x.w).getD false := by
    apply List.filter_congr
    intro j _
    exact waits_cels L j
  rw [e]
  have hr : List.range L.length = List.range i ++ (i :: (List.range L.length).drop (i + 1)) := by
    have h1 := (List.take_append_drop i (List.range L.length)).symm
    rw [List.take_range, Nat.min_eq_left (by omega), List.drop_eq_getElem_cons (by simpa using hi), List.getElem_range] at h1
    exact h1
  rw [hr, List.filter_append, ← cnt_filter L i (by omega), List.getElem?_append_right (Nat.le_refl _), Nat.sub_self, List.filter_cons, hx]
  simp [hw]
theorem rcr_all {L : List Sc} (hsm : Small L) (xs : List Int) : cels (rcr L xs L.length) = crash (cels L) xs := by
  apply List.ext_getElem?
  intro i
  unfold cels
  rw [List.getElem?_map, rcr_get]
  cases hx : L[i]? with
  | none =>
    rw [List.getElem?_eq_none]
    · rfl
    · rw [crash_len, List.length_map]
      exact List.getElem?_eq_none_iff.1 hx
  | some x =>
    have hi := (List.getElem?_eq_some_iff.1 hx).1
    have hc : (List.map Sc.cel L)[i]? = some x.cel := cels_get hx
    cases hw : x.w with
    | false =>
      obtain ⟨c', h1, h2, h3⟩ := crash_get (List.map Sc.cel L) xs hc
      rw [h1]
      rcases h3 with ⟨_, rfl⟩ | ⟨j, t, h4, _⟩
      · simp [hw]
      · unfold Sc.cel at h4
        rw [hw] at h4
        cases h4
    | true =>
      have ho := order_rank hx hw
      have hd := crN_done xs ho hc (order (cels L)).length (List.getElem?_eq_some_iff.1 ho).1
      show _ = (crN (List.map Sc.cel L) xs (order (List.map Sc.cel L)).length)[i]?
      unfold cels at hd
      rw [hd]
      have hk := kp_le xs (cnt L i)
      simp only [Option.map_some, hi, hw, and_self, if_true]
      unfold Cel.torn Cel.r Sc.cel
      obtain ⟨z0, z1⟩ := hsm i x hx
      have l0 : (full x.sure.data.toList).length = 128 := full_len (by rw [← Lib.size_eq]; exact z0)
      have l1 : (full x.shows.data.toList).length = 128 := full_len (by rw [← Lib.size_eq]; exact z1)
      have hT := tornL_len l0 l1 hk
      have e : full (tx x (kp xs (cnt L i))).data.toList = tornL (full x.sure.data.toList) (full x.shows.data.toList) (kp xs (cnt L i)) := by
        have : (tx x (kp xs (cnt L i))).data.toList = tornL (full x.sure.data.toList) (full x.shows.data.toList) (kp xs (cnt L i)) := by simp [tx, bs]
        rw [this, full_full hT]
      simp [e, hw]
theorem tx_size {x : Sc} (h0 : x.sure.size ≤ 128) (h1 : x.shows.size ≤ 128) {n : Nat} (hn : n ≤ 128) : (tx x n).size = 128 := by
  have l0 : (full x.sure.data.toList).length = 128 := full_len (by rw [← Lib.size_eq]; exact h0)
  have l1 : (full x.shows.data.toList).length = 128 := full_len (by rw [← Lib.size_eq]; exact h1)
  have := tornL_len l0 l1 hn
  simpa [tx, bs, ByteArray.size] using this
theorem tx_cut {x : Sc} (h0 : x.sure.size ≤ 128) {n : Nat} : (bs (full x.shows.data.toList)).extract 0 n ++ (bs (full x.sure.data.toList)).extract n 128 = tx x n := by
  have l0 : (full x.sure.data.toList).length = 128 := full_len (by rw [← Lib.size_eq]; exact h0)
  apply ByteArray.ext
  apply Array.toList_inj.1
  simp [bs, tx, tornL]
  rw [List.take_of_length_le (by rw [List.length_drop]; omega)]
theorem rcrash_nil (u : Value) (w : World) : Calls Tryz.prog 41 #[.pointer none, u] w fun e w' => e = .returned (.tuple #[]) ∧ w = w' := by
  go_enter Tryz.func41, Tryz.ntmps41
  go_wp2
  refine bodyPost_ret (results_none rfl _ _ _) rfl ?_
  exact ⟨rfl, rfl⟩
end Go.Proofs.YtlidieffaaicaaaGreat.Fu
namespace Go.Proofs.YtlidieffaaicaaaGreat.Fu
open Go.ChangeShapes Go.WideShapes Go.RowKit Go.Maps
set_option maxRecDepth 100000
/-- How a crash's loop stands. -/
structure Rc (w : World) (B0 B g : Nat) (L : List Sc) (u : Value) (xs : List Int) (k : Nat) (wr : World) : Prop where
  dev : Rv wr B g (rcr L xs k)
  kp : Kp w wr [g]
  sw : Sw wr B0 u xs
theorem lt_of_tmod {i n : Nat} : (i : Int).tmod (n : Int) = ((i % n : Nat) : Int) := by rw [Int.ofNat_tmod]
set_option maxHeartbeats 8000000 in
theorem rcrash_any {w : World} {B0 B g : Nat} {L : List Sc} {u : Value} {xs : List Int} (h : Rv w B g L) (hu : Sw w B0 u xs) (hB0 : B0 ≤ w.heap.size) (hg0 : B0 ≤ g) : Calls Tryz.prog 41 #[.pointer (some ⟨B, 0, none⟩), u] w
    fun e w' => e = .returned (.tuple #[]) ∧ ∃ L', cels L' = crash (cels L) xs ∧ Rv w' B g L' ∧ Kp w w' [g] := by
  have hall : cels (rcr L xs L.length) = crash (cels L) xs := rcr_all h.small xs
  have h0 : Rc w B0 B g L u xs 0 w := ⟨by rw [rcr_zero]; exact h, Kp.refl _ _, hu⟩
  have hhi := h.hi
  have hsm := h.small
  have hu0 := hu
  obtain ⟨ua, ucap, rfl, -⟩ := hu0
  obtain ⟨n, hn⟩ : ∃ n, L.length = n := ⟨_, rfl⟩
  obtain ⟨m, hm⟩ : ∃ m, xs.length = m := ⟨_, rfl⟩
  have HN := Lib.hid hn
  have HM := Lib.hid hm
  rw [hn] at hhi hall
  have HALL := Lib.hid hall
  have HSM := Lib.hid hsm
  have H0 := Lib.hid h0
  have HG := Lib.hid hg0
  have HB := Lib.hid hB0
  clear h h0 hn hall hsm hu hB0 hg0
  rw [hm] at H0 ⊢
  clear hm
  go_enter Tryz.func41, Tryz.ntmps41
  go_wp2
  go_loopw [4, 5] (fun q i wr => ∃ k : Nat, i = .int .i64 (k : Int) ∧ q = .int .i64 (cnt L k : Nat) ∧ k ≤ n ∧ Rc w B0 B g L (.slice ua m ucap) xs k wr) (fun _ i _ => n - (RowKit.intOf i).toNat)
  case atStart => exact ⟨0, rfl, rfl, Nat.zero_le _, H0.out⟩
  case round =>
    obtain ⟨k, rfl, rfl, hkn, hb⟩ := hrel
    obtain ⟨cap, h1⟩ := hb.dev.one
    rw [rcr_len, HN.out] at h1
    have c0 := h1.cell 0
    simp at c0
    have hle := cnt_le L k
    by_cases hlt : k < n
    · obtain ⟨x, hx⟩ : ∃ x, L[k]? = some x := ⟨_, List.getElem?_eq_getElem (by rw [HN.out]; exact hlt)⟩
      obtain ⟨d0, d1, d2⟩ := hb.dev.row.at' (rcr_next hx)
      have hki : (k : Int) < (n : Int) := by omega
      have hcs := cnt_succ hx
      cases hw : x.w with
      | false =>
        have hnx : Rc w B0 B g L (.slice ua m ucap) xs (k + 1) wr := ⟨by rw [← rcr_no hx hw]; exact hb.dev, hb.kp, hb.sw⟩
        have HX := Lib.hid hnx
        rw [hw] at d2 hcs
        have HCS := Lib.hid hcs
        clear hnx hb h1 hx hw d0 d1 hcs
        obtain ⟨q, hq⟩ : ∃ q, cnt L k = q := ⟨_, rfl⟩
        have HQ := Lib.hid hq
        rw [hq] at hle ⊢
        clear hq
        go_wp2
        go_roundw
        case rel => exact ⟨k + 1, by go_num, by rw [HCS.out, HQ.out]; simp, by omega, HX.out⟩
        case measure => simp [RowKit.intOf]; omega
      | true =>
        obtain ⟨z0, z1⟩ := HSM.out k x hx
        have hkp := kp_le xs (cnt L k)
        have hkd : kp xs (cnt L k) = match xs[cnt L k % xs.length]? with | none => 0 | some z => min (z % 130).toNat 128 := rfl
        rw [hw] at hcs
        obtain ⟨q, hq⟩ : ∃ q, cnt L k = q := ⟨_, rfl⟩
        obtain ⟨K, hK⟩ : ∃ K, kp xs (cnt L k) = K := ⟨_, rfl⟩
        have hts : (tx x K).size = 128 := tx_size z0 z1 (by omega)
        have htc := tx_cut (x := x) z0 (n := K)
        obtain ⟨T, hT⟩ : ∃ T, tx x K = T := ⟨_, rfl⟩
        have hend : ∀ w2, Below wr.heap.size wr w2 → Rc w B0 B g L (.slice ua m ucap) xs (k + 1) (put3 w2.drew g k (.string T) (.string ⟨#[]⟩) (.bool false)) := fun w2 hb2 => by
          have hd2 := (hb.dev.below hb2).drew
          have hp := hd2.put (i := k) (by rw [rcr_len, HN.out]; exact hlt) ⟨tx x K, ⟨#[]⟩, false⟩ (by rw [hts]; exact Nat.le_refl _) (show ByteArray.size ⟨#[]⟩ ≤ 128 from by decide)
          rw [← hK, rcr_yes hx hw, hK, hT] at hp
          have k12 : Kp wr (put3 w2.drew g k (.string T) (.string ⟨#[]⟩) (.bool false)) [g] := ((Kp.of_below hb2 [g]).drew).trans (kp_put3 _ _ _ _ _ _) (fun _ hy => .inl hy)
          have hwr := hb.kp.size
          have hB0 := HB.out
          exact ⟨hp, hb.kp.trans k12 (fun _ hy => .inl hy), hb.sw.kept (k12.below (by omega) (fun y hy => by have := HG.out; simp at hy; omega))⟩
        have hcell : ∀ w2, Below wr.heap.size wr w2 → (w2.cell? ⟨B, 0, none⟩ = some (.slice (some ⟨g, 0, none⟩) n cap) ∧ w2.cell? ⟨g, k * 3, none⟩ = some (.string x.sure) ∧ w2.cell? ⟨g, k * 3 + 1, none⟩ = some (.string x.shows)) ∧
            w2.cell? ⟨g, k * 3 + 2, none⟩ = some (.bool true) ∧ w2.frozen? ⟨g, k * 3, none⟩ = false ∧ w2.frozen? ⟨g, k * 3 + 1, none⟩ = false ∧ w2.frozen? ⟨g, k * 3 + 2, none⟩ = false := fun w2 hb2 => by
          have hd2 := hb.dev.below hb2
          obtain ⟨e0, e1, e2⟩ := hd2.row.at' (rcr_next hx)
          rw [hw] at e2
          have hi2 := (Kp.of_below hb2 []).is h1 (by simp)
          have c0' := hi2.cell 0
          simp at c0'
          exact ⟨⟨c0', e0, e1⟩, e2, hd2.row.free _, hd2.row.free _, hd2.row.free _⟩
        have hsw := hb.sw
        rw [hT] at htc hts
        have fA := fun w => rfull_any x.shows z1 w
        have fB := fun w => rfull_any x.sure z0 w
        have zA : (bs (full x.shows.data.toList)).size = 128 := (by simp [bs, ByteArray.size]; exact full_len (by rw [← Lib.size_eq]; exact z1))
        have zB : (bs (full x.sure.data.toList)).size = 128 := (by simp [bs, ByteArray.size]; exact full_len (by rw [← Lib.size_eq]; exact z0))
        obtain ⟨A, hA⟩ : ∃ A, bs (full x.shows.data.toList) = A := ⟨_, rfl⟩
        obtain ⟨D, hD⟩ : ∃ D, bs (full x.sure.data.toList) = D := ⟨_, rfl⟩
        rw [hA] at htc fA zA
        rw [hD] at htc fB zB
        have HE := Lib.hid hend
        have HC := Lib.hid hcell
        have HCS := Lib.hid hcs
        have HFA := Lib.hid fA
        have HFB := Lib.hid fB
        have HQ := Lib.hid hq
        rw [hw] at d2
        rw [hq] at hkd hK hle ⊢
        rw [hkd, HM.out] at hK
        obtain ⟨U, hU⟩ : ∃ U, A.extract 0 K = U := ⟨_, rfl⟩
        obtain ⟨V, hV⟩ : ∃ V, D.extract K 128 = V := ⟨_, rfl⟩
        rw [hU, hV] at htc
        have hno : ¬ 9223372036854775807 < U.size + V.size := by
          have : (U ++ V).size = 128 := by rw [htc]; exact hts
          rw [ByteArray.size_append] at this
          omega
        have HH1 := Lib.hid h1
        have HTS := Lib.hid hts
        obtain ⟨su, sh, wt⟩ := x
        simp only at d0 d1 HC
        clear hend hcell hcs fA fB hq hw h1 hts hT hA hD hx hkp z0 z1 hkd hb
        have hqb : q < 9223372036854775807 := by omega
        have hbd : Below wr.heap.size wr wr.drew := ⟨rfl, rfl, rfl, Nat.le_refl _, fun _ _ => rfl⟩
        by_cases hm0 : m = 0
        · subst hm0
          obtain rfl : K = 0 := by
            rw [← hK]
            have : xs = [] := List.eq_nil_of_length_eq_zero HM.out
            rw [this]
            rfl
          clear hK hsw
          have HTV := Lib.hid (show V = T from by rw [← htc, ← hU]; apply ByteArray.ext; simp)
          go_wp2
          go_region_held3 (fun wx => wx.cell? ⟨B, 0, none⟩ = some (.slice (some ⟨g, 0, none⟩) n cap) ∧ wx.cell? ⟨g, k * 3, none⟩ = some (.string su) ∧ wx.cell? ⟨g, k * 3 + 1, none⟩ = some (.string sh))
            (first | exact (HC.out _ (by assumption)).1)
            (first
              | (go_at_call_of 73 (Value.string sh); with_reducible refine (HFA.out _).mono ?_; rintro e w1 ⟨rfl, hb1⟩; replace hbd := hbd.trans (hb1.mono hbd.size))
              | (go_at_call_of 73 (Value.string su); with_reducible refine (HFB.out _).mono ?_; rintro e w1 ⟨rfl, hb1⟩; replace hbd := hbd.trans (hb1.mono hbd.size)))
          all_goals
            obtain ⟨⟨e0, e1, e2⟩, e3, f0, f1, f2⟩ := HC.out _ hbd
            have HZZ := Lib.hid (HE.out _ hbd)
            clear hbd hb1
            have hK0 : (0 : Int) ≤ ((0 : Nat) : Int) := by omega
            have hK8 : ((0 : Nat) : Int) ≤ 128 := by omega
            go_wp2
            go_region
            go_wp2
            go_roundw
            case rel => exact ⟨k + 1, by go_num, by rw [HCS.out, HQ.out]; simp, by omega, (by rw [HTV.out]; exact HZZ.out)⟩
            case measure => simp [RowKit.intOf]; omega
        · have hlt2 : q % m < m := Nat.mod_lt _ (by omega)
          obtain ⟨z, hz⟩ : ∃ z, xs[q % m]? = some z := ⟨_, List.getElem?_eq_getElem (by rw [HM.out]; exact hlt2)⟩
          obtain ⟨ua', uc', eu, hxs⟩ := hsw
          obtain ⟨ad, ea, -, hcz⟩ := hxs _ _ hz
          injection eu with eu eu2 eu3
          clear eu2 eu3
          obtain rfl : ua = some ad := eu.trans ea
          have hmt := lt_of_tmod (i := q) (n := m)
          obtain ⟨j, hj⟩ : ∃ j, q % m = j := ⟨_, rfl⟩
          rw [hj] at hmt hz hcz hlt2
          rw [hj, hz] at hK
          simp only at hK
          obtain ⟨t1, t2, t3, t4⟩ := tmod130 z
          obtain ⟨Z, eZ⟩ : ∃ Z, z.tmod 130 = Z := ⟨_, rfl⟩
          rw [eZ] at t1 t2 t3 t4
          have hm1 : ¬ (m : Int) = 0 := by omega
          have hm2 : (0 : Int) < (m : Int) := by omega
          have HZ := Lib.hid hz
          clear hxs eu hz hj ea
          by_cases hneg : Z < 0
          · by_cases hbig : 128 < Z + 130
            · obtain rfl : K = 128 := by have := t1 hneg; omega
              clear t1 t2 hK
              have HTV := Lib.hid (show U = T from by rw [← htc, ← hV]; apply ByteArray.ext; simp)
              go_wp2
              go_region_held3 (fun wx => wx.cell? ⟨B, 0, none⟩ = some (.slice (some ⟨g, 0, none⟩) n cap) ∧ wx.cell? ⟨g, k * 3, none⟩ = some (.string su) ∧ wx.cell? ⟨g, k * 3 + 1, none⟩ = some (.string sh))
                (first | exact (HC.out _ (by assumption)).1)
                (first
                  | (go_at_call_of 73 (Value.string sh); with_reducible refine (HFA.out _).mono ?_; rintro e w1 ⟨rfl, hb1⟩; replace hbd := hbd.trans (hb1.mono hbd.size))
                  | (go_at_call_of 73 (Value.string su); with_reducible refine (HFB.out _).mono ?_; rintro e w1 ⟨rfl, hb1⟩; replace hbd := hbd.trans (hb1.mono hbd.size)))
              all_goals
                obtain ⟨⟨e0, e1, e2⟩, e3, f0, f1, f2⟩ := HC.out _ hbd
                have HZZ := Lib.hid (HE.out _ hbd)
                clear hbd hb1
                have hK0 : (0 : Int) ≤ ((128 : Nat) : Int) := by omega
                have hK8 : ((128 : Nat) : Int) ≤ 128 := by omega
                go_wp2
                go_region
                go_wp2
                go_roundw
                case rel => exact ⟨k + 1, by go_num, by rw [HCS.out, HQ.out]; simp, by omega, (by rw [HTV.out]; exact HZZ.out)⟩
                case measure => simp [RowKit.intOf]; omega
            · have hC : Z + 130 = (K : Int) := by have := t1 hneg; omega
              have hbig' : ¬ (128 : Int) < (K : Int) := by omega
              clear t1 t2 hK
              go_wp2
              go_region_held3 (fun wx => wx.cell? ⟨B, 0, none⟩ = some (.slice (some ⟨g, 0, none⟩) n cap) ∧ wx.cell? ⟨g, k * 3, none⟩ = some (.string su) ∧ wx.cell? ⟨g, k * 3 + 1, none⟩ = some (.string sh))
                (first | exact (HC.out _ (by assumption)).1)
                (first
                  | (go_at_call_of 73 (Value.string sh); with_reducible refine (HFA.out _).mono ?_; rintro e w1 ⟨rfl, hb1⟩; replace hbd := hbd.trans (hb1.mono hbd.size))
                  | (go_at_call_of 73 (Value.string su); with_reducible refine (HFB.out _).mono ?_; rintro e w1 ⟨rfl, hb1⟩; replace hbd := hbd.trans (hb1.mono hbd.size)))
              all_goals
                obtain ⟨⟨e0, e1, e2⟩, e3, f0, f1, f2⟩ := HC.out _ hbd
                have HZZ := Lib.hid (HE.out _ hbd)
                clear hbd hb1
                have hK0 : (0 : Int) ≤ (K : Int) := by omega
                have hK8 : (K : Int) ≤ 128 := by omega
                go_wp2
                go_region
                go_wp2
                go_roundw
                case rel => exact ⟨k + 1, by go_num, by rw [HCS.out, HQ.out]; simp, by omega, HZZ.out⟩
                case measure => simp [RowKit.intOf]; omega
          · by_cases hbig : 128 < Z
            · obtain rfl : K = 128 := by have := t2 hneg; omega
              clear t1 t2 hK
              have HTV := Lib.hid (show U = T from by rw [← htc, ← hV]; apply ByteArray.ext; simp)
              go_wp2
              go_region_held3 (fun wx => wx.cell? ⟨B, 0, none⟩ = some (.slice (some ⟨g, 0, none⟩) n cap) ∧ wx.cell? ⟨g, k * 3, none⟩ = some (.string su) ∧ wx.cell? ⟨g, k * 3 + 1, none⟩ = some (.string sh))
                (first | exact (HC.out _ (by assumption)).1)
                (first
                  | (go_at_call_of 73 (Value.string sh); with_reducible refine (HFA.out _).mono ?_; rintro e w1 ⟨rfl, hb1⟩; replace hbd := hbd.trans (hb1.mono hbd.size))
                  | (go_at_call_of 73 (Value.string su); with_reducible refine (HFB.out _).mono ?_; rintro e w1 ⟨rfl, hb1⟩; replace hbd := hbd.trans (hb1.mono hbd.size)))
              all_goals
                obtain ⟨⟨e0, e1, e2⟩, e3, f0, f1, f2⟩ := HC.out _ hbd
                have HZZ := Lib.hid (HE.out _ hbd)
                clear hbd hb1
                have hK0 : (0 : Int) ≤ ((128 : Nat) : Int) := by omega
                have hK8 : ((128 : Nat) : Int) ≤ 128 := by omega
                go_wp2
                go_region
                go_wp2
                go_roundw
                case rel => exact ⟨k + 1, by go_num, by rw [HCS.out, HQ.out]; simp, by omega, (by rw [HTV.out]; exact HZZ.out)⟩
                case measure => simp [RowKit.intOf]; omega
            · obtain rfl : Z = (K : Int) := by have := t2 hneg; omega
              have hbig' : ¬ (128 : Int) < (K : Int) := by omega
              clear t1 t2 hK
              go_wp2
              go_region_held3 (fun wx => wx.cell? ⟨B, 0, none⟩ = some (.slice (some ⟨g, 0, none⟩) n cap) ∧ wx.cell? ⟨g, k * 3, none⟩ = some (.string su) ∧ wx.cell? ⟨g, k * 3 + 1, none⟩ = some (.string sh))
                (first | exact (HC.out _ (by assumption)).1)
                (first
                  | (go_at_call_of 73 (Value.string sh); with_reducible refine (HFA.out _).mono ?_; rintro e w1 ⟨rfl, hb1⟩; replace hbd := hbd.trans (hb1.mono hbd.size))
                  | (go_at_call_of 73 (Value.string su); with_reducible refine (HFB.out _).mono ?_; rintro e w1 ⟨rfl, hb1⟩; replace hbd := hbd.trans (hb1.mono hbd.size)))
              all_goals
                obtain ⟨⟨e0, e1, e2⟩, e3, f0, f1, f2⟩ := HC.out _ hbd
                have HZZ := Lib.hid (HE.out _ hbd)
                clear hbd hb1
                have hK0 : (0 : Int) ≤ (K : Int) := by omega
                have hK8 : (K : Int) ≤ 128 := by omega
                go_wp2
                go_region
                go_wp2
                go_roundw
                case rel => exact ⟨k + 1, by go_num, by rw [HCS.out, HQ.out]; simp, by omega, HZZ.out⟩
                case measure => simp [RowKit.intOf]; omega
    · obtain rfl : k = n := by omega
      have HR := Lib.hid hb
      clear hb h1
      go_wp2
      go_end0
      exact ⟨rfl, rcr L xs k, HALL.out, HR.out.dev, HR.out.kp⟩
end Go.Proofs.YtlidieffaaicaaaGreat.Fu
namespace Go.Proofs.YtlidieffaaicaaaGreat.Fu
open Go.ChangeShapes Go.WideShapes Go.RowKit Go.Maps
set_option maxRecDepth 100000
theorem cels_set (L : List Sc) (i : Nat) (y : Sc) : cels (L.set i y) = (cels L).set i y.cel := by unfold cels; rw [List.map_set]
theorem rwrite_any {w : World} {B g : Nat} {L : List Sc} (h : Rv w B g L) (at' : Int) (s : ByteArray) : Calls Tryz.prog 10 #[.pointer (some ⟨B, 0, none⟩), .int .i64 at', .string s] w
    fun e w' => e = .returned (.int .i64 (errW (cels L) at' s)) ∧ ∃ L', cels L' = stW (cels L) at' s ∧ Rv w' B g L' ∧ Kp w w' [g] := by
  unfold stW
  rcases ck_two L.length at' with h2 | ⟨h0, i, rfl, hi⟩
  · have e1 : errW (cels L) at' s = 2 := by unfold errW; rw [cels_len, if_pos h2]
    rw [e1, if_neg (by decide)]
    refine (rwrite_bad at' 2 s (by decide) (by rw [← h2]; exact rhas_any h at')).mono ?_
    rintro e w' ⟨rfl, rfl⟩
    exact ⟨rfl, L, rfl, h, Kp.refl _ _⟩
  · by_cases hs : 128 < s.size
    · have e1 : errW (cels L) (i : Int) s = 3 := by unfold errW; rw [cels_len, if_neg (by rw [h0]; decide), if_pos hs]
      rw [e1, if_neg (by decide)]
      refine (rwrite_long h _ s h0 hs).mono ?_
      rintro e w' ⟨rfl, rfl⟩
      exact ⟨rfl, L, rfl, h, Kp.refl _ _⟩
    · have e1 : errW (cels L) (i : Int) s = 0 := by unfold errW; rw [cels_len, if_neg (by rw [h0]; decide), if_neg hs]
      have hx := List.getElem?_eq_getElem hi
      rw [e1, if_pos rfl]
      refine (rwrite_in h hx s (by omega)).mono ?_
      rintro e w' ⟨rfl, hd, hk⟩
      refine ⟨rfl, _, ?_, hd, hk⟩
      rw [cels_set, show (i : Int).toNat = i from rfl]
      unfold wrS
      rw [cels_get hx]
      rfl
theorem grow_kp {w1 w2 w3 : World} {X : List Nat} (hb : Below w1.heap.size w1 w2) (hk : Kp w2 w3 X) : Kp w1 w3 X := (Kp.of_below hb X).trans hk (fun _ hy => .inl hy)
theorem below_eq {Q : Ending → Prop} {f : FuncId} {a : Array Value} {w : World} (h : Calls Tryz.prog f a w fun e w' => Q e ∧ w = w') : Calls Tryz.prog f a w fun e w' => Q e ∧ Below w.heap.size w w' :=
  h.mono fun _ _ ⟨h1, h2⟩ => ⟨h1, h2 ▸ Below.refl _ _⟩
theorem Is.nomap {w : World} {x : Nat} {t : TypeId} {cs : Array Value} {B b c : Nat} {st : List Cel} (h : Is w x t cs) (hd : Dv w B b c st) : x ≠ b ∧ x ≠ c := by
  obtain ⟨k, D, ⟨es, clock, hb, _⟩, _⟩ := hd.sure
  obtain ⟨k', D', ⟨es', clock', hb', _⟩, _⟩ := hd.wait
  unfold Is at h
  constructor
  · rintro rfl
    rw [hb] at h
    cases h
  · rintro rfl
    rw [hb'] at h
    cases h
end Go.Proofs.YtlidieffaaicaaaGreat.Fu
