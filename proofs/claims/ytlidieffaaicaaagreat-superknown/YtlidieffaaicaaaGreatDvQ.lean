/- The document's device: Full, New, has, Read, Sure, Waiting. Conditions: none. -/
import Derived.Test.YtlidieffaaicaaaGreatDvK
namespace Go.Proofs.YtlidieffaaicaaaGreat.Fu
open Go.ChangeShapes Go.WideShapes Go.RowKit Go.Maps
set_option maxRecDepth 100000
/-- A sector, by the document. -/
structure Sc where
  sure : ByteArray
  shows : ByteArray
  w : Bool
def Sc.cel (x : Sc) : Cel := ⟨full x.sure.data.toList, if x.w then some (full x.shows.data.toList) else none⟩
/-- What stands on the document's device. -/
def cels (L : List Sc) : List Cel := L.map Sc.cel
theorem cels_len (L : List Sc) : (cels L).length = L.length := by simp [cels]
theorem cels_get {L : List Sc} {i : Nat} {x : Sc} (h : L[i]? = some x) : (cels L)[i]? = some x.cel := by unfold cels; rw [List.getElem?_map, h]; rfl
def Small (L : List Sc) : Prop := ∀ (i : Nat) (x : Sc), L[i]? = some x → x.sure.size ≤ 128 ∧ x.shows.size ≤ 128
theorem Small.set {L : List Sc} (h : Small L) (k : Nat) (x : Sc) (h1 : x.sure.size ≤ 128) (h2 : x.shows.size ≤ 128) : Small (L.set k x) := by
  intro i y hy
  rw [List.getElem?_set] at hy
  split at hy
  · split at hy
    · injection hy with hy; subst hy; exact ⟨h1, h2⟩
    · cases hy
  · exact h i y hy
/-- The sectors lie in block g. -/
def Row (w : World) (g : Nat) (L : List Sc) : Prop := ∃ cur, Is w g 75 cur ∧ ∀ (i : Nat) (x : Sc), L[i]? = some x → cur[i * 3]? = some (.string x.sure) ∧ cur[i * 3 + 1]? = some (.string x.shows) ∧ cur[i * 3 + 2]? = some (.bool x.w)
theorem Row.lt {w : World} {g : Nat} {L : List Sc} (h : Row w g L) : g < w.heap.size := by obtain ⟨cur, hi, _⟩ := h; exact hi.lt
theorem Row.at' {w : World} {g : Nat} {L : List Sc} (h : Row w g L) {i : Nat} {x : Sc} (hx : L[i]? = some x) :
    w.cell? ⟨g, i * 3, none⟩ = some (.string x.sure) ∧ w.cell? ⟨g, i * 3 + 1, none⟩ = some (.string x.shows) ∧ w.cell? ⟨g, i * 3 + 2, none⟩ = some (.bool x.w) := by
  obtain ⟨cur, hi, hc⟩ := h
  obtain ⟨h1, h2, h3⟩ := hc i x hx
  exact ⟨(hi.cell _).trans h1, (hi.cell _).trans h2, (hi.cell _).trans h3⟩
theorem Row.free {w : World} {g : Nat} {L : List Sc} (h : Row w g L) (i : Nat) : w.frozen? ⟨g, i, none⟩ = false := by obtain ⟨cur, hi, _⟩ := h; exact hi.frozen i
theorem Row.kept {w w' : World} {g : Nat} {L : List Sc} {X : List Nat} (h : Row w g L) (hk : Kp w w' X) (hX : g ∉ X) : Row w' g L := by obtain ⟨cur, hi, hc⟩ := h; exact ⟨cur, hk.is hi hX, hc⟩
/-- A device of the document's: its struct's block, its row's block, its sectors. -/
structure Rv (w : World) (B g : Nat) (L : List Sc) : Prop where
  one : ∃ cap, Is w B 68 #[.slice (some ⟨g, 0, none⟩) L.length cap]
  row : Row w g L
  small : Small L
  lo : 512 ≤ L.length
  hi : L.length ≤ 4096
theorem Rv.kept {w w' : World} {B g : Nat} {L : List Sc} {X : List Nat} (h : Rv w B g L) (hk : Kp w w' X) (h1 : B ∉ X) (h2 : g ∉ X) : Rv w' B g L := by
  obtain ⟨cap, hi⟩ := h.one
  exact ⟨⟨cap, hk.is hi h1⟩, h.row.kept hk h2, h.small, h.lo, h.hi⟩
theorem Rv.below {w w' : World} {B g : Nat} {L : List Sc} (h : Rv w B g L) (hb : Below w.heap.size w w') : Rv w' B g L := h.kept (Kp.of_below hb []) (by simp) (by simp)
theorem Rv.drew {w : World} {B g : Nat} {L : List Sc} (h : Rv w B g L) : Rv w.drew B g L := h.kept (X := []) (Kp.drew (Kp.refl _ _)) (by simp) (by simp)
theorem Rv.ne {w : World} {B g : Nat} {L : List Sc} (h : Rv w B g L) : B ≠ g := by
  obtain ⟨cap, hi⟩ := h.one
  obtain ⟨cur, hj, _⟩ := h.row
  exact hi.ne hj (by decide)
theorem madeN (n : Nat) : madeCells #[.int .u8 0] n = cl (List.replicate n 0) := by
  apply Array.ext'
  rw [toList_madeCells_one]
  unfold cl Lib.byteCells
  rw [List.map_replicate]
  rfl
theorem make_bytes (n : Nat) (hn : n ≤ 1000) (w : World) : (Instr.makeSlice 72 (.int .i64 (n : Int)) (.int .i64 (n : Int))).run Tryz.prog w = .ok (.slice (some ⟨w.heap.size, 0, none⟩) n n) (w.alloc (.cells (cl (List.replicate n 0)) 5)) := by
  rw [← madeN]
  exact run_make_row' 72 5 (.int .u8 0) 1 Tryz.underlying72 info5 rfl .i64 .i64 n (by omega) (by omega) w
theorem rfull_any (s : ByteArray) (hs : s.size ≤ 128) (w : World) : Calls Tryz.prog 73 #[.string s] w fun e w' => e = .returned (.string (bs (full s.data.toList))) ∧ Below w.heap.size w w' := by
  obtain ⟨c, hc⟩ : ∃ c : Nat, 128 - (s.size : Int) = (c : Int) := ⟨128 - s.size, by omega⟩
  have hmk := make_bytes c (by omega) w
  have htx := row_text (k := c) (by simp) (Is.new w 5 (cl (List.replicate c 0)))
  obtain ⟨Z, eZ⟩ : ∃ Z, bs (List.replicate c 0) = Z := ⟨_, rfl⟩
  have hno : ¬ 9223372036854775807 < s.size + Z.size := by
    have : Z.size = c := by rw [← eZ]; simp [bs, ByteArray.size]
    omega
  have hb := below_alloc (Below.refl w.heap.size w) (.cells (cl (List.replicate c 0)) 5)
  have e3 : s ++ Z = bs (full s.data.toList) := by
    have e1 : c = 128 - s.data.toList.length := by rw [← Lib.size_eq]; omega
    rw [← eZ, full, ← bs_app, bs_data, ← e1]
  rw [eZ] at htx
  have E3 := Lib.hid e3
  have EB := Lib.hid hb
  clear e3 eZ hb
  generalize hR : cl (List.replicate c 0) = R0 at *
  clear hR
  go_enter Tryz.func73, Tryz.ntmps73
  go_wp2
  go_ret
  exact ⟨congrArg (fun x => Ending.returned (.string x)) E3.out, EB.out⟩
/-- The error of a place. -/
theorem rhas_nil (i : Int) (w : World) : Calls Tryz.prog 30 #[.pointer none, .int .i64 i] w fun e w' => e = .returned (.int .i64 1) ∧ w = w' := by
  go_enter Tryz.func30, Tryz.ntmps30
  go_wp2
  go_ret
  exact ⟨rfl, rfl⟩
theorem rhas_any {w : World} {B g : Nat} {L : List Sc} (h : Rv w B g L) (i : Int) : Calls Tryz.prog 30 #[.pointer (some ⟨B, 0, none⟩), .int .i64 i] w fun e w' => e = .returned (.int .i64 (ck L.length i)) ∧ w = w' := by
  obtain ⟨cap, hi⟩ := h.one
  have c0 := hi.cell 0
  simp at c0
  clear h hi
  by_cases h0 : i < 0
  · rw [show ck L.length i = 2 from if_pos (.inl h0)]
    go_enter Tryz.func30, Tryz.ntmps30
    go_wp2
    go_ret
    exact ⟨rfl, rfl⟩
  · by_cases h1 : (L.length : Int) ≤ i
    · rw [show ck L.length i = 2 from if_pos (.inr h1)]
      go_enter Tryz.func30, Tryz.ntmps30
      go_wp2
      go_ret
      exact ⟨rfl, rfl⟩
    · rw [show ck L.length i = 0 from if_neg (by omega)]
      go_enter Tryz.func30, Tryz.ntmps30
      go_wp2
      go_ret
      exact ⟨rfl, rfl⟩
theorem rread_bad {v : Value} {w : World} (i e0 : Int) (he : e0 ≠ 0) (H : Calls Tryz.prog 30 #[v, .int .i64 i] w fun e w' => e = .returned (.int .i64 e0) ∧ w = w') :
    Calls Tryz.prog 94 #[v, .int .i64 i] w fun e w' => e = .returned (.tuple #[.string ⟨#[]⟩, .int .i64 e0]) ∧ w = w' := by
  have hb : (e0 != 0) = true := by simpa using he
  clear he
  go_enter Tryz.func94, Tryz.ntmps94
  go_wp2_with (go_at_call 30; refine H.mono ?_; rintro e w' ⟨rfl, rfl⟩)
  go_ret2
  exact ⟨rfl, rfl⟩
theorem rread_in {w : World} {B g : Nat} {L : List Sc} (h : Rv w B g L) {i : Nat} {x : Sc} (hx : L[i]? = some x) :
    Calls Tryz.prog 94 #[.pointer (some ⟨B, 0, none⟩), .int .i64 (i : Int)] w fun e w' => e = .returned (.tuple #[.string (bs x.cel.r), .int .i64 0]) ∧ Below w.heap.size w w' := by
  have hm := rhas_any h (i : Int)
  have hi := (List.getElem?_eq_some_iff.1 hx).1
  rw [ck_in hi] at hm
  obtain ⟨cap, h1⟩ := h.one
  have c0 := h1.cell 0
  simp at c0
  obtain ⟨d0, d1, d2⟩ := h.row.at' hx
  obtain ⟨z0, z1⟩ := h.small i x hx
  have f0 := fun w => rfull_any x.sure z0 w
  have f1 := fun w => rfull_any x.shows z1 w
  have hii : (i : Int) < (L.length : Int) := by omega
  obtain ⟨su, sh, wt⟩ := x
  simp only at d0 d1 d2 f0 f1
  clear h h1 hx z0 z1
  obtain ⟨n, hn⟩ : ∃ n, L.length = n := ⟨_, rfl⟩
  rw [hn] at c0 hi hii
  clear hn
  cases wt with
  | true =>
    have er : (Sc.cel ⟨su, sh, true⟩).r = full sh.data.toList := rfl
    rw [er]
    go_enter Tryz.func94, Tryz.ntmps94
    go_wp2_with (first
      | (go_at_call 30; refine hm.mono ?_; rintro e w' ⟨rfl, rfl⟩)
      | (go_at_call 73; refine (f1 _).mono ?_; rintro e w1 ⟨rfl, hb⟩))
    go_ret2
    exact ⟨rfl, hb⟩
  | false =>
    have er : (Sc.cel ⟨su, sh, false⟩).r = full su.data.toList := rfl
    rw [er]
    go_enter Tryz.func94, Tryz.ntmps94
    go_wp2_with (first
      | (go_at_call 30; refine hm.mono ?_; rintro e w' ⟨rfl, rfl⟩)
      | (go_at_call 73; refine (f0 _).mono ?_; rintro e w1 ⟨rfl, hb⟩))
    go_ret2
    exact ⟨rfl, hb⟩
end Go.Proofs.YtlidieffaaicaaaGreat.Fu
