/- Keys and ranges, in the program. Conditions: the listed families as the program's text lays them; a hundred thousand names at most. -/
import Derived.Test.YtnpgoahdemfkpaaDoorWalksF
namespace Go.Proofs.YtnpgoahdemfkpaaDoor
open Go.ChangeShapes Go.WideShapes Go.RowKit Go.Path
set_option maxRecDepth 100000
set_option linter.unusedVariables false
set_option linter.unusedSimpArgs false
/-- Names that come in. -/
structure In (w : World) (A : Option Addr) (xs : List B) (c : Nat) : Prop where
  rs : Rs w A xs
  len : xs.length ≤ 100000
  cap : xs.length ≤ c
  each : ∀ x ∈ xs, x.length ≤ maxLen
theorem In.kept {w w' : World} {A : Option Addr} {xs : List B} {c : Nat} (h : In w A xs c) (hb : Below w.heap.size w w') : In w' A xs c := ⟨h.rs.kept hb, h.len, h.cap, h.each⟩
theorem In.alloc {w : World} {A : Option Addr} {xs : List B} {c : Nat} (h : In w A xs c) (o : Obj) : In (w.alloc o) A xs c := ⟨h.rs.alloc o, h.len, h.cap, h.each⟩
theorem In.heap {w w' : World} {A : Option Addr} {xs : List B} {c : Nat} (h : In w A xs c) (e : w'.heap = w.heap) : In w' A xs c := ⟨h.rs.heap e, h.len, h.cap, h.each⟩
theorem In.right {w : World} {A : Option Addr} {xs : List B} {c : Nat} (h : In w A xs c) : Calls Tryd.prog 36 #[.slice A xs.length c] w fun e w' => e = .returned (.bool (right xs)) ∧ w = w' :=
  right_any A xs c (by have := h.len; unfold maxLen; omega) h.each w h.rs
theorem In.rright {w : World} {A : Option Addr} {xs : List B} {c : Nat} (h : In w A xs c) : Calls Tryd.prog 38 #[.slice A xs.length c] w fun e w' => e = .returned (.bool (Path.right xs)) ∧ w = w' :=
  rright_any A xs c (by have := h.len; unfold maxLen; omega) h.each w h.rs
theorem right_len {xs : List B} (h : right xs = true) : (joint xs).length ≤ 102 := by
  obtain ⟨h6, hx⟩ := right_of h
  have := joint_len xs 16 (fun x hx' => (name_no (hx x hx')).2.2)
  omega
theorem In.head {w : World} {A : Option Addr} {xs : List B} {c : Nat} (h : In w A xs c) (hr : Path.right xs = true) (p q : UInt8) :
    Calls Tryd.prog 40 #[.agg #[.string ⟨#[p]⟩, .string ⟨#[q]⟩], .slice A xs.length c] w fun e w' => e = .returned (.string (bs (p :: joint xs))) ∧ Below w.heap.size w w' :=
  head_any p q A xs c h.len h.cap (by have := right_len hr; omega) w h.rs
theorem meta_any (A : Option Addr) (xs : List B) (c : Nat) (w : World) (h : In w A xs c) (hL : Laid w) :
    Calls Tryd.prog 15 #[.slice A xs.length c] w fun e w' => e = .returned (.string (bs (metaK xs))) ∧ Below w.heap.size w w' := by
  have R := Lib.hid h.right
  cases hr : right xs
  · rw [hr] at R
    have e : metaK xs = [] := if_neg (by rw [hr]; decide)
    rw [e]
    clear h e hr
    generalize xs.length = n at *
    go_enter Tryd.func15, Tryd.ntmps15
    go_wp2_with fail
    refine R.out.mono ?_; rintro e w1 ⟨rfl, rfl⟩
    go_wp2
    go_ret
    exact ⟨rfl, Below.refl _ _⟩
  · rw [hr] at R
    have K := Lib.hid (h.head hr 109 110)
    rw [meta_is hr]
    obtain ⟨⟨l1, l2⟩, _, _⟩ := hL
    clear h hr
    generalize bs (109 :: joint xs) = T at *
    generalize xs.length = n at *
    go_enter Tryd.func15, Tryd.ntmps15
    go_wp2_with fail
    refine R.out.mono ?_; rintro e w1 ⟨rfl, rfl⟩
    go_wp2_with fail
    refine K.out.mono ?_; rintro e w1 ⟨rfl, b1⟩
    have B1 := Lib.hid b1; clear b1
    go_wp2
    go_ret
    exact ⟨rfl, B1.out⟩
theorem subtree_nil (p q : UInt8) (A : Option Addr) (c : Nat) (w : World) :
    Calls Tryd.prog 37 #[.agg #[.string ⟨#[p]⟩, .string ⟨#[q]⟩], .slice A 0 c] w fun e w' => e = .returned (.agg #[.string ⟨#[p]⟩, .string ⟨#[q]⟩]) ∧ Below w.heap.size w w' := by
  go_enter Tryd.func37, Tryd.ntmps37
  go_wp2
  exact bodyPost_ret (v := .agg #[.string ⟨#[p]⟩, .string ⟨#[q]⟩]) (by simp [results, Tryd.results37, go_sem]) rfl ⟨rfl, ((Below.refl _ _).alloc (Nat.le_refl _) _).alloc (by simp) _⟩
/-- Block g is just these cells, none frozen. -/
def Is (w : World) (g : Nat) (t : TypeId) (cs : Array Value) : Prop := w.heap[g]? = some (.cells cs t (0, 0))
section
variable {w w' : World} {g : Nat} {t : TypeId} {cs : Array Value}
theorem Is.lt (h : Is w g t cs) : g < w.heap.size := (Array.getElem?_eq_some_iff.1 h).1
theorem Is.cell (h : Is w g t cs) (i : Nat) : w.cell? ⟨g, i, none⟩ = cs[i]? := cell_of_row w g i cs t (0, 0) h
theorem Is.frozen (h : Is w g t cs) (i : Nat) : w.frozen? ⟨g, i, none⟩ = false := by
  unfold Is at h
  simp [World.frozen?, h]
theorem Is.new (w : World) (t : TypeId) (cs : Array Value) : Is (w.alloc (.cells cs t)) w.heap.size t cs := heap_alloc_new w _
theorem Is.kept (h : Is w g t cs) (hb : Below w.heap.size w w') : Is w' g t cs := (hb.block g h.lt).trans h
theorem Is.alloc (h : Is w g t cs) (o : Obj) : Is (w.alloc o) g t cs := h.kept ((Below.refl _ _).alloc (Nat.le_refl _) o)
end
/-- What two new blocks hold, and that nothing old has turned. -/
structure Boxes (w : World) (ta : TypeId) (a : Array Value) (tb : TypeId) (b : Array Value) (wx : World) : Prop where
  below : Below w.heap.size w wx
  one : Is wx w.heap.size ta a
  two : Is wx (w.heap.size + 1) tb b
section
variable {w wx wy : World} {ta tb : TypeId} {a b : Array Value}
theorem Boxes.later (h : Boxes w ta a tb b wx) (hb : Below wx.heap.size wx wy) : Boxes w ta a tb b wy :=
  ⟨h.below.trans (hb.mono h.below.size), h.one.kept hb, h.two.kept hb⟩
theorem Boxes.drew (h : Boxes w ta a tb b wx) : Boxes w ta a tb b wx.drew := h.later ⟨rfl, rfl, rfl, Nat.le_refl _, fun _ _ => rfl⟩
theorem Boxes.new (w : World) (ta : TypeId) (a : Array Value) (tb : TypeId) (b : Array Value) : Boxes w ta a tb b ((w.alloc (.cells a ta)).alloc (.cells b tb)) := by
  refine ⟨((Below.refl _ w).alloc (Nat.le_refl _) _).alloc (by simp) _, (Is.new w ta a).alloc _, ?_⟩
  have h := Is.new (w.alloc (.cells a ta)) tb b
  simpa using h
theorem Boxes.cells {a0 a1 b0 b1 : Value} (h : Boxes w ta #[a0, a1] tb #[b0, b1] wx) :
    (wx.cell? ⟨w.heap.size, 0, none⟩ = some a0 ∧ wx.cell? ⟨w.heap.size, 1, none⟩ = some a1) ∧ (wx.cell? ⟨w.heap.size + 1, 0, none⟩ = some b0 ∧ wx.cell? ⟨w.heap.size + 1, 1, none⟩ = some b1) :=
  ⟨⟨h.one.cell 0, h.one.cell 1⟩, h.two.cell 0, h.two.cell 1⟩
theorem Boxes.frozen (h : Boxes w ta a tb b wx) : wx.frozen? ⟨w.heap.size, 0, none⟩ = false ∧ wx.frozen? ⟨w.heap.size, 1, none⟩ = false ∧ wx.frozen? ⟨w.heap.size + 1, 0, none⟩ = false ∧ wx.frozen? ⟨w.heap.size + 1, 1, none⟩ = false :=
  ⟨h.one.frozen 0, h.one.frozen 1, h.two.frozen 0, h.two.frozen 1⟩
end
theorem set_other (w : World) {p q : Addr} (h : p.block ≠ q.block) (v : Value) : (w.setCell q v).cell? p = w.cell? p := World.cell?_of_block (Below.heap_setCell w q v p.block h)
theorem set2 {w : World} {g k : Nat} {x y : Option Value} (hne : g ≠ k) (u v : Value) (h : w.cell? ⟨g, 0, none⟩ = x ∧ w.cell? ⟨g, 1, none⟩ = y) :
    ((w.setCell ⟨k, 0, none⟩ u).setCell ⟨k, 1, none⟩ v).cell? ⟨g, 0, none⟩ = x ∧ ((w.setCell ⟨k, 0, none⟩ u).setCell ⟨k, 1, none⟩ v).cell? ⟨g, 1, none⟩ = y :=
  ⟨((set_other _ (by exact hne) _).trans (set_other _ (by exact hne) _)).trans h.1, ((set_other _ (by exact hne) _).trans (set_other _ (by exact hne) _)).trans h.2⟩
theorem below_set {w w' : World} {B : Nat} (h : Below B w w') {p : Addr} (hp : B ≤ p.block) (v : Value) : Below B w (w'.setCell p v) := h.setCell hp v
set_option maxHeartbeats 4000000 in
theorem subtree_core (p q : UInt8) (A : Option Addr) (n c : Nat) (hn : ¬ (n : Int) = 0) (T : ByteArray) (hT : T.size ≤ 1000000) (w : World)
    (K : Hid (∀ wx, Below w.heap.size w wx → Calls Tryd.prog 40 #[.agg #[.string ⟨#[p]⟩, .string ⟨#[q]⟩], .slice A n c] wx fun e w' => e = .returned (.string T) ∧ Below wx.heap.size wx w')) :
    Calls Tryd.prog 37 #[.agg #[.string ⟨#[p]⟩, .string ⟨#[q]⟩], .slice A n c] w fun e w' => e = .returned (.agg #[.string T, .string (T ++ ⟨#[1]⟩)]) ∧ Below w.heap.size w w' := by
  have hn' : ((n : Int) == 0) = false := by simpa using hn
  have hov : ¬ 9223372036854775807 < T.size + (⟨#[1]⟩ : ByteArray).size := by
    have : (⟨#[1]⟩ : ByteArray).size = 1 := rfl
    omega
  have hov1 : ¬ 9223372036854775807 < T.size + 1 := by omega
  have HX := Lib.hid (Boxes.new w 57 #[.string ⟨#[p]⟩, .string ⟨#[q]⟩] 26 #[.string ⟨#[]⟩, .string ⟨#[]⟩])
  go_enter Tryd.func37, Tryd.ntmps37
  go_upto_region 3 with fail
  generalize hWW : (w.alloc (.cells #[.string ⟨#[p]⟩, .string ⟨#[q]⟩] 57)).alloc (.cells #[.string ⟨#[]⟩, .string ⟨#[]⟩] 26) = W at *
  clear hWW
  have HXd := Lib.hid HX.out.drew
  obtain ⟨⟨a0, a1⟩, _⟩ := HX.out.cells
  go_region_held3 (fun wx => wx.cell? ⟨w.heap.size, 0, none⟩ = some (.string ⟨#[p]⟩) ∧ wx.cell? ⟨w.heap.size, 1, none⟩ = some (.string ⟨#[q]⟩)) (first | exact set2 (by omega) _ _ HX2.out.cells.1 | exact HX2.out.cells.1 | exact HX1.out.cells.1 | exact HX.out.cells.1)
    (first
      | (go_at_call 40; (first
          | (refine (K.out _ HX1.out.below).mono ?_; rintro e w1 ⟨rfl, hb⟩; have HX2 := Lib.hid (HX1.out.later hb); clear hb; obtain ⟨_, d0, d1⟩ := HX2.out.cells; obtain ⟨_, _, f0, f1⟩ := HX2.out.frozen; have hlt := HX2.out.two.lt)
          | (refine (K.out _ HXd.out.below).mono ?_; rintro e w1 ⟨rfl, hb⟩; have HX1 := Lib.hid (HXd.out.later hb); clear hb))))
  all_goals
    go_wp2
    exact bodyPost_ret (v := .agg #[.string T, .string (T ++ ⟨#[1]⟩)]) (by simp [results, Tryd.results37, go_sem, d0, d1, hlt]) rfl ⟨rfl, (HX2.out.below.setCell (by simp) _).setCell (by simp) _⟩
theorem subtree_any (p q : UInt8) (hq : q = p + 1) (A : Option Addr) (xs : List B) (c : Nat) (w : World) (h : In w A xs c) (hr : Path.right xs = true) :
    Calls Tryd.prog 37 #[.agg #[.string ⟨#[p]⟩, .string ⟨#[q]⟩], .slice A xs.length c] w fun e w' => e = .returned (.agg #[.string (bs (subF p xs)), .string (bs (subT p xs))]) ∧ Below w.heap.size w w' := by
  subst hq
  by_cases hx : xs = []
  · subst hx
    exact subtree_nil p (p + 1) A c w
  · have hs := right_len hr
    have K := subtree_core p (p + 1) A xs.length c (by have := List.length_pos_iff.2 hx; omega) (bs (p :: joint xs)) (by rw [bs_size]; simp; omega) w
      (Lib.hid fun wx hb => (h.kept hb).head hr p (p + 1))
    rw [subF_is hr, subT_is hr hx]
    have e : bs (p :: joint xs) ++ (⟨#[1]⟩ : ByteArray) = bs (p :: (joint xs ++ [1])) := bs_app (p :: joint xs) [1]
    rw [e] at K
    exact K
theorem Laid.cells {w : World} (h : Laid w) : ((w.cell? ⟨0, 0, none⟩ = some (.string ⟨#[109]⟩) ∧ w.cell? ⟨0, 1, none⟩ = some (.string ⟨#[110]⟩)) ∧ (w.cell? ⟨1, 0, none⟩ = some (.string ⟨#[100]⟩) ∧ w.cell? ⟨1, 1, none⟩ = some (.string ⟨#[101]⟩))) := ⟨h.1, h.2.1⟩
theorem set2x {w : World} {k : Nat} {x y x' y' : Option Value} (hk : 1 < k) (u v : Value) (h : (w.cell? ⟨0, 0, none⟩ = x ∧ w.cell? ⟨0, 1, none⟩ = y) ∧ (w.cell? ⟨1, 0, none⟩ = x' ∧ w.cell? ⟨1, 1, none⟩ = y')) :
    (((w.setCell ⟨k, 0, none⟩ u).setCell ⟨k, 1, none⟩ v).cell? ⟨0, 0, none⟩ = x ∧ ((w.setCell ⟨k, 0, none⟩ u).setCell ⟨k, 1, none⟩ v).cell? ⟨0, 1, none⟩ = y) ∧ (((w.setCell ⟨k, 0, none⟩ u).setCell ⟨k, 1, none⟩ v).cell? ⟨1, 0, none⟩ = x' ∧ ((w.setCell ⟨k, 0, none⟩ u).setCell ⟨k, 1, none⟩ v).cell? ⟨1, 1, none⟩ = y') :=
  ⟨set2 (by omega) u v h.1, set2 (by omega) u v h.2⟩
theorem subtrees_no (A : Option Addr) (n c : Nat) (w : World) (R : Hid (∀ wx, Below w.heap.size w wx → Calls Tryd.prog 36 #[.slice A n c] wx fun e w' => e = .returned (.bool false) ∧ wx = w')) :
    Calls Tryd.prog 11 #[.slice A n c] w fun e w' => e = .returned (.tuple #[.agg #[.string ⟨#[]⟩, .string ⟨#[]⟩], .agg #[.string ⟨#[]⟩, .string ⟨#[]⟩]]) ∧ Below w.heap.size w w' := by
  have HX := Lib.hid (Boxes.new w 26 #[.string ⟨#[]⟩, .string ⟨#[]⟩] 26 #[.string ⟨#[]⟩, .string ⟨#[]⟩])
  go_enter Tryd.func11, Tryd.ntmps11
  go_wp2_with fail
  refine (R.out _ HX.out.below).mono ?_; rintro e w1 ⟨rfl, rfl⟩
  go_wp2
  exact bodyPost_ret (v := .tuple #[.agg #[.string ⟨#[]⟩, .string ⟨#[]⟩], .agg #[.string ⟨#[]⟩, .string ⟨#[]⟩]]) (by simp [results, Tryd.results11, go_sem]) rfl ⟨rfl, HX.out.below⟩
set_option maxHeartbeats 4000000 in
theorem subtrees_core (A : Option Addr) (n c : Nat) (F1 T1 F2 T2 : ByteArray) (w : World) (hL : Laid w)
    (R : Hid (∀ wx, Below w.heap.size w wx → Calls Tryd.prog 36 #[.slice A n c] wx fun e w' => e = .returned (.bool true) ∧ wx = w'))
    (K1 : Hid (∀ wx, Below w.heap.size w wx → Calls Tryd.prog 37 #[.agg #[.string ⟨#[109]⟩, .string ⟨#[110]⟩], .slice A n c] wx fun e w' => e = .returned (.agg #[.string F1, .string T1]) ∧ Below wx.heap.size wx w'))
    (K2 : Hid (∀ wx, Below w.heap.size w wx → Calls Tryd.prog 37 #[.agg #[.string ⟨#[100]⟩, .string ⟨#[101]⟩], .slice A n c] wx fun e w' => e = .returned (.agg #[.string F2, .string T2]) ∧ Below wx.heap.size wx w')) :
    Calls Tryd.prog 11 #[.slice A n c] w fun e w' => e = .returned (.tuple #[.agg #[.string F1, .string T1], .agg #[.string F2, .string T2]]) ∧ Below w.heap.size w w' := by
  have HX := Lib.hid (Boxes.new w 26 #[.string ⟨#[]⟩, .string ⟨#[]⟩] 26 #[.string ⟨#[]⟩, .string ⟨#[]⟩])
  have h1 : 1 < w.heap.size := hL.2.2
  have HL := Lib.hid (fun (wx : World) (hb : Below w.heap.size w wx) => (hL.later hb).cells)
  clear hL
  go_enter Tryd.func11, Tryd.ntmps11
  go_wp2_with fail
  refine (R.out _ HX.out.below).mono ?_; rintro e w1 ⟨rfl, rfl⟩
  go_upto_region 3 with fail
  generalize hWW : (w.alloc (.cells #[.string ⟨#[]⟩, .string ⟨#[]⟩] 26)).alloc (.cells #[.string ⟨#[]⟩, .string ⟨#[]⟩] 26) = W at *
  clear hWW
  have HXd := Lib.hid HX.out.drew
  obtain ⟨⟨a0, a1⟩, a2, a3⟩ := HL.out _ HX.out.below
  go_region_held3 (fun wx => (wx.cell? ⟨0, 0, none⟩ = some (.string ⟨#[109]⟩) ∧ wx.cell? ⟨0, 1, none⟩ = some (.string ⟨#[110]⟩)) ∧ (wx.cell? ⟨1, 0, none⟩ = some (.string ⟨#[100]⟩) ∧ wx.cell? ⟨1, 1, none⟩ = some (.string ⟨#[101]⟩)))
    (first | (with_reducible exact HL.out _ HX.out.below) | (with_reducible exact HL.out _ HXd.out.below) | (with_reducible exact HL.out _ HX1.out.below) | (with_reducible exact HL.out _ HX2.out.below) | (with_reducible exact HL.out _ ((HX2.out.below.setCell (by simp) _).setCell (by simp) _)) | (with_reducible exact HL.out _ ((((HX2.out.below.setCell (by simp) _).setCell (by simp) _).setCell (by simp) _).setCell (by simp) _)))
    (first
      | (go_at_call 37; (first
          | (refine (K2.out _ HX1.out.below).mono ?_; rintro e w1 ⟨rfl, hb⟩; have HX2 := Lib.hid (HX1.out.later hb); clear hb; obtain ⟨⟨c0, c1⟩, d0, d1⟩ := HX2.out.cells; obtain ⟨e0, e1, f0, f1⟩ := HX2.out.frozen; have hlt := HX2.out.two.lt; have hlt0 := HX2.out.one.lt)
          | (refine (K1.out _ HXd.out.below).mono ?_; rintro e w1 ⟨rfl, hb⟩; have HX1 := Lib.hid (HXd.out.later hb); clear hb))))
  all_goals
    go_wp2
    exact bodyPost_ret (v := .tuple #[.agg #[.string F1, .string T1], .agg #[.string F2, .string T2]]) (by simp [results, Tryd.results11, go_sem, c0, c1, d0, d1, hlt, hlt0]) rfl ⟨rfl, (((HX2.out.below.setCell (by simp) _).setCell (by simp) _).setCell (by simp) _).setCell (by simp) _⟩
end Go.Proofs.YtnpgoahdemfkpaaDoor
