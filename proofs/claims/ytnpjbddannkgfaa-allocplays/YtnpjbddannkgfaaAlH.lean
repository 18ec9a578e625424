/- append of numbers onto a row of the call's own; slices.Grow of nil, slices.Concat of two. Conditions: none. -/
import Derived.Test.YtnpjbddannkgfaaAlG
import Derived.Lib.AppendZeros
namespace Go.Proofs.Ytnpjbddannkgfaa
open Go.ChangeShapes Go.WideShapes Go.RowKit Go.Maps Go.Spans Go.Alloc
set_option maxRecDepth 100000
theorem run_app_none {A : Option Addr} {n c : Nat} (w : World) (h : n ≤ c) (hA : A = none → n = 0 ∧ c = 0) (A2 : Option Addr) (c2 : Nat) (ty : TypeId) : (Builtin.append_ #[46, 46] ty #[.slice A n c, .slice A2 0 c2]).run Try.prog w = .ok (.slice A n c) w := by
  obtain ⟨i0, hi0, hh⟩ := Option.map_eq_some_iff.1 info3
  simp only [Prod.mk.injEq] at hh
  obtain ⟨hz0, hz1, hz2⟩ := hh
  rcases A with _ | a
  · obtain ⟨rfl, rfl⟩ := hA rfl
    rcases A2 with _ | b <;> simp [Builtin.append_, run_underlying Try.underlying46, sizeOf, typeInfo, hi0, Builtin.lenOf, Builtin.firstCells, loadCells, loadCellsFrom]
  · rcases A2 with _ | b <;> simp [Builtin.append_, run_underlying Try.underlying46, sizeOf, typeInfo, hi0, Builtin.lenOf, Builtin.firstCells, h, loadCells, loadCellsFrom, storeCells]
theorem zs_one (l : List Int) : ∀ u ∈ zs l, u.oneCell' = true := by
  intro u hu
  obtain ⟨x, _, rfl⟩ := List.mem_map.1 hu
  rfl
/-- Numbers are added to a row of the call's own. -/
theorem app_ints {w : World} {base : Nat} {v u : Value} {l xs : List Int} (h : w.ownsRow base 3 1 v l.length (zs l)) (hu : Sl w u xs) (hl : l.length + xs.length ≤ 100000) (hb : base ≤ w.heap.size) (ty : TypeId) :
    ∃ P C w', (Builtin.append_ #[46, 46] ty #[v, u]).run Try.prog w = .ok (.slice P (l ++ xs).length C) w' ∧ w'.ownsRow base 3 1 (.slice P (l ++ xs).length C) (l ++ xs).length (zs (l ++ xs)) ∧ w.grownBy w' v.ownBlock ∧ ((Value.slice P (l ++ xs).length C).ownBlock = v.ownBlock ∨ (Value.slice P (l ++ xs).length C).ownBlock = some w.heap.size) := by
  obtain ⟨i0, hi0, hh⟩ := Option.map_eq_some_iff.1 info3
  simp only [Prod.mk.injEq] at hh
  obtain ⟨hz0, hz1, hz2⟩ := hh
  obtain ⟨a, c, rfl, hx⟩ := hu
  have hln : (l ++ xs).length = l.length + xs.length := List.length_append
  have hzz : zs (l ++ xs) = zs l ++ zs xs := by simp [zs]
  cases xs with
  | nil =>
    obtain ⟨P, C, rfl⟩ := own_shape h
    have hP : l.length ≤ C ∧ (P = none → l.length = 0 ∧ C = 0) := by
      rcases h.2 with ⟨e, e0⟩ | ⟨g, cap, cur, e, _, _, e3, _⟩
      · injection e with e1 e2 e3
        exact ⟨by omega, fun _ => ⟨e2, e3⟩⟩
      · injection e with e1 e2 e4
        exact ⟨by omega, fun e5 => by rw [e5] at e1; cases e1⟩
    have hr := run_app_none w hP.1 hP.2 a c ty
    refine ⟨P, C, w, ?_, ?_, ⟨rfl, rfl, rfl, Nat.le_refl _, fun _ _ _ => rfl⟩, ?_⟩
    · rw [List.append_nil]; exact hr
    · rw [List.append_nil]; exact h
    · rw [List.append_nil]; exact .inl rfl
  | cons x xs =>
    obtain ⟨ad, rfl, _⟩ := hx 0 x rfl
    obtain ⟨v', w', hr, h2, h3, h4, h5⟩ := run_append_own_at (P := Try.prog) w base 46 ty 3 i0 _ 1 8 Try.underlying46 hi0 hz0 hz1 hz2 rfl (by decide) v l.length _ h ad (x :: xs).length c (zs (x :: xs)) (by simp) (fun j u hj => by
      rw [List.getElem?_map] at hj
      obtain ⟨y, hy, rfl⟩ := Option.map_eq_some_iff.1 hj
      obtain ⟨ad', e, hc⟩ := hx j y hy
      injection e with e
      rw [e]
      exact hc) (zs_one _) (by unfold maxLen; omega) (by omega) hb
    obtain ⟨P, C, rfl⟩ := own_shape h2
    rw [← hln] at h2 hr h5
    exact ⟨P, C, w', hr, by rw [hzz]; exact h2, h3, h5⟩
set_option maxHeartbeats 1000000 in
theorem grow_c (m : Nat) (hm : 1 ≤ m) (hm2 : m ≤ 100000) (w : World) : Calls Try.prog 62 #[.slice none 0 0, .int .i64 (m : Nat)] w fun e w' => ∃ P C, e = .returned (.slice P 0 C) ∧ w'.ownsRow w.heap.size 3 1 (.slice P 0 C) 0 [] ∧ Below w.heap.size w w' := by
  obtain ⟨i0, hi0, hh⟩ := Option.map_eq_some_iff.1 info3
  simp only [Prod.mk.injEq] at hh
  obtain ⟨hz0, hz1, hz2⟩ := hh
  have hr := fun ty => Lib.run_append_nil_zeros (P := Try.prog) w 46 3 ty 3 i0 _ .i64 .i64 Try.underlying46 Try.underlying3 hi0 hz0 m hm (by omega) (by omega) (by rw [hz2]; omega)
  have hGn := grownCap_ge w m 0 3
  have hGm := grownCap_le_maxLen w m 0 3 (by unfold maxLen; omega)
  generalize grownCap w m 0 3 = G at hr hGn hGm
  have hsz : (Builtin.zeroCells (Value.int .i64 0).cells m ++ Builtin.zeroCells (Value.int .i64 0).cells (G - m)).size = G := by simp [Builtin.zeroCells, Value.cells]; omega
  generalize (Builtin.zeroCells (Value.int .i64 0).cells m ++ Builtin.zeroCells (Value.int .i64 0).cells (G - m)) = ROW at hr hsz
  have hb : Below w.heap.size w (w.drew.alloc (.cells ROW 3)) := below_alloc (a := w) (b := w.drew) ⟨rfl, rfl, rfl, Nat.le_refl _, fun _ _ => rfl⟩ _
  have hi : Is (w.drew.alloc (.cells ROW 3)) w.heap.size 3 ROW := Is.new w.drew 3 ROW
  obtain ⟨w1, e1⟩ : ∃ w1, w.drew.alloc (.cells ROW 3) = w1 := ⟨_, rfl⟩
  rw [e1] at hr hb hi
  have HB := Lib.hid hb
  have HI := Lib.hid hi
  clear hb hi e1 hi0 hz0 hz1 hz2
  unfold maxLen at hGm
  have hG0 : ¬ (G = 0) := by omega
  go_enter Try.func62, Try.ntmps62
  go_wp2_with (at_builtin; refine Lib.wpList_append_run _ rfl _ _ _ _ rfl _ _ rfl rfl _ _ (hr _) ?_)
  go_ret
  exact ⟨_, _, rfl, ⟨rfl, .inr ⟨w.heap.size, G, ROW, rfl, Nat.le_refl _, HI.out, Nat.zero_le _, by unfold maxLen; exact hGm, by omega, rfl⟩⟩, HB.out⟩
/-- A row of the call's own has turned. -/
theorem Below.grown_own {w wr w3 : World} {e size n : Nat} {v : Value} {cs : List Value} (hb : Below w.heap.size w wr) (h : wr.ownsRow w.heap.size e size v n cs) (hg : wr.grownBy w3 v.ownBlock) : Below w.heap.size w w3 := by
  refine hb.grown hg hb.size (fun r er => ?_)
  rcases h.2 with ⟨e, _⟩ | ⟨g, cap, cur, e, h1, _⟩
  · rw [e] at er; cases er
  · rw [e] at er
    have : g = r := Option.some.inj er
    omega
/-- Of k of two. -/
def pre (l1 l2 : List Int) (k : Nat) : List Int := if k = 0 then [] else if k = 1 then l1 else l1 ++ l2
set_option maxHeartbeats 2000000 in
theorem concat_c {w : World} {g n1 n2 C1 C2 : Nat} {P1 P2 : Option Addr} {l1 l2 : List Int} (hg : Is w g 46 #[.slice P1 n1 C1, .slice P2 n2 C2]) (h1 : Sl w (.slice P1 n1 C1) l1) (h2 : Sl w (.slice P2 n2 C2) l2) (hp : 1 ≤ l1.length) (hl1 : l1.length ≤ 1000) (hl2 : l2.length ≤ 8192) :
    Calls Try.prog 37 #[.slice (some ⟨g, 0, none⟩) 2 2] w fun e w' => ∃ P C, e = .returned (.slice P (l1 ++ l2).length C) ∧ w'.ownsRow w.heap.size 3 1 (.slice P (l1 ++ l2).length C) (l1 ++ l2).length (zs (l1 ++ l2)) ∧ Below w.heap.size w w' := by
  have e1 : n1 = l1.length := by obtain ⟨a, c, e, _⟩ := h1; injection e
  have e2 : n2 = l2.length := by obtain ⟨a, c, e, _⟩ := h2; injection e
  have hln : (l1 ++ l2).length = n1 + n2 := by rw [List.length_append, e1, e2]
  have hcell : ∀ wx, Below w.heap.size w wx → wx.cell? ⟨g, 0, none⟩ = some (.slice P1 n1 C1) ∧ wx.cell? ⟨g, 1, none⟩ = some (.slice P2 n2 C2) := fun wx hb => by
    have hk := (Kp.of_below hb []).is hg (by simp)
    have c0 := hk.cell 0
    have c1 := hk.cell 1
    simp at c0 c1
    exact ⟨c0, c1⟩
  obtain ⟨c0, c1⟩ := hcell w (Below.refl _ _)
  have b1 : n1 ≤ 1000 := by omega
  have b2 : n2 ≤ 8192 := by omega
  have b3 : 1 ≤ n1 := by omega
  have hgrow := fun W => grow_c (n1 + n2) (by omega) (by omega) W
  rw [show ((n1 + n2 : Nat) : Int) = (n1 : Int) + (n2 : Int) by omega] at hgrow
  have w1 : IntKind.i64.wrap ((n1 : Int) + (n2 : Int)) = (n1 : Int) + (n2 : Int) := wrap_small (by omega) (by omega)
  have HC := Lib.hid hcell
  have HG := Lib.hid hgrow
  have H1 := Lib.hid h1
  have H2 := Lib.hid h2
  have HE1 := Lib.hid e1
  have HE2 := Lib.hid e2
  have HLN := Lib.hid hln
  clear hcell hgrow h1 h2 hg hp hl1 hl2 e1 e2 hln
  go_enter Try.func37, Try.ntmps37
  go_wp2
  go_loopw [3, 5, 11] (fun sz _ i wr => ∃ k : Nat, k ≤ 2 ∧ i = .int .i64 k ∧ wr = w ∧ sz = .int .i64 (if k = 0 then 0 else if k = 1 then (n1 : Int) else (n1 : Int) + (n2 : Int))) (fun _ _ i _ => 2 - (RowKit.intOf i).toNat)
  case atStart => exact ⟨0, by omega, rfl, rfl, rfl⟩
  case round =>
    obtain ⟨k, hk, rfl, rfl, rfl⟩ := hrel
    obtain rfl | rfl | rfl : k = 0 ∨ k = 1 ∨ k = 2 := by omega
    · simp only [if_true]
      go_wp2
      go_roundw
      case rel => exact ⟨1, by omega, by go_num, trivial, by simp⟩
      case measure => simp [RowKit.intOf]
    · simp only [if_true, if_false, Nat.one_ne_zero]
      go_wp2
      go_roundw
      case rel => exact ⟨2, by omega, by go_num, trivial, by simp⟩
      case measure => simp [RowKit.intOf]
    · simp only [if_false, show ¬ (2 : Nat) = 0 by omega, show ¬ (2 : Nat) = 1 by omega]
      go_wp2_with (go_at_call 62; refine (HG.out _).mono ?_; rintro e w2 ⟨P, C, rfl, hrow, hb⟩; have HR := Lib.hid hrow; have HB := Lib.hid hb; clear hrow hb)
      go_loopw [6, 8, 27] (fun ns _ i wz => ∃ (k : Nat) (P : Option Addr) (C : Nat), k ≤ 2 ∧ i = .int .i64 k ∧ ns = .slice P (pre l1 l2 k).length C ∧ wz.ownsRow wr.heap.size 3 1 (.slice P (pre l1 l2 k).length C) (pre l1 l2 k).length (zs (pre l1 l2 k)) ∧ Below wr.heap.size wr wz) (fun _ _ i _ => 2 - (RowKit.intOf i).toNat)
      case atStart => exact ⟨0, P, C, by omega, rfl, rfl, HR.out, HB.out⟩
      case round =>
        obtain ⟨k, P, C, hk, rfl, rfl, hrow, hb⟩ := hrel
        obtain ⟨d0, d1⟩ := HC.out _ hb
        obtain rfl | rfl | rfl : k = 0 ∨ k = 1 ∨ k = 2 := by omega
        · obtain ⟨P', C', w3, hrun, hrow3, hg3, _⟩ := app_ints hrow (H1.out.below hb) (by have := HE1.out; simp [pre]; omega) hb.size 46
          have hb3 := Below.grown_own hb hrow hg3
          have HR3 := Lib.hid hrow3
          have HB3 := Lib.hid hb3
          clear hrow3 hg3 hrow hb hb3
          simp only [pre, if_true, List.nil_append, List.length_nil] at hrun HR3 ⊢
          go_wp2_with (at_builtin; refine Lib.wpList_append_run _ rfl _ _ _ _ rfl _ _ rfl rfl _ _ hrun ?_)
          go_roundw
          case rel => exact ⟨1, P', C', by omega, by go_num, rfl, HR3.out, HB3.out⟩
          case measure => simp [RowKit.intOf]
        · obtain ⟨P', C', w3, hrun, hrow3, hg3, _⟩ := app_ints hrow (H2.out.below hb) (by have := HE1.out; have := HE2.out; simp [pre]; omega) hb.size 46
          have hb3 := Below.grown_own hb hrow hg3
          have HR3 := Lib.hid hrow3
          have HB3 := Lib.hid hb3
          clear hrow3 hg3 hrow hb hb3
          simp only [pre, if_true, if_false, Nat.one_ne_zero] at hrun HR3 ⊢
          go_wp2_with (at_builtin; refine Lib.wpList_append_run _ rfl _ _ _ _ rfl _ _ rfl rfl _ _ hrun ?_)
          go_roundw
          case rel => exact ⟨2, P', C', by omega, by go_num, by simp, HR3.out, HB3.out⟩
          case measure => simp [RowKit.intOf]
        · have HR3 := Lib.hid hrow
          have HB3 := Lib.hid hb
          clear hrow hb
          simp only [pre, if_false, show ¬ (2 : Nat) = 0 by omega, show ¬ (2 : Nat) = 1 by omega] at HR3 ⊢
          go_wp2
          go_ret
          exact ⟨_, _, rfl, HR3.out, HB3.out⟩
end Go.Proofs.Ytnpjbddannkgfaa
