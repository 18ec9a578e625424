/- The document's allocator in memory; Ints, Same, count, At. Conditions: none. -/
import Derived.Test.YtnpjbddannkgfaaBkA
namespace Go.Proofs.Ytnpjbddannkgfaa
open Go.ChangeShapes Go.WideShapes Go.RowKit Go.Maps Go.Spans Go.Alloc
set_option maxRecDepth 100000
/-- A row of yes and no. -/
def Bs (w : World) (H n : Nat) (h : Nat → Bool) : Prop := ∃ cur, Is w H 4 cur ∧ cur.size = n ∧ ∀ k, k < n → cur[k]? = some (.bool (h k))
theorem Bs.cell {w : World} {H n : Nat} {h : Nat → Bool} (x : Bs w H n h) (k : Nat) (hk : k < n) : w.cell? ⟨H, k, none⟩ = some (.bool (h k)) := by
  obtain ⟨cur, hi, _, hc⟩ := x
  exact (hi.cell k).trans (hc k hk)
theorem Bs.frozen {w : World} {H n : Nat} {h : Nat → Bool} (x : Bs w H n h) (k : Nat) : w.frozen? ⟨H, k, none⟩ = false := by
  obtain ⟨cur, hi, _, hc⟩ := x
  exact hi.frozen k
theorem Bs.lt {w : World} {H n : Nat} {h : Nat → Bool} (x : Bs w H n h) : H < w.heap.size := by
  obtain ⟨cur, hi, _⟩ := x
  exact hi.lt
theorem Bs.kept {w w' : World} {H n : Nat} {h : Nat → Bool} {X : List Nat} (x : Bs w H n h) (hk : Kp w w' X) (hX : H ∉ X) : Bs w' H n h := by
  obtain ⟨cur, hi, r⟩ := x
  exact ⟨cur, hk.is hi hX, r⟩
theorem Bs.kq {w w' : World} {H n : Nat} {h : Nat → Bool} (x : Bs w H n h) (hk : Kq w w') : Bs w' H n h := by
  obtain ⟨cur, hi, r⟩ := x
  exact ⟨cur, hk.is _ _ _ hi (by decide) (by decide), r⟩
theorem Bs.below {w w' : World} {H n : Nat} {h : Nat → Bool} (x : Bs w H n h) (hb : Below w.heap.size w w') : Bs w' H n h := x.kept (Kp.of_below hb []) (by simp)
theorem Bs.ext {w : World} {H n : Nat} {h h' : Nat → Bool} (x : Bs w H n h) (e : ∀ k, k < n → h k = h' k) : Bs w H n h' := by
  obtain ⟨cur, hi, hs, hc⟩ := x
  exact ⟨cur, hi, hs, fun k hk => by rw [hc k hk, e k hk]⟩
theorem Bs.put {w : World} {H n : Nat} {h : Nat → Bool} (x : Bs w H n h) (k : Nat) (u : Bool) : Bs (w.setCell ⟨H, k, none⟩ (.bool u)) H n (fun j => if j = k then u else h j) := by
  obtain ⟨cur, hi, hs, hc⟩ := x
  refine ⟨_, hi.put k (.bool u), by simpa using hs, fun j hj => ?_⟩
  rw [Array.getElem?_setIfInBounds]
  have hjs : j < cur.size := by omega
  by_cases e : k = j
  · subst e; simp [hjs]
  · rw [if_neg e, hc j hj]; simp [show ¬ j = k by omega]
/-- A chain, as the document has it. -/
def kc (x : Value × Ch) : List Value := [x.1, .int .i64 (x.2.refs : Nat), .bool x.2.sure]
def kcs (l : List (Value × Ch)) : List Value := l.flatMap kc
theorem kcs_len (l : List (Value × Ch)) : (kcs l).length = l.length * 3 := by
  induction l with
  | nil => rfl
  | cons e ys ih => simp [kcs, kc] at *; omega
theorem kcs_app (l m : List (Value × Ch)) : kcs (l ++ m) = kcs l ++ kcs m := by simp [kcs]
theorem kcs_at (l : List (Value × Ch)) (i : Nat) (x : Value × Ch) (h : l[i]? = some x) : (kcs l)[3 * i]? = some x.1 ∧ (kcs l)[3 * i + 1]? = some (.int .i64 (x.2.refs : Nat)) ∧ (kcs l)[3 * i + 2]? = some (.bool x.2.sure) := by
  induction l generalizing i with
  | nil => simp at h
  | cons e ys ih =>
    cases i with
    | zero => simp at h; subst h; exact ⟨rfl, rfl, rfl⟩
    | succ i =>
      have := ih i (by simpa using h)
      have e1 : kcs (e :: ys) = e.1 :: .int .i64 (e.2.refs : Nat) :: .bool e.2.sure :: kcs ys := rfl
      rw [e1]
      simpa [Nat.mul_succ] using this
/-- The document's allocator: its struct's block, those of the rows of yes and no, its list. -/
structure Rf (w : World) (B R hF hW f n : Nat) (fr wt : Nat → Bool) (vL : Value) (ks : List (Value × Ch)) : Prop where
  one : Is w R 72 #[.int .i64 (f : Nat), .int .i64 (n : Nat), .slice (some ⟨hF, 0, none⟩) n n, .slice (some ⟨hW, 0, none⟩) n n, vL]
  fb : Bs w hF n fr
  wb : Bs w hW n wt
  ne : hF ≠ hW
  lo : B ≤ R ∧ B ≤ hF ∧ B ≤ hW
  row : w.ownsRow B 85 3 vL ks.length (kcs ks)
  rows : ∀ k ∈ ks, w.ownsRow 0 3 1 k.1 k.2.secs.length (zs (nz k.2.secs))
section
variable {w w' : World} {B R hF hW f n : Nat} {fr wt : Nat → Bool} {vL : Value} {ks : List (Value × Ch)}
theorem Rf.kq (h : Rf w B R hF hW f n fr wt vL ks) (hk : Kq w w') : Rf w' B R hF hW f n fr wt vL ks :=
  ⟨hk.is _ _ _ h.one (by decide) (by decide), h.fb.kq hk, h.wb.kq hk, h.ne, h.lo, hk.row h.row (by decide) (by decide), fun k hm => hk.row (h.rows k hm) (by decide) (by decide)⟩
theorem Rf.below (h : Rf w B R hF hW f n fr wt vL ks) (hb : Below w.heap.size w w') : Rf w' B R hF hW f n fr wt vL ks := h.kq (Kq.below hb)
theorem add_nil (q : Addr) : q.add 0 = q := by unfold Addr.add; split <;> simp_all
/-- A chain of the list, its cells and its sectors' cells. -/
theorem Rf.at (h : Rf w B R hF hW f n fr wt vL ks) {i : Nat} {x : Value × Ch} (hx : ks[i]? = some x) : ∃ ad cap P c, vL = .slice (some ad) ks.length cap ∧ x.1 = .slice P x.2.secs.length c ∧
    w.cell? (ad.add (i * 3)) = some (.slice P x.2.secs.length c) ∧ w.cell? ⟨(ad.add (i * 3)).block, (ad.add (i * 3)).off + 1, none⟩ = some (.int .i64 (x.2.refs : Nat)) ∧ w.cell? ⟨(ad.add (i * 3)).block, (ad.add (i * 3)).off + 2, none⟩ = some (.bool x.2.sure) ∧
    ∀ j y, (nz x.2.secs)[j]? = some y → ∃ p, P = some p ∧ w.cell? (p.add j) = some (.int .i64 y) := by
  have hlt := (List.getElem?_eq_some_iff.1 hx).1
  obtain ⟨P, c, e1⟩ := own_shape (h.rows x (List.mem_of_getElem? hx))
  have hr := h.rows x (List.mem_of_getElem? hx)
  have e2 : (nz x.2.secs).length = x.2.secs.length := by simp [nz]
  rw [← e2] at hr
  obtain ⟨P', c', e3, hc⟩ := own_sl hr
  rw [e1] at e3
  injection e3 with e3 _ _
  subst e3
  obtain ⟨o1, o2, o3⟩ := kcs_at ks i x hx
  rcases h.row.2 with ⟨e, h0⟩ | ⟨g, cap, cur, e, _, hb, _, _, _, htk⟩
  · omega
  · have hi3 : Is w g 85 cur := hb
    have e3 : (⟨g, 0, none⟩ : Addr).add (i * 3) = ⟨g, 3 * i, none⟩ := by rw [add_at, Nat.zero_add, Nat.mul_comm]
    refine ⟨_, cap, P, c, e, e1, ?_, ?_, ?_, hc⟩
    · rw [e3, hi3.cell, ← e1]; exact cur_get htk o1
    · rw [e3, hi3.cell]; exact cur_get htk o2
    · rw [e3, hi3.cell]; exact cur_get htk o3
theorem Rf.cells (h : Rf w B R hF hW f n fr wt vL ks) : w.cell? ⟨R, 0, none⟩ = some (.int .i64 (f : Nat)) ∧ w.cell? ⟨R, 1, none⟩ = some (.int .i64 (n : Nat)) ∧ w.cell? ⟨R, 2, none⟩ = some (.slice (some ⟨hF, 0, none⟩) n n) ∧ w.cell? ⟨R, 3, none⟩ = some (.slice (some ⟨hW, 0, none⟩) n n) ∧ w.cell? ⟨R, 4, none⟩ = some vL := by
  have a0 := h.one.cell 0
  have a1 := h.one.cell 1
  have a2 := h.one.cell 2
  have a3 := h.one.cell 3
  have a4 := h.one.cell 4
  simp at a0 a1 a2 a3 a4
  exact ⟨a0, a1, a2, a3, a4⟩
theorem Rf.shape (h : Rf w B R hF hW f n fr wt vL ks) : ∃ P C, vL = .slice P ks.length C := own_shape h.row
end
/-- Numbers that a slice tells. -/
theorem ints_c {w : World} {v u : Value} {xs : List Int} (h1 : Sl w v xs) (h2 : Sl w u xs) (hl : xs.length ≤ 8192) :
    Calls Try.prog 42 #[v, u] w fun e w' => e = .returned (.bool true) ∧ Below w.heap.size w w' := by
  obtain ⟨P, c, rfl, hx⟩ := h1
  obtain ⟨P', c', rfl, hy⟩ := h2
  obtain ⟨m, hm⟩ : ∃ m, xs.length = m := ⟨_, rfl⟩
  have HX := Lib.hid hx
  have HY := Lib.hid hy
  have HM := Lib.hid hm
  rw [hm] at hl ⊢
  clear hx hy hm
  go_enter Try.func42, Try.ntmps42
  go_wp2
  go_loopw [5] (fun i wr => ∃ k : Nat, i = .int .i64 k ∧ k ≤ m ∧ Below w.heap.size w wr) (fun i _ => m - (RowKit.intOf i).toNat)
  case atStart => exact ⟨0, rfl, Nat.zero_le _, Below.refl _ _⟩
  case round =>
    obtain ⟨k, rfl, hk, hbr⟩ := hrel
    by_cases hlt : k < m
    · have hxk : xs[k]? = some (xs[k]'(by rw [HM.out]; exact hlt)) := List.getElem?_eq_getElem _
      generalize xs[k]'(by rw [HM.out]; exact hlt) = y at hxk
      obtain ⟨p, rfl, c1⟩ := HX.out k y hxk
      obtain ⟨q, rfl, c2⟩ := HY.out k y hxk
      have d1 := (hbr.cell (p := p.add k) (World.block_lt_of_cell? w _ c1)).trans c1
      have d2 := (hbr.cell (p := q.add k) (World.block_lt_of_cell? w _ c2)).trans c2
      have HB := Lib.hid hbr
      clear hbr c1 c2 hxk
      go_wp2
      go_quiet (fail)
      go_wp2
      go_roundw
      case rel => exact ⟨k + 1, by go_num, by omega, HB.out.trans ⟨rfl, rfl, rfl, Nat.le_refl _, fun _ _ => rfl⟩⟩
      case measure => simp [RowKit.intOf]; omega
    · obtain rfl : k = m := by omega
      go_wp2
      go_ret
      exact ⟨rfl, hbr⟩
/-- How many are so of the first k. -/
def cb (h : Nat → Bool) (k : Nat) : Nat := ((List.range k).filter h).length
theorem cb_succ (h : Nat → Bool) (k : Nat) : cb h (k + 1) = if h k then cb h k + 1 else cb h k := by
  unfold cb
  rw [List.range_succ, List.filter_append]
  cases hk : h k <;> simp [hk]
theorem cb_le (h : Nat → Bool) (k : Nat) : cb h k ≤ k := by
  unfold cb
  have := List.length_filter_le h (List.range k)
  simpa using this
theorem rcount_c {w : World} {H n : Nat} {h : Nat → Bool} (x : Bs w H n h) (hn : n ≤ 4096) :
    Calls Try.prog 64 #[.slice (some ⟨H, 0, none⟩) n n] w fun e w' => e = .returned (.int .i64 (cb h n : Nat)) ∧ w' = w := by
  have HX := Lib.hid x
  clear x
  go_enter Try.func64, Try.ntmps64
  go_wp2
  go_loopw [3, 4] (fun c i wr => ∃ k : Nat, i = .int .i64 k ∧ k ≤ n ∧ c = .int .i64 (cb h k : Nat) ∧ wr = w) (fun _ i _ => n - (RowKit.intOf i).toNat)
  case atStart => exact ⟨0, rfl, Nat.zero_le _, rfl, rfl⟩
  case round =>
    obtain ⟨k, rfl, hk, rfl, hw⟩ := hrel
    have hw' := hw.symm
    clear hw
    subst hw'
    have hs := cb_succ h k
    have hl := cb_le h k
    by_cases hlt : k < n
    · have hz : (k : Int) < (n : Int) := by omega
      have c3 := HX.out.cell k hlt
      rcases Bool.eq_false_or_eq_true (h k) with hh | hh
      · rw [hh] at c3
        rw [hh, if_pos rfl] at hs
        generalize cb h k = c at *
        generalize hq : cb h (k + 1) = c' at *
        subst hs
        go_wp2
        go_roundw
        case rel => exact ⟨k + 1, by go_num, hlt, by rw [hq]; go_num, by simp⟩
        case measure => simp [RowKit.intOf]; omega
      · rw [hh] at c3
        rw [hh, if_neg (by simp)] at hs
        clear hl
        rw [← hs]
        go_wp2
        go_roundw
        case rel => exact ⟨k + 1, by go_num, hlt, rfl, by simp⟩
        case measure => simp [RowKit.intOf]; omega
    · have hke : k = n := by omega
      subst hke
      clear hs hl
      go_wp2
      go_ret
      exact ⟨rfl, rfl⟩
section
variable {w : World} {B R hF hW f n : Nat} {fr wt : Nat → Bool} {vL : Value} {ks : List (Value × Ch)}
theorem frees_c (h : Rf w B R hF hW f n fr wt vL ks) (hn : n ≤ 4096) : Calls Try.prog 48 #[.pointer (some ⟨R, 0, none⟩)] w fun e w' => e = .returned (.int .i64 (cb fr n : Nat)) ∧ w' = w := by
  obtain ⟨_, _, a2, _, _⟩ := h.cells
  have hc := rcount_c h.fb hn
  clear h
  go_enter Try.func48, Try.ntmps48
  go_wp2_with (go_at_call 64; refine hc.mono ?_; rintro e w' ⟨rfl, rfl⟩)
  go_ret
  exact ⟨rfl, rfl⟩
theorem waits_c (h : Rf w B R hF hW f n fr wt vL ks) (hn : n ≤ 4096) : Calls Try.prog 49 #[.pointer (some ⟨R, 0, none⟩)] w fun e w' => e = .returned (.int .i64 (cb wt n : Nat)) ∧ w' = w := by
  obtain ⟨_, _, _, a3, _⟩ := h.cells
  have hc := rcount_c h.wb hn
  clear h
  go_enter Try.func49, Try.ntmps49
  go_wp2_with (go_at_call 64; refine hc.mono ?_; rintro e w' ⟨rfl, rfl⟩)
  go_ret
  exact ⟨rfl, rfl⟩
theorem at_c (h : Rf w B R hF hW f n fr wt vL ks) (hne : ∀ x ∈ ks, x.2.secs ≠ []) (hl : ks.length ≤ 8192) (p : Int) (hp : i64r p) : Calls Try.prog 50 #[.pointer (some ⟨R, 0, none⟩), .int .i64 p] w fun e w' =>
    ((∃ (k : Nat) (x : Value × Ch), ks[k]? = some x ∧ (x.2.place : Int) = p ∧ e = .returned (.int .i64 (k : Int))) ∨ ((∀ x ∈ ks, (x.2.place : Int) ≠ p) ∧ e = .returned (.int .i64 (-1)))) ∧ w' = w := by
  obtain ⟨_, _, _, _, a4⟩ := h.cells
  obtain ⟨P0, C0, rfl⟩ := h.shape
  obtain ⟨m, hm⟩ : ∃ m, ks.length = m := ⟨_, rfl⟩
  have HH := Lib.hid h
  have HN := Lib.hid hne
  have HM := Lib.hid hm
  rw [hm] at hl a4
  obtain ⟨hp1, hp2⟩ := hp
  clear h hne hm
  go_enter Try.func50, Try.ntmps50
  go_wp2
  go_loopw [5] (fun i wr => ∃ k : Nat, i = .int .i64 k ∧ k ≤ m ∧ (∀ x ∈ ks.take k, (x.2.place : Int) ≠ p) ∧ wr = w) (fun i _ => m - (RowKit.intOf i).toNat)
  case atStart => exact ⟨0, rfl, Nat.zero_le _, by simp, rfl⟩
  case round =>
    obtain ⟨k, rfl, hk, hall, hw⟩ := hrel
    have hw' := hw.symm
    clear hw
    subst hw'
    by_cases hlt : k < m
    · have hxk : ks[k]? = some (ks[k]'(by rw [HM.out]; exact hlt)) := List.getElem?_eq_getElem _
      obtain ⟨x, ex⟩ : ∃ x, ks[k]'(by rw [HM.out]; exact hlt) = x := ⟨_, rfl⟩
      rw [ex] at hxk
      have hxm := List.mem_of_getElem? hxk
      obtain ⟨ad, cap, P, c, e1, e2, d0, d1, d2, d3⟩ := HH.out.at hxk
      injection e1 with e1 _ _
      subst e1
      have hs := HN.out x hxm
      obtain ⟨q, rfl, c0⟩ := d3 0 (x.2.place : Nat) (by rw [secs_split hs]; rfl)
      have hpos : 0 < x.2.secs.length := List.length_pos_iff.2 hs
      have HA := Lib.hid hall
      have HK := Lib.hid hxk
      obtain ⟨pl, hpl⟩ : ∃ pl : Nat, x.2.place = pl := ⟨_, rfl⟩
      rw [hpl, add_nil] at c0
      have HPL := Lib.hid hpl
      generalize x.2.secs.length = sl at *
      clear hall hxk d3 hxm ex hpl hs
      by_cases he : (pl : Int) = p
      · go_wp2
        go_ret
        exact ⟨.inl ⟨k, x.1, x.2, HK.out, by rw [HPL.out]; exact he, rfl⟩, rfl⟩
      · go_wp2
        go_roundw
        case rel =>
          refine ⟨k + 1, by go_num, hlt, fun y hy => ?_, by simp⟩
          rw [List.take_add_one, HK.out] at hy
          rcases List.mem_append.1 hy with hy | hy
          · exact HA.out y hy
          · simp at hy; subst hy; rw [HPL.out]; exact he
        case measure => simp [RowKit.intOf]; omega
    · obtain rfl : k = m := by omega
      have hall' : ∀ x ∈ ks, (x.2.place : Int) ≠ p := by rw [← HM.out, List.take_length] at hall; exact hall
      have HA := Lib.hid hall'
      clear hall hall'
      go_wp2
      go_ret
      exact ⟨.inr ⟨HA.out, rfl⟩, rfl⟩
end
/-- Two lists of chains that tell the same. -/
theorem rsame_c {w : World} {B1 B2 : Nat} {P1 P2 : Option Addr} {l1 l2 : List Od} (h1 : Ls w B1 P1 l1) (h2 : Ls w B2 P2 l2) (hs : l1.map tell' = l2.map tell') (hl : l1.length ≤ 8192) (hr : ∀ x ∈ l1, x.rest.length ≤ 8192) (C1 C2 m : Nat) (hm1 : l1.length = m) (hm2 : l2.length = m) :
    Calls Try.prog 46 #[.slice P1 m C1, .slice P2 m C2] w fun e w' => e = .returned (.bool true) ∧ Below w.heap.size w w' := by
  have H1 := Lib.hid h1
  have H2 := Lib.hid h2
  have HS := Lib.hid hs
  have HR := Lib.hid hr
  have HM1 := Lib.hid hm1
  have HM2 := Lib.hid hm2
  rw [hm1] at hl
  clear h1 h2 hs hr hm1 hm2
  go_enter Try.func46, Try.ntmps46
  go_wp2
  go_loopw [5] (fun i wr => ∃ k : Nat, i = .int .i64 k ∧ k ≤ m ∧ Below w.heap.size w wr) (fun i _ => m - (RowKit.intOf i).toNat)
  case atStart => exact ⟨0, rfl, Nat.zero_le _, Below.refl _ _⟩
  case round =>
    obtain ⟨k, rfl, hk, hbr⟩ := hrel
    by_cases hlt : k < m
    · have hx : l1[k]? = some (l1[k]'(by rw [HM1.out]; exact hlt)) := List.getElem?_eq_getElem _
      have hy : l2[k]? = some (l2[k]'(by rw [HM2.out]; exact hlt)) := List.getElem?_eq_getElem _
      generalize l1[k]'(by rw [HM1.out]; exact hlt) = x at hx
      generalize l2[k]'(by rw [HM2.out]; exact hlt) = y at hy
      have ht : tell' x = tell' y := by
        have e1 : (l1.map tell')[k]? = some (tell' x) := by rw [List.getElem?_map, hx]; rfl
        have e2 : (l2.map tell')[k]? = some (tell' y) := by rw [List.getElem?_map, hy]; rfl
        rw [HS.out, e2] at e1
        exact (Option.some.inj e1).symm
      obtain ⟨xp, xr, xP, xc, xrest⟩ := x
      obtain ⟨yp, yr, yP, yc, yrest⟩ := y
      simp only [tell', Prod.mk.injEq] at ht
      obtain ⟨rfl, rfl, rfl⟩ := ht
      have hrl := HR.out _ (List.mem_of_getElem? hx)
      simp only at hrl
      obtain ⟨n1, _, ad1, rfl, q1, c0, c1, c2⟩ := H1.out k _ hx
      obtain ⟨n2, _, ad2, rfl, q2, d0, d1, d2⟩ := H2.out k _ hy
      simp only [Od.v] at *
      have up : ∀ (p : Addr) (v : Value), w.cell? p = some v → wr.cell? p = some v := fun p v h => (hbr.cell (p := p) (World.block_lt_of_cell? w _ h)).trans h
      replace c0 := up _ _ c0
      replace c1 := up _ _ c1
      replace c2 := up _ _ c2
      replace d0 := up _ _ d0
      replace d1 := up _ _ d1
      replace d2 := up _ _ d2
      have hI := fun wx (hb : Below wr.heap.size wr wx) => ints_c (w := wx) ((n1.sl xc).below (hbr.trans (hb.mono hbr.size))) ((n2.sl yc).below (hbr.trans (hb.mono hbr.size))) hrl
      have HI := Lib.hid hI
      have HB := Lib.hid hbr
      have hB0 := Below.refl wr.heap.size wr
      clear hI hbr n1 n2 hx hy up q1 q2
      generalize xrest.length = rl at *
      have hS : ∀ wx, Below wr.heap.size wr wx → wx.cell? (ad1.add (k * 3)) = some (Value.int IntKind.i64 xp) ∧ wx.cell? { block := (ad1.add (k * 3)).block, off := (ad1.add (k * 3)).off + 1 } = some (Value.int IntKind.i64 xr) ∧ wx.cell? { block := (ad1.add (k * 3)).block, off := (ad1.add (k * 3)).off + 2 } = some (Value.slice xP rl xc) ∧ wx.cell? (ad2.add (k * 3)) = some (Value.int IntKind.i64 xp) ∧ wx.cell? { block := (ad2.add (k * 3)).block, off := (ad2.add (k * 3)).off + 1 } = some (Value.int IntKind.i64 xr) ∧ wx.cell? { block := (ad2.add (k * 3)).block, off := (ad2.add (k * 3)).off + 2 } = some (Value.slice yP rl yc) := fun wx hb =>
        have up : ∀ (p : Addr) (v : Value), wr.cell? p = some v → wx.cell? p = some v := fun p v h => (hb.cell (p := p) (World.block_lt_of_cell? wr _ h)).trans h
        ⟨up _ _ c0, up _ _ c1, up _ _ c2, up _ _ d0, up _ _ d1, up _ _ d2⟩
      have hbd : Below wr.heap.size wr wr.drew := below_drew hB0
      have S2 := hS _ hbd
      have hI := HI.out _ hbd
      have HS2 := Lib.hid hS
      have HBD := Lib.hid hbd
      clear hS hbd HI hB0 c0 c1 c2 d0 d1 d2
      go_wp2
      go_region_held3 (fun wx => wx.cell? (ad1.add (k * 3)) = some (Value.int IntKind.i64 xp) ∧ wx.cell? { block := (ad1.add (k * 3)).block, off := (ad1.add (k * 3)).off + 1 } = some (Value.int IntKind.i64 xr) ∧ wx.cell? { block := (ad1.add (k * 3)).block, off := (ad1.add (k * 3)).off + 2 } = some (Value.slice xP rl xc) ∧ wx.cell? (ad2.add (k * 3)) = some (Value.int IntKind.i64 xp) ∧ wx.cell? { block := (ad2.add (k * 3)).block, off := (ad2.add (k * 3)).off + 1 } = some (Value.int IntKind.i64 xr) ∧ wx.cell? { block := (ad2.add (k * 3)).block, off := (ad2.add (k * 3)).off + 2 } = some (Value.slice yP rl yc)) (first | exact S2 | exact HS2.out _ (by assumption))
        (first
          | (go_at_call 42; refine hI.mono ?_; rintro e w4 ⟨rfl, hb4⟩; (have hb14 := HBD.out.trans (hb4.mono HBD.out.size)); clear hb4))
      go_wp2
      go_roundw
      case rel => exact ⟨k + 1, by go_num, by omega, HB.out.trans (hb14.mono HB.out.size)⟩
      case measure => simp [RowKit.intOf]; omega
    · obtain rfl : k = m := by omega
      go_wp2
      go_ret
      exact ⟨rfl, hbr⟩
end Go.Proofs.Ytnpjbddannkgfaa
