/- slices.Insert of one span. Conditions: the span lies in a block of its own. -/
import Derived.Test.YtnpjbddannkgfaaSpF
namespace Go.Proofs.Ytnpjbddannkgfaa
open Go.ChangeShapes Go.WideShapes Go.RowKit Go.Spans Go.Shelf
set_option maxRecDepth 100000
/-- What an insertion hands back. -/
def Ins (w : World) (v : Value) (xs : List Sp) (e : Ending) (w' : World) : Prop :=
  ∃ v', e = .returned v' ∧ Rw w' 0 v' xs ∧ w.grownBy w' v.ownBlock ∧ (v'.ownBlock = v.ownBlock ∨ v'.ownBlock = some w.heap.size)
theorem overlaps_c {w : World} {vb g : Nat} {a b : Value} {cur : Array Value} (hv : Is w vb 101 #[a, b]) (hg : Is w g 101 cur) (hne : vb ≠ g) (hc : 0 < cur.size) (o lb cb : Nat) :
    (callFunc 78 #[.slice (some ⟨vb, 0, none⟩) 1 1, .slice (some ⟨g, o, none⟩) lb cb]).run Try.prog w = .ok (.value (.bool false)) w := by
  have hsa : w.shape? vb = some (101, 2) := by unfold Is at hv; simp [World.shape?, hv]
  have hsb : w.shape? g = some (101, cur.size) := by unfold Is at hg; simp [World.shape?, hg]
  rw [run_callFunc_extern Try.func78 (by kernel_rfl) (by kernel_rfl) (by kernel_rfl) (e := Extern.SlicesOverlaps.overlaps #[97, 97] #[4]) (by kernel_rfl),
    Lib.run_overlaps_apart w 97 4 101 Try.underlying97 2 Try.sizeOf101 ⟨vb, 0, none⟩ ⟨g, o, none⟩ 1 1 lb cb hne 101 101 2 cur.size hsa hsb (by omega) (hv.frozen 0) (hv.frozen 2)]
  rfl
theorem one_of {x y : Nat} : ∀ u ∈ [Value.int .i64 x, Value.int .i64 y], u.oneCell' = true := by simp [Value.oneCell']
theorem span_src {w : World} {vb : Nat} {a b : Value} (hv : Is w vb 101 #[a, b]) : ∀ j u, [a, b][j]? = some u → w.cell? ((⟨vb, 0, none⟩ : Addr).add j) = some u :=
  src_of hv (fun j u hj => by simpa using hj)
/-- At the end. -/
theorem insert_end {w : World} {v : Value} {xs : List Sp} (h : Rw w 0 v xs) (hlen : xs.length ≤ 4096) {vb : Nat} {e : Sp} (hv : Is w vb 101 #[.int .i64 e.1, .int .i64 e.2]) :
    Calls Try.prog 77 #[v, .int .i64 (xs.length : Nat), .slice (some ⟨vb, 0, none⟩) 1 1] w (Ins w v (xs ++ [e])) := by
  obtain ⟨i0, hi0, hz0, hz1, hz2⟩ := info_parts info63
  have hm1 : xs.length + 1 ≤ maxLen := by unfold maxLen; omega
  have hm2 : (xs.length + 1) * 16 ≤ 140737488355328 := by omega
  obtain ⟨v', w', hr, h2, h3, h4, h5⟩ := run_append_own_at (P := Try.prog) w 0 97 97 101 i0 _ 2 16 Try.underlying97 hi0 hz0 hz1 hz2 rfl (by decide) v xs.length _ h ⟨vb, 0, none⟩ 1 1 [.int .i64 e.1, .int .i64 e.2] rfl (span_src hv) one_of hm1 hm2 (Nat.zero_le _)
  have hres : Ins w v (xs ++ [e]) (.returned v') w' := ⟨v', rfl, by
    unfold Rw
    rw [ecs_append, List.length_append]
    exact h2, h3, h5⟩
  obtain ⟨p', cap', rfl⟩ := own_slice h2
  rcases h.cases with ⟨rfl, rfl⟩ | ⟨g, cap, cur, rfl, hb, hg, k4, k5, k6, k7⟩
  · clear h h2 h3 h4 h5
    go_enter Try.func77, Try.ntmps77
    go_wp2_with (at_builtin; refine Lib.wpList_append_run _ rfl _ _ _ _ rfl _ _ rfl rfl _ _ hr ?_)
    go_ret
    exact hres
  · clear h h2 h3 h4 h5 hg k6 k7
    unfold maxLen at k5
    generalize xs.length = n at *
    go_enter Try.func77, Try.ntmps77
    go_wp2_with (at_builtin; refine Lib.wpList_append_run _ rfl _ _ _ _ rfl _ _ rfl rfl _ _ hr ?_)
    all_goals go_ret
    all_goals exact hres
theorem ec_len (e : Sp) : [Value.int .i64 e.1, Value.int .i64 e.2].length = 2 := rfl
theorem ecs_one1 (e : Sp) : ecs [e] = [.int .i64 e.1, .int .i64 e.2] := rfl
set_option maxHeartbeats 4000000 in
/-- In the midst, where there is room. -/
theorem insert_room {w : World} {g cap i : Nat} {cur : Array Value} {xs : List Sp} (hg : Is w g 101 cur) (hi : i < xs.length) (hroom : xs.length + 1 ≤ cap) (h5 : cap ≤ maxLen) (h6 : cur.size = cap * 2) (h7 : cur.toList.take (xs.length * 2) = ecs xs)
    (hlen : xs.length ≤ 4096) {vb : Nat} {e : Sp} (hv : Is w vb 101 #[.int .i64 e.1, .int .i64 e.2]) (hne : vb ≠ g) :
    Calls Try.prog 77 #[.slice (some ⟨g, 0, none⟩) xs.length cap, .int .i64 (i : Nat), .slice (some ⟨vb, 0, none⟩) 1 1] w (Ins w (.slice (some ⟨g, 0, none⟩) xs.length cap) (xs.take i ++ e :: xs.drop i)) := by
  have hdl : (ecs (xs.drop i)).length = (xs.length - i) * 2 := by rw [ecs_len, List.length_drop]
  have hsrc1 : ∀ j u, (ecs (xs.drop i))[j]? = some u → w.drew.cell? ((⟨g, i * 2, none⟩ : Addr).add j) = some u := src_of (w := w.drew) hg (fun j u hj => by
    rw [← ecs_drop, List.getElem?_drop] at hj
    exact cur_get h7 hj)
  have hcp1 := fun ty dc sc => copy2 (w := w.drew) hg ((i + 1) * 2) (xs.length - i) dc ⟨g, i * 2, none⟩ (xs.length + 1 - i) sc (ecs (xs.drop i)) (xs.length - i) (by omega) hdl hsrc1 (by rw [hdl, h6]; omega) (ecs_one _) ty
  obtain ⟨c1, hc1⟩ : ∃ c1, c1 = spl cur ((i + 1) * 2) (ecs (xs.drop i)) := ⟨_, rfl⟩
  have hs1 : c1.size = cap * 2 := by rw [hc1, spl_size (by rw [hdl, h6]; omega), h6]
  rw [← hc1] at hcp1
  have hg1 : Is (w.drew.setRow g c1) g 101 c1 := Is.row (w := w.drew) hg
  have hv1 : Is (w.drew.setRow g c1) vb 101 #[.int .i64 e.1, .int .i64 e.2] := Is.offrow (w := w.drew) hv hne
  have hcp2 := fun ty dc => copy2 hg1 (i * 2) (xs.length + 1 - i) dc ⟨vb, 0, none⟩ 1 1 [.int .i64 e.1, .int .i64 e.2] 1 (by omega) rfl (span_src hv1) (by rw [hs1]; simp; omega) one_of ty
  obtain ⟨c2, hc2⟩ : ∃ c2, c2 = spl c1 (i * 2) [.int .i64 e.1, .int .i64 e.2] := ⟨_, rfl⟩
  rw [← hc2] at hcp2
  have hs2 : c2.size = cap * 2 := by rw [hc2, spl_size (by rw [hs1]; simp; omega), hs1]
  have hg2 : Is ((w.drew.setRow g c1).setRow g c2) g 101 c2 := hg1.row
  have hll : (xs.take i ++ e :: xs.drop i).length = xs.length + 1 := by simp; omega
  have htk : c2.toList.take ((xs.length + 1) * 2) = ecs (xs.take i ++ e :: xs.drop i) := by
    have a1 : c2.toList.take ((i + 1) * 2) = ecs (xs.take i) ++ [.int .i64 e.1, .int .i64 e.2] := by
      have := spl_take (cur := c1) (o := i * 2) (cs := [.int .i64 e.1, .int .i64 e.2]) (by rw [hs1]; omega)
      rw [← hc2, ec_len, show i * 2 + 2 = (i + 1) * 2 by omega] at this
      rw [this, hc1, spl_low (by omega) (by rw [h6]; omega), ← ecs_take, ← h7, List.take_take, Nat.min_eq_left (by omega)]
    have a2 : c2.toList.drop ((i + 1) * 2) = ecs (xs.drop i) ++ cur.toList.drop ((i + 1) * 2 + (xs.length - i) * 2) := by
      have h2 := spl_drop (cur := c1) (o := i * 2) (cs := [.int .i64 e.1, .int .i64 e.2]) (by rw [hs1]; omega)
      rw [← hc2] at h2
      have h3 := spl_drop (cur := cur) (o := (i + 1) * 2) (cs := ecs (xs.drop i)) (by rw [h6]; omega)
      rw [← hc1, hdl] at h3
      have h4 := congrArg (List.drop 2) h2
      rw [List.drop_drop, show i * 2 + 2 = (i + 1) * 2 by omega] at h4
      rw [h4, ← h3]
      simp [show i * 2 + 2 = (i + 1) * 2 by omega]
    have : c2.toList.take ((xs.length + 1) * 2) = c2.toList.take ((i + 1) * 2) ++ (c2.toList.drop ((i + 1) * 2)).take ((xs.length - i) * 2) := by
      rw [show (xs.length + 1) * 2 = (i + 1) * 2 + (xs.length - i) * 2 by omega, List.take_add]
    rw [this, a1, a2, ← hdl, List.take_left, ecs_append, ecs_cons, List.append_assoc]
    rfl
  have hres : Ins w (.slice (some ⟨g, 0, none⟩) xs.length cap) (xs.take i ++ e :: xs.drop i) (.returned (.slice (some ⟨g, 0, none⟩) (xs.length + 1) cap)) ((w.drew.setRow g c1).setRow g c2) :=
    ⟨_, rfl, by
      have := Rw.mk (base := 0) (xs := xs.take i ++ e :: xs.drop i) (Nat.zero_le g) hg2 (by rw [hll]; exact hroom) h5 hs2 (by rw [hll]; exact htk)
      rwa [hll] at this, ⟨rfl, rfl, rfl, by simp, fun k _ hk => by
        have hkg : k ≠ g := fun e => hk (by simp [Value.ownBlock, e])
        exact (setRow_other _ _ _ _ hkg).trans (setRow_other w.drew g k c1 hkg)⟩, .inl rfl⟩
  have hov : ∀ o lb cb, (callFunc 78 #[.slice (some ⟨vb, 0, none⟩) 1 1, .slice (some ⟨g, o, none⟩) lb cb]).run Try.prog w = .ok (.value (.bool false)) w := overlaps_c hv hg hne (by omega)
  have hz2 : ¬ ((i : Int) = (xs.length : Int)) := by omega
  have hw1 : IntKind.i64.wrap ((i : Int) + (1 : Int)) = (i : Int) + 1 := wrap_small (by omega) (by omega)
  have hw2 : IntKind.i64.wrap ((xs.length : Int) + (1 : Int)) = (xs.length : Int) + 1 := wrap_small (by omega) (by omega)
  unfold maxLen at h5
  have hb1 : (0 : Int) ≤ (i : Int) + 1 := by omega
  have hb2 : ¬ (cap = i + 1) := by omega
  have hb3 : (i : Int) ≤ (xs.length : Int) + 1 := by omega
  have hb4 : ¬ (cap = i) := by omega
  have hin : i ≤ xs.length := by omega
  have htn : ((i : Int) + 1).toNat = i + 1 := by omega
  have mixed : Try.prog.follows .mixedOrders = true := by kernel_rfl
  clear hsrc1 hg1 hv1 hg2 hs1 hs2 htk hll hc1 hc2 h6 h7 hdl hv hg
  generalize xs.length = n at *
  generalize xs.take i ++ e :: xs.drop i = ys at *
  go_enter Try.func77, Try.ntmps77
  go_wp2_with (simp only [hov])
  go_region_law_o (refine step_copy_runI rfl _ _ 97 97 rfl _ _ (by simp [Act.eval, Act.put]) (by simp [Act.eval, Act.put]) (hcp1 _ _ _) ?_)
  go_wp2_with (at_builtin; refine wpList_copy_runI _ rfl _ _ 97 97 rfl _ _ rfl rfl (hcp2 _ _) ?_)
  go_ret
  exact hres
set_option maxHeartbeats 4000000 in
/-- In the midst, where there is no room: a new row. -/
theorem insert_grow {w : World} {g cap i : Nat} {cur : Array Value} {xs : List Sp} (hg : Is w g 101 cur) (hi : i < xs.length) (h4 : xs.length ≤ cap) (hroom : cap < xs.length + 1) (h7 : cur.toList.take (xs.length * 2) = ecs xs)
    (hlen : xs.length ≤ 4096) {vb : Nat} {e : Sp} (hv : Is w vb 101 #[.int .i64 e.1, .int .i64 e.2]) :
    Calls Try.prog 77 #[.slice (some ⟨g, 0, none⟩) xs.length cap, .int .i64 (i : Nat), .slice (some ⟨vb, 0, none⟩) 1 1] w (Ins w (.slice (some ⟨g, 0, none⟩) xs.length cap) (xs.take i ++ e :: xs.drop i)) := by
  obtain ⟨i0, hi0, hz0, hz1, hz2⟩ := info_parts info63
  have hsrcT : ∀ j u, (ecs (xs.take i))[j]? = some u → w.drew.cell? ((⟨g, 0, none⟩ : Addr).add j) = some u := src_of (w := w.drew) hg (fun j u hj => by
    rw [← ecs_take, List.getElem?_take] at hj
    rw [Nat.zero_add]
    split at hj
    · exact cur_get h7 hj
    · cases hj)
  have hold : (Builtin.firstCells i0.size i (.slice (some ⟨g, 0, none⟩) i cap)).run Try.prog w.drew = .ok (ecs (xs.take i)).toArray w.drew := by
    rw [hz1]
    exact run_firstCells_some w.drew 2 i ⟨g, 0, none⟩ i cap (ecs (xs.take i)) (by rw [ecs_len, List.length_take]; omega) hsrcT
  have hkk : (xs.length : Int) + 1 - (i : Int) = ((xs.length + 1 - i : Nat) : Int) := by omega
  have hik : i + (xs.length + 1 - i) = xs.length + 1 := by omega
  have hfit := growslice_fits (need := xs.length + 1) (old := cap) (bytes := 16) (by omega) (by omega)
  have hrz : ∀ ty, (Builtin.append_ #[97, 3] ty #[.slice (some ⟨g, 0, none⟩) i cap, .int .i64 ((xs.length : Int) + 1 - (i : Int))]).run Try.prog w = .ok (.slice (some ⟨w.heap.size, 0, none⟩) (xs.length + 1) (grownCap w (xs.length + 1) cap 101)) (w.drew.alloc (.cells ((ecs (xs.take i)).toArray ++ Builtin.zeroCells (Value.agg #[.int .i64 0, .int .i64 0]).cells (xs.length + 1 - i) ++ Builtin.zeroCells (Value.agg #[.int .i64 0, .int .i64 0]).cells (grownCap w (xs.length + 1) cap 101 - (xs.length + 1))) 101)) := fun ty => by
    have h := Lib.run_append_grow_zeros w 97 3 ty 101 i0 _ .i64 .i64 Try.underlying97 Try.underlying3 hi0 hz0 (some ⟨g, 0, none⟩) i cap (ecs (xs.take i)) hold (xs.length + 1 - i) (by omega) (by omega) (by omega) (by omega) (by rw [hz2]; omega) (by rw [hz2, hik]; exact hfit)
    rw [hik] at h
    rw [hkk]
    exact h
  have hGn := grownCap_ge w (xs.length + 1) cap 101
  have hGm := grownCap_le_maxLen w (xs.length + 1) cap 101 (by unfold maxLen; omega)
  generalize grownCap w (xs.length + 1) cap 101 = G at hrz hGn hGm
  obtain ⟨ROW, hROW⟩ : ∃ ROW : Array Value, ROW = (ecs (xs.take i)).toArray ++ Builtin.zeroCells (Value.agg #[.int .i64 0, .int .i64 0]).cells (xs.length + 1 - i) ++ Builtin.zeroCells (Value.agg #[.int .i64 0, .int .i64 0]).cells (G - (xs.length + 1)) := ⟨_, rfl⟩
  rw [← hROW] at hrz
  have htl : (ecs (xs.take i)).length = i * 2 := by rw [ecs_len, List.length_take, Nat.min_eq_left (by omega)]
  have hRs : ROW.size = G * 2 := by
    rw [hROW]
    simp [Builtin.zeroCells, Value.cells, htl]
    omega
  have hRt : ROW.toList.take (i * 2) = ecs (xs.take i) := by
    rw [hROW]
    simp only [Array.toList_append, List.append_assoc]
    rw [← htl, List.take_left]
  obtain ⟨W1, hW1⟩ : ∃ W1, W1 = w.drew.alloc (.cells ROW 101) := ⟨_, rfl⟩
  rw [← hW1] at hrz
  have hN : Is W1 w.heap.size 101 ROW := by rw [hW1]; exact Is.new w.drew 101 ROW
  have hg1 : Is W1 g 101 cur := by rw [hW1]; exact Is.alloc (w := w.drew) hg _
  have hv1 : Is W1 vb 101 #[.int .i64 e.1, .int .i64 e.2] := by rw [hW1]; exact Is.alloc (w := w.drew) hv _
  have hgw : w.grownBy W1 (Value.ownBlock (.slice (some ⟨g, 0, none⟩) xs.length cap)) := by
    rw [hW1]
    exact ⟨rfl, rfl, rfl, by simp, fun k hk _ => Below.heap_alloc w.drew _ k hk⟩
  have hgN : g ≠ w.heap.size := by have := hg.lt; omega
  have hcpA := fun ty dc => copy2 hN (i * 2) (xs.length + 1 - i) dc ⟨vb, 0, none⟩ 1 1 [.int .i64 e.1, .int .i64 e.2] 1 (by omega) rfl (span_src hv1) (by rw [hRs]; simp; omega) one_of ty
  obtain ⟨c1, hc1⟩ : ∃ c1, c1 = spl ROW (i * 2) [.int .i64 e.1, .int .i64 e.2] := ⟨_, rfl⟩
  rw [← hc1] at hcpA
  have hs1 : c1.size = G * 2 := by rw [hc1, spl_size (by rw [hRs]; simp; omega), hRs]
  have hN1 : Is (W1.setRow w.heap.size c1).drew w.heap.size 101 c1 := Is.row (w := W1) hN
  have hg2 : Is (W1.setRow w.heap.size c1).drew g 101 cur := Is.offrow (w := W1) hg1 hgN
  have hdl : (ecs (xs.drop i)).length = (xs.length - i) * 2 := by rw [ecs_len, List.length_drop]
  have hsrcD : ∀ j u, (ecs (xs.drop i))[j]? = some u → (W1.setRow w.heap.size c1).drew.cell? ((⟨g, i * 2, none⟩ : Addr).add j) = some u := src_of hg2 (fun j u hj => by
    rw [← ecs_drop, List.getElem?_drop] at hj
    exact cur_get h7 hj)
  have hcpB := fun ty dc sc => copy2 hN1 ((i + 1) * 2) (xs.length - i) dc ⟨g, i * 2, none⟩ (xs.length - i) sc (ecs (xs.drop i)) (xs.length - i) (by omega) hdl hsrcD (by rw [hdl, hs1]; omega) (ecs_one _) ty
  obtain ⟨c2, hc2⟩ : ∃ c2, c2 = spl c1 ((i + 1) * 2) (ecs (xs.drop i)) := ⟨_, rfl⟩
  rw [← hc2] at hcpB
  have hs2 : c2.size = G * 2 := by rw [hc2, spl_size (by rw [hdl, hs1]; omega), hs1]
  have hN2 : Is ((W1.setRow w.heap.size c1).drew.setRow w.heap.size c2) w.heap.size 101 c2 := hN1.row
  have hll : (xs.take i ++ e :: xs.drop i).length = xs.length + 1 := by simp; omega
  have htk : c2.toList.take ((xs.length + 1) * 2) = ecs (xs.take i ++ e :: xs.drop i) := by
    have a1 : c1.toList.take ((i + 1) * 2) = ecs (xs.take i) ++ [.int .i64 e.1, .int .i64 e.2] := by
      have := spl_take (cur := ROW) (o := i * 2) (cs := [.int .i64 e.1, .int .i64 e.2]) (by rw [hRs]; omega)
      rw [← hc1, ec_len, show i * 2 + 2 = (i + 1) * 2 by omega] at this
      rw [this, hRt]
    have a2 := spl_take (cur := c1) (o := (i + 1) * 2) (cs := ecs (xs.drop i)) (by rw [hs1]; omega)
    rw [← hc2, hdl, show (i + 1) * 2 + (xs.length - i) * 2 = (xs.length + 1) * 2 by omega, a1] at a2
    rw [a2, ecs_append, ecs_cons, List.append_assoc]
    rfl
  have hres : Ins w (.slice (some ⟨g, 0, none⟩) xs.length cap) (xs.take i ++ e :: xs.drop i) (.returned (.slice (some ⟨w.heap.size, 0, none⟩) (xs.length + 1) G)) ((W1.setRow w.heap.size c1).drew.setRow w.heap.size c2) :=
    ⟨_, rfl, by
      have := Rw.mk (base := 0) (xs := xs.take i ++ e :: xs.drop i) (Nat.zero_le w.heap.size) hN2 (by rw [hll]; exact hGn) hGm hs2 (by rw [hll]; exact htk)
      rwa [hll] at this, ⟨hgw.os, hgw.tape, hgw.output, by have := hgw.size; simpa using this, fun k hk hne =>
        ((setRow_other _ _ _ _ (by omega)).trans (setRow_other W1 _ k c1 (by omega))).trans (hgw.block k hk hne)⟩, .inr rfl⟩
  have hz2 : ¬ ((i : Int) = (xs.length : Int)) := by omega
  have hw1 : IntKind.i64.wrap ((i : Int) + (1 : Int)) = (i : Int) + 1 := wrap_small (by omega) (by omega)
  have hw2 : IntKind.i64.wrap ((xs.length : Int) + (1 : Int)) = (xs.length : Int) + 1 := wrap_small (by omega) (by omega)
  unfold maxLen at hGm
  have hb1 : (0 : Int) ≤ (i : Int) + 1 := by omega
  have hb2 : ¬ (G = i + 1) := by omega
  have hb3 : (i : Int) ≤ (xs.length : Int) := by omega
  have hb4 : ¬ (cap = i) := by omega
  have hb5 : ¬ (G = i) := by omega
  have hin : i ≤ xs.length := by omega
  have htn : ((i : Int) + 1).toNat = i + 1 := by omega
  have hz3 : (cap : Int) < (xs.length : Int) + 1 := by omega
  have mixed : Try.prog.follows .mixedOrders = true := by kernel_rfl
  clear hkk hik hold hROW hRs hRt htl hsrcT hsrcD hN hN1 hN2 hg hg1 hg2 hv hv1 hs1 hs2 htk hll hc1 hc2 h7 hdl hgw hfit hW1
  generalize xs.length = n at *
  generalize xs.take i ++ e :: xs.drop i = ys at *
  go_enter Try.func77, Try.ntmps77
  go_wp2_with (first
    | (at_builtin; refine Lib.wpList_append_run _ rfl _ _ _ _ rfl _ _ rfl rfl _ _ (hrz _) ?_)
    | (at_builtin; refine wpList_copy_runI _ rfl _ _ 97 97 rfl _ _ rfl rfl (hcpA _ _) ?_))
  go_region_law_o (refine step_copy_runI rfl _ _ 97 97 rfl _ _ (by simp [Act.eval, Act.put]) (by simp [Act.eval, Act.put]) (hcpB _ _ _) ?_)
  go_wp2
  go_ret
  exact hres
theorem insert_c {w : World} {v : Value} {xs : List Sp} (h : Rw w 0 v xs) (hlen : xs.length ≤ 4096) {i : Nat} (hi : i ≤ xs.length) {vb : Nat} {e : Sp} (hv : Is w vb 101 #[.int .i64 e.1, .int .i64 e.2]) (hne : vb ∉ ob v) :
    Calls Try.prog 77 #[v, .int .i64 (i : Nat), .slice (some ⟨vb, 0, none⟩) 1 1] w (Ins w v (xs.take i ++ e :: xs.drop i)) := by
  by_cases he : i = xs.length
  · subst he
    rw [List.take_length, List.drop_length]
    exact insert_end h hlen hv
  · have hlt : i < xs.length := by omega
    rcases h.cases with ⟨rfl, rfl⟩ | ⟨g, cap, cur, rfl, hb, hg, k4, k5, k6, k7⟩
    · simp at hlt
    · by_cases hroom : xs.length + 1 ≤ cap
      · exact insert_room hg hlt hroom k5 k6 k7 hlen hv (fun e => hne (by simp [ob, Value.ownBlock, e]))
      · exact insert_grow hg hlt k4 (by omega) k7 hlen hv
end Go.Proofs.Ytnpjbddannkgfaa
