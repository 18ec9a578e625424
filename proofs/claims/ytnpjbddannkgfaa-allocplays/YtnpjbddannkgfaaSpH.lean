/- slices.Replace of some spans by one. Conditions: the one span lies in a block of its own. -/
import Derived.Test.YtnpjbddannkgfaaSpG
namespace Go.Proofs.Ytnpjbddannkgfaa
open Go.ChangeShapes Go.WideShapes Go.RowKit Go.Spans Go.Shelf
set_option maxRecDepth 100000
theorem Ins.slice {w w' : World} {v : Value} {xs : List Sp} {e : Ending} (h : Ins w v xs e w') : ∃ p cap, e = .returned (.slice p xs.length cap) := by
  obtain ⟨v', rfl, h1, _⟩ := h
  obtain ⟨p, cap, rfl⟩ := h1.len
  exact ⟨p, cap, rfl⟩
theorem replace_none {w : World} {v : Value} {xs : List Sp} (h : Rw w 0 v xs) (hlen : xs.length ≤ 4096) {i : Nat} (hi : i ≤ xs.length) {vb : Nat} {e : Sp} (hv : Is w vb 101 #[.int .i64 e.1, .int .i64 e.2]) (hne : vb ∉ ob v) :
    Calls Try.prog 71 #[v, .int .i64 (i : Nat), .int .i64 (i : Nat), .slice (some ⟨vb, 0, none⟩) 1 1] w (Ins w v (xs.take i ++ e :: xs.drop i)) := by
  have hI := insert_c h hlen hi hv hne
  obtain ⟨p, cap, rfl⟩ := h.len
  have hcap : cap ≤ maxLen ∧ xs.length ≤ cap := by
    rcases h.cases with ⟨hn, rfl⟩ | ⟨g, cap', cur, hn, hb, hg, k4, k5, k6, k7⟩
    · injection hn with _ _ hn
      subst hn
      exact ⟨by simp [maxLen], by simp⟩
    · injection hn with _ _ hn
      subst hn
      exact ⟨k5, k4⟩
  unfold maxLen at hcap
  obtain ⟨hc1, hc2⟩ := hcap
  have hp : p = none ∨ ∃ g, p = some ⟨g, 0, none⟩ := by
    rcases h.cases with ⟨hn, rfl⟩ | ⟨g, cap', cur, hn, hb, hg, k4, k5, k6, k7⟩
    · injection hn with hn _ _
      exact .inl hn
    · injection hn with hn _ _
      exact .inr ⟨g, hn⟩
  clear h hv hne
  generalize xs.take i ++ e :: xs.drop i = ys at *
  generalize xs.length = n at *
  rcases hp with rfl | ⟨g, rfl⟩
  · go_enter Try.func71, Try.ntmps71
    go_wp2_with (go_at_call 77; refine hI.mono ?_; clear hI; rintro r w' hr; obtain ⟨p', cap', rfl⟩ := hr.slice)
    all_goals go_ret
    all_goals assumption
  · go_enter Try.func71, Try.ntmps71
    go_wp2_with (go_at_call 77; refine hI.mono ?_; clear hI; rintro r w' hr; obtain ⟨p', cap', rfl⟩ := hr.slice)
    all_goals go_ret
    all_goals assumption
set_option maxHeartbeats 4000000 in
/-- The last spans go. -/
theorem replace_end {w : World} {g cap i : Nat} {cur : Array Value} {xs : List Sp} (hg : Is w g 101 cur) (hi : i < xs.length) (h4 : xs.length ≤ cap) (h5 : cap ≤ maxLen) (h6 : cur.size = cap * 2) (h7 : cur.toList.take (xs.length * 2) = ecs xs)
    (hlen : xs.length ≤ 4096) {vb : Nat} {e : Sp} (hv : Is w vb 101 #[.int .i64 e.1, .int .i64 e.2]) :
    Calls Try.prog 71 #[.slice (some ⟨g, 0, none⟩) xs.length cap, .int .i64 (i : Nat), .int .i64 (xs.length : Nat), .slice (some ⟨vb, 0, none⟩) 1 1] w (Ins w (.slice (some ⟨g, 0, none⟩) xs.length cap) (xs.take i ++ [e])) := by
  have hrm := fun ty => room2 hg i cap ⟨vb, 0, none⟩ 1 (.int .i64 e.1) (.int .i64 e.2) (span_src hv) one_of (by omega) h6 ty
  obtain ⟨c1, hc1⟩ : ∃ c1, c1 = spl cur (i * 2) [.int .i64 e.1, .int .i64 e.2] := ⟨_, rfl⟩
  rw [← hc1] at hrm
  have hs1 : c1.size = cap * 2 := by rw [hc1, spl_size (by rw [h6]; simp; omega), h6]
  have hg1 : Is (w.setRow g c1) g 101 c1 := hg.row
  have hll : (xs.take i ++ [e]).length = i + 1 := by simp; omega
  have a1 : c1.toList.take ((i + 1) * 2) = ecs (xs.take i ++ [e]) := by
    have := spl_take (cur := cur) (o := i * 2) (cs := [.int .i64 e.1, .int .i64 e.2]) (by rw [h6]; omega)
    rw [← hc1, ec_len, show i * 2 + 2 = (i + 1) * 2 by omega] at this
    rw [this, ecs_append, ecs_one1, ← ecs_take, ← h7, List.take_take, Nat.min_eq_left (by omega)]
  have hk1 : w.grownBy (w.setRow g c1) (some g) := ⟨rfl, rfl, rfl, by simp, fun k _ hk => setRow_other _ _ _ _ (fun e => hk (by rw [e]))⟩
  have hfin : ∀ (W : World) (c : Array Value), Is W g 101 c → c.size = cap * 2 → c.toList.take ((i + 1) * 2) = c1.toList.take ((i + 1) * 2) → w.grownBy W (some g) →
      Ins w (.slice (some ⟨g, 0, none⟩) xs.length cap) (xs.take i ++ [e]) (.returned (.slice (some ⟨g, 0, none⟩) (i + 1) cap)) W := fun W c hW hcs hct hgr =>
    ⟨_, rfl, by
      have := Rw.mk (base := 0) (xs := xs.take i ++ [e]) (Nat.zero_le g) hW (by rw [hll]; omega) h5 hcs (by rw [hll, hct]; exact a1)
      rwa [hll] at this, hgr, .inl rfl⟩
  have hres1 := hfin _ c1 hg1 hs1 rfl hk1
  have hz2 : ¬ ((i : Int) = (xs.length : Int)) := by omega
  have hin : i ≤ xs.length := by omega
  unfold maxLen at h5
  have hb4 : ¬ (cap = i) := by omega
  have hb1 : (0 : Int) ≤ (i : Int) + 1 := by omega
  have htn : ((i : Int) + 1).toNat = i + 1 := by omega
  by_cases hlt : i + 1 < xs.length
  · obtain ⟨zs, hzl, hcl⟩ := clear2 hg1 ((i + 1) * 2) (xs.length - (i + 1)) (cap - (i + 1)) (by omega) (by rw [hs1]; omega) 0
    have hres2 := hfin _ (spl c1 ((i + 1) * 2) zs) (hg1.row (cs' := spl c1 ((i + 1) * 2) zs)) (by rw [spl_size (by rw [hs1, hzl]; omega), hs1]) (spl_low (Nat.le_refl _) (by rw [hs1]; omega)) ⟨rfl, rfl, rfl, by simp, fun k _ hk => by
      have hkg : k ≠ g := fun e => hk (by rw [e])
      exact (setRow_other _ _ _ _ hkg).trans (setRow_other _ _ _ _ hkg)⟩
    have hb2 : ¬ (cap = i + 1) := by omega
    have hb3 : (i : Int) + 1 < (xs.length : Int) := by omega
    clear hfin hres1 hk1 a1 hll hg1 hs1 hc1 h6 h7 hg hv hzl
    generalize xs.take i ++ [e] = ys at *
    generalize xs.length = n at *
    go_enter Try.func71, Try.ntmps71
    go_wp2_with (first
      | (at_builtin; refine Lib.wpList_append_run _ rfl _ _ _ _ rfl _ _ rfl rfl _ _ (hrm _) ?_)
      | (at_builtin; refine wpList_clear_run _ rfl _ _ rfl _ rfl hcl ?_))
    go_ret
    exact hres2
  · have hb3 : (xs.length : Int) = (i : Int) + 1 := by omega
    have hb3' : ¬ ((i : Int) + 1 < (xs.length : Int)) := by omega
    clear hfin hk1 a1 hll hg1 hs1 hc1 h6 h7 hg hv
    generalize xs.take i ++ [e] = ys at *
    generalize xs.length = n at *
    go_enter Try.func71, Try.ntmps71
    go_wp2_with (at_builtin; refine Lib.wpList_append_run _ rfl _ _ _ _ rfl _ _ rfl rfl _ _ (hrm _) ?_)
    go_ret
    exact hres1
theorem spl_high {cur : Array Value} {o : Nat} {cs : List Value} (h : o ≤ cur.size) {k : Nat} (hk : o + cs.length ≤ k) : (spl cur o cs)[k]? = cur[k]? := by
  have h1 := spl_drop (cs := cs) h
  have h2 : (spl cur o cs).toList[k]? = cur.toList[k]? := by
    have := congrArg (fun l => l[k - o]?) h1
    simp only [List.getElem?_drop] at this
    rw [show o + (k - o) = k by omega, List.getElem?_append_right (by omega), List.getElem?_drop, show o + cs.length + (k - o - cs.length) = k by omega] at this
    exact this
  simpa using h2
set_option maxHeartbeats 4000000 in
/-- Some in the midst go. -/
theorem replace_mid {w : World} {g cap i j : Nat} {cur : Array Value} {xs : List Sp} (hg : Is w g 101 cur) (hi : i < j) (hj : j < xs.length) (h4 : xs.length ≤ cap) (h5 : cap ≤ maxLen) (h6 : cur.size = cap * 2) (h7 : cur.toList.take (xs.length * 2) = ecs xs)
    (hlen : xs.length ≤ 4096) {vb : Nat} {e : Sp} (hv : Is w vb 101 #[.int .i64 e.1, .int .i64 e.2]) :
    Calls Try.prog 71 #[.slice (some ⟨g, 0, none⟩) xs.length cap, .int .i64 (i : Nat), .int .i64 (j : Nat), .slice (some ⟨vb, 0, none⟩) 1 1] w (Ins w (.slice (some ⟨g, 0, none⟩) xs.length cap) (xs.take i ++ e :: xs.drop j)) := by
  obtain ⟨T, hT⟩ : ∃ T, T = i + 1 + (xs.length - j) := ⟨_, rfl⟩
  have hcpA := fun q ty dc => copy2 (hg.drewN q) (i * 2) (T - i) dc ⟨vb, 0, none⟩ 1 1 [.int .i64 e.1, .int .i64 e.2] 1 (by omega) rfl (span_src (hv.drewN q)) (by rw [h6]; simp; omega) one_of ty
  obtain ⟨c1, hc1⟩ : ∃ c1, c1 = spl cur (i * 2) [.int .i64 e.1, .int .i64 e.2] := ⟨_, rfl⟩
  rw [← hc1] at hcpA
  have hs1 : c1.size = cap * 2 := by rw [hc1, spl_size (by rw [h6]; simp; omega), h6]
  have hg1 : ∀ q, Is (((w.drewN q).setRow g c1).drew) g 101 c1 := fun q => Is.row (w := w.drewN q) (hg.drewN q)
  have hdl : (ecs (xs.drop j)).length = (xs.length - j) * 2 := by rw [ecs_len, List.length_drop]
  have hsrc : ∀ q t u, (ecs (xs.drop j))[t]? = some u → (((w.drewN q).setRow g c1).drew).cell? ((⟨g, j * 2, none⟩ : Addr).add t) = some u := fun q => src_of (hg1 q) (fun t u ht => by
    rw [hc1, spl_high (by rw [h6]; omega) (by simp; omega)]
    rw [← ecs_drop, List.getElem?_drop] at ht
    exact cur_get h7 ht)
  have hcpB := fun q ty dc sc => copy2 (hg1 q) ((i + 1) * 2) (T - (i + 1)) dc ⟨g, j * 2, none⟩ (xs.length - j) sc (ecs (xs.drop j)) (xs.length - j) (by omega) hdl (hsrc q) (by rw [hdl, hs1]; omega) (ecs_one _) ty
  obtain ⟨c2, hc2⟩ : ∃ c2, c2 = spl c1 ((i + 1) * 2) (ecs (xs.drop j)) := ⟨_, rfl⟩
  rw [← hc2] at hcpB
  have hs2 : c2.size = cap * 2 := by rw [hc2, spl_size (by rw [hdl, hs1]; omega), hs1]
  have hg2 : ∀ q, Is ((((w.drewN q).setRow g c1).drew).setRow g c2) g 101 c2 := fun q => (hg1 q).row
  have hll : (xs.take i ++ e :: xs.drop j).length = T := by simp; omega
  have a1 : c1.toList.take ((i + 1) * 2) = ecs (xs.take i) ++ [.int .i64 e.1, .int .i64 e.2] := by
    have := spl_take (cur := cur) (o := i * 2) (cs := [.int .i64 e.1, .int .i64 e.2]) (by rw [h6]; omega)
    rw [← hc1, ec_len, show i * 2 + 2 = (i + 1) * 2 by omega] at this
    rw [this, ← ecs_take, ← h7, List.take_take, Nat.min_eq_left (by omega)]
  have a2 : c2.toList.take (T * 2) = ecs (xs.take i ++ e :: xs.drop j) := by
    have := spl_take (cur := c1) (o := (i + 1) * 2) (cs := ecs (xs.drop j)) (by rw [hs1]; omega)
    rw [← hc2, hdl, show (i + 1) * 2 + (xs.length - j) * 2 = T * 2 by omega, a1] at this
    rw [this, ecs_append, ecs_cons, List.append_assoc]
    rfl
  have hfin : ∀ (W : World) (c : Array Value), Is W g 101 c → c.size = cap * 2 → c.toList.take (T * 2) = c2.toList.take (T * 2) → w.grownBy W (some g) →
      Ins w (.slice (some ⟨g, 0, none⟩) xs.length cap) (xs.take i ++ e :: xs.drop j) (.returned (.slice (some ⟨g, 0, none⟩) T cap)) W := fun W c hW hcs hct hgr =>
    ⟨_, rfl, by
      have := Rw.mk (base := 0) (xs := xs.take i ++ e :: xs.drop j) (Nat.zero_le g) hW (by rw [hll]; omega) h5 hcs (by rw [hll, hct]; exact a2)
      rwa [hll] at this, hgr, .inl rfl⟩
  have hk2 : ∀ q, w.grownBy ((((w.drewN q).setRow g c1).drew).setRow g c2) (some g) := fun q => ⟨rfl, rfl, rfl, by simp [World.drewN, World.drew], fun k _ hk => by
    have hkg : k ≠ g := fun e => hk (by rw [e])
    exact (setRow_other _ _ _ _ hkg).trans (setRow_other (w.drewN q) _ _ _ hkg)⟩
  have hres1 := fun q => hfin _ c2 (hg2 q) hs2 rfl (hk2 q)
  have hres2 : T < xs.length → ∀ q, ∃ z, (Builtin.clear_ #[97] 0 #[.slice (some ⟨g, T * 2, none⟩) (xs.length - T) (cap - T)]).run Try.prog ((((w.drewN q).setRow g c1).drew).setRow g c2) = .ok (.tuple #[]) (((((w.drewN q).setRow g c1).drew).setRow g c2).setRow g z) ∧
      Ins w (.slice (some ⟨g, 0, none⟩) xs.length cap) (xs.take i ++ e :: xs.drop j) (.returned (.slice (some ⟨g, 0, none⟩) T cap)) (((((w.drewN q).setRow g c1).drew).setRow g c2).setRow g z) := fun hlt q => by
    obtain ⟨zs, hzl, hcl⟩ := clear2 (hg2 q) (T * 2) (xs.length - T) (cap - T) (by omega) (by rw [hs2]; omega) 0
    exact ⟨_, hcl, hfin _ _ (hg2 q).row (by rw [spl_size (by rw [hs2, hzl]; omega), hs2]) (spl_low (Nat.le_refl _) (by rw [hs2]; omega)) ((hk2 q).trans ⟨rfl, rfl, rfl, by simp, fun k _ hk => setRow_other _ _ _ _ (fun e => hk (by rw [e]))⟩)⟩
  have hz2 : ¬ ((i : Int) = (j : Int)) := by omega
  have hz3 : ¬ ((j : Int) = (xs.length : Int)) := by omega
  have hin : i ≤ xs.length := by omega
  have hij : i ≤ j := by omega
  have hjn : j ≤ xs.length := by omega
  unfold maxLen at h5
  have hb4 : ¬ (cap = i) := by omega
  have hb5 : ¬ (cap = j) := by omega
  have hb6 : ¬ (cap = i + 1) := by omega
  have hw1 : IntKind.i64.wrap ((i : Int) + 1) = (i : Int) + 1 := wrap_small (by omega) (by omega)
  have hw2 : IntKind.i64.wrap ((i : Int) + 1 + ((xs.length - j : Nat) : Int)) = (i : Int) + 1 + ((xs.length - j : Nat) : Int) := wrap_small (by omega) (by omega)
  have eT : (i : Int) + 1 + ((xs.length - j : Nat) : Int) = (T : Nat) := by omega
  have hT1 : T ≤ xs.length := by omega
  have hT2 : i ≤ T := by omega
  have hT3 : i + 1 ≤ T := by omega
  have hT4 : (T : Int) ≤ (cap : Int) := by omega
  have hT5 : (i : Int) + 1 ≤ (j : Int) := by omega
  have hT6 : (i : Int) ≤ (T : Int) := by omega
  have hT7 : (i : Int) + 1 ≤ (T : Int) := by omega
  have hT8 : (T : Int) ≤ (xs.length : Int) := by omega
  have hb1 : (0 : Int) ≤ (i : Int) + 1 := by omega
  have htn : ((i : Int) + 1).toNat = i + 1 := by omega
  have mixed : Try.prog.follows .mixedOrders = true := by kernel_rfl
  clear hfin hk2 a1 a2 hll hg2 hs2 hc2 hsrc hdl hg1 hs1 hc1 h6 h7 hg hv hT
  generalize xs.take i ++ e :: xs.drop j = ys at *
  generalize xs.length = n at *
  go_enter Try.func71, Try.ntmps71
  go_wp2
  go_quiet (fail)
  clear hw2 eT
  have hA := hcpA nq
  have hB := hcpB nq
  have hR1 := hres1 nq
  have hR2 := fun h => hres2 h nq
  clear hcpA hcpB hres1 hres2
  go_wp2_with (at_builtin; refine wpList_copy_runI _ rfl _ _ 97 97 rfl _ _ rfl rfl (hA _ _) ?_)
  go_region_law_o (refine step_copy_runI rfl _ _ 97 97 rfl _ _ (by simp [Act.eval, Act.put]) (by simp [Act.eval, Act.put]) (hB _ _ _) ?_)
  by_cases hlt : T < n
  · have hb7 : ¬ (cap = T) := by omega
    obtain ⟨z, hcl, hR2⟩ := hR2 hlt
    clear hR1
    go_wp2_with (at_builtin; refine wpList_clear_run _ rfl _ _ rfl _ rfl hcl ?_)
    go_ret
    exact hR2
  · obtain rfl : T = n := by omega
    have hc0 : ∀ W p c, (Builtin.clear_ #[97] 0 #[.slice p 0 c]).run Try.prog W = .ok (.tuple #[]) W := fun W p c => clear0 W p c 0
    by_cases hcT : cap = T
    · subst hcT
      go_wp2
      go_ret
      exact hR1
    · go_wp2
      go_ret
      exact hR1
theorem replace_c {w : World} {v : Value} {xs : List Sp} (h : Rw w 0 v xs) (hlen : xs.length ≤ 4096) {i j : Nat} (hi : i ≤ j) (hj : j ≤ xs.length) {vb : Nat} {e : Sp} (hv : Is w vb 101 #[.int .i64 e.1, .int .i64 e.2]) (hne : vb ∉ ob v) :
    Calls Try.prog 71 #[v, .int .i64 (i : Nat), .int .i64 (j : Nat), .slice (some ⟨vb, 0, none⟩) 1 1] w (Ins w v (xs.take i ++ e :: xs.drop j)) := by
  rcases Nat.lt_or_ge i j with hlt | hge
  · rcases h.cases with ⟨rfl, rfl⟩ | ⟨g, cap, cur, rfl, hb, hg, k4, k5, k6, k7⟩
    · simp at hj
      omega
    · rcases Nat.lt_or_ge j xs.length with hjl | hjg
      · exact replace_mid hg hlt hjl k4 k5 k6 k7 hlen hv
      · obtain rfl : j = xs.length := by omega
        rw [List.drop_length]
        exact replace_end hg hlt k4 k5 k6 k7 hlen hv
  · obtain rfl : i = j := by omega
    exact replace_none h hlen hj hv hne
end Go.Proofs.Ytnpjbddannkgfaa
