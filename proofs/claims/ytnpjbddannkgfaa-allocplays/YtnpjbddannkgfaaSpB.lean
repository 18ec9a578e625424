/- behind (sort.Search with a closure), Has. Conditions: none. -/
import Derived.Test.YtnpjbddannkgfaaSpA
import Derived.Test.YtnpjbddannkgfaaShelf
import Derived.RegionTactic
namespace Go.Proofs.Ytnpjbddannkgfaa
open Go.ChangeShapes Go.WideShapes Go.RowKit Go.Spans Go.Shelf Go.Sort
set_option maxRecDepth 100000
theorem alloc_grow (W : World) (o : Obj) : W.drew.alloc o = grow (W.drewN 1) #[o] := by
  simp only [grow, World.alloc, World.drew, World.drewN]
  congr 1
set_option maxHeartbeats 2000000 in
theorem behind1_c (B2 B3 S g n cap i : Nat) (at_ : Int) (x : Sp) (W : World) (h2 : W.cell? ⟨B2, 0, none⟩ = some (.pointer (some ⟨S, 0, none⟩))) (h3 : W.cell? ⟨B3, 0, none⟩ = some (.int .i64 at_))
    (hS : W.cell? ⟨S, 1, none⟩ = some (.slice (some ⟨g, 0, none⟩) n cap)) (c0 : W.cell? ⟨g, i * 2, none⟩ = some (.int .i64 x.1)) (c1 : W.cell? ⟨g, i * 2 + 1, none⟩ = some (.int .i64 x.2)) (hi : i < n) (hx : en x ≤ 4096) :
    Calls Try.prog 69 (#[.int .i64 i] ++ #[.pointer (some ⟨B2, 0, none⟩), .pointer (some ⟨B3, 0, none⟩)]) W fun e w' => e = .returned (.bool (decide (at_ < (en x : Nat)))) ∧ ∃ q os, w' = grow (W.drewN q) os := by
  have hiz : (i : Int) < (n : Int) := by omega
  have hE := fun V => end_c x hx V
  obtain ⟨a, m⟩ := x
  simp only at c0 c1 hE
  generalize hen : en (a, m) = z at hE ⊢
  clear hen hx
  have l3 : B3 < W.heap.size := by
    refine Nat.lt_of_not_le fun hge => ?_
    rw [World.cell?, Array.getElem?_eq_none hge] at h3
    cases h3
  have h3' : ∀ o, (W.drew.alloc o).cell? ⟨B3, 0, none⟩ = some (.int .i64 at_) := fun o => (((Below.refl _ W.drew).alloc (Nat.le_refl _) o).cell (p := ⟨B3, 0, none⟩) l3).trans h3
  go_enter Try.func69, Try.ntmps69
  go_wp2
  go_region_with (go_at_call 70; refine (hE _).mono ?_; rintro e w' ⟨rfl, rfl⟩)
  all_goals go_wp2
  all_goals go_ret
  all_goals exact ⟨rfl, 1, _, alloc_grow _ _⟩
set_option maxHeartbeats 2000000 in
theorem behind_c {w : World} {S n : Nat} {v : Value} {xs : List Sp} (h : St w S v n xs) (at_ : Int) :
    Calls Try.prog 57 #[.pointer (some ⟨S, 0, none⟩), .int .i64 at_] w fun e w' => e = .returned (.int .i64 (bh xs at_.toNat : Nat)) ∧ Below w.heap.size w w' := by
  obtain ⟨w1, hw1⟩ : ∃ w1, w1 = (w.alloc (.cells #[.pointer (some ⟨S, 0, none⟩)] 57)).alloc (.cells #[.int .i64 at_] 3) := ⟨_, rfl⟩
  have hsize : w1.heap.size = w.heap.size + 2 := by rw [hw1]; simp
  have b2 : Is w1 w.heap.size 57 #[.pointer (some ⟨S, 0, none⟩)] := by rw [hw1]; exact (Is.new w 57 _).alloc _
  have b3 : Is w1 (w.heap.size + 1) 3 #[.int .i64 at_] := by
    have := Is.new (w.alloc (.cells #[.pointer (some ⟨S, 0, none⟩)] 57)) 3 #[.int .i64 at_]
    rw [World.size_alloc] at this
    rw [hw1]; exact this
  have h1 : St w1 S v n xs := by rw [hw1]; exact (h.alloc _).alloc _
  have hB : Below w.heap.size w w1 := by rw [hw1]; exact ((Below.refl _ w).alloc (Nat.le_refl _) _).alloc (by simp) _
  have c2 := b2.cell 0
  have c3 := b3.cell 0
  have cS := h1.one.cell 1
  simp at c2 c3 cS
  have hcount : (List.range xs.length).countP (fun i => !decide (at_ < (en (xs.getD i (0, 0)) : Nat))) = bh xs at_.toNat := by
    apply bh_search
    intro i hi
    have hp := h.ok.pos xs[i] (List.getElem_mem hi)
    rw [List.getD_eq_getElem?_getD, List.getElem?_eq_getElem hi, Option.getD_some]
    have hen : en xs[i] = xs[i].1 + xs[i].2 := rfl
    apply decide_eq_decide.2
    omega
  have hlen := len_le h.ok
  have hhi := h.hi
  have eg : ∀ args w, (callFunc 69 args).run Try.prog w = .ok (.enter 69 args) w := enters_of Try.func69 (by kernel_rfl) rfl
  have hS := Any.sort_Search Try.search 69 #[.pointer (some ⟨w.heap.size, 0, none⟩), .pointer (some ⟨w.heap.size + 1, 0, none⟩)] xs.length (fun i => decide (at_ < (en (xs.getD i (0, 0)) : Nat))) w1 eg (by omega)
    (fun m os i hi => by
      rcases h1.row.cases with ⟨rfl, rfl⟩ | ⟨g, cap, cur, rfl, hb, hg, h4, h5, h6, h7⟩
      · simp at hi
      · obtain ⟨r0, r1⟩ := row_cells hg h7 i hi
        have hx : xs.getD i (0, 0) = xs[i] := by rw [List.getD_eq_getElem?_getD, List.getElem?_eq_getElem hi, Option.getD_some]
        rw [hx]
        have := hg.lt
        have := h1.one.lt
        refine (behind1_c w.heap.size (w.heap.size + 1) S g xs.length cap i at_ xs[i] _ (cell_grown (by simp [hsize]) c2 m os) (cell_grown (by simp [hsize]) c3 m os) (cell_grown (by simpa using h1.one.lt) cS m os)
          (cell_grown (by simpa using hg.lt) r0 m os) (cell_grown (by simpa using hg.lt) r1 m os) hi ?_).mono ?_
        · have := h.ok.hi xs[i] (List.getElem_mem hi)
          omega
        · exact fun _ _ hh => hh)
    (fun a b hab hb ha => by
      have hbl : b < xs.length := hb
      have hal : a < xs.length := by omega
      simp only [decide_eq_true_eq] at ha ⊢
      rw [List.getD_eq_getElem?_getD, List.getElem?_eq_getElem hal, Option.getD_some] at ha
      rw [List.getD_eq_getElem?_getD, List.getElem?_eq_getElem hbl, Option.getD_some]
      rcases Nat.lt_or_ge a b with hlt | hge
      · have := List.pairwise_iff_getElem.1 h.ok.gap a b hal hbl hlt
        have : xs[b].1 ≤ en xs[b] := by simp [en]
        omega
      · have : a = b := by omega
        subst this
        exact ha)
  rw [hcount] at hS
  change Calls Try.prog 68 _ _ _ at hS
  generalize bh xs at_.toNat = r at hS ⊢
  obtain ⟨p, cap, rfl⟩ := h1.row.len
  clear h h1 b2 b3 hcount c2 c3
  rw [hw1] at cS
  go_enter Try.func57, Try.ntmps57
  go_wp2_with (go_at_call 68; rw [← hw1]; refine hS.mono ?_; rintro e w' ⟨rfl, q, os, rfl⟩)
  go_ret
  rw [← hw1]
  exact ⟨rfl, hB.trans (below_grown_sl w.heap.size w1 q os (by omega))⟩
end Go.Proofs.Ytnpjbddannkgfaa
