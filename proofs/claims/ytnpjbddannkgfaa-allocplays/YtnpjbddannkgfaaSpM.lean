/- first: the k least. Conditions: none. -/
import Derived.Test.YtnpjbddannkgfaaSpE
namespace Go.Proofs.Ytnpjbddannkgfaa
open Go.ChangeShapes Go.WideShapes Go.RowKit Go.Spans Go.Shelf Go.Rounds
attribute [local go_sem] Oper.semAt_some
set_option maxRecDepth 100000
theorem info3 : (Try.prog.info? 3).map (fun i => (i.zero, i.size, i.bytes)) = some (some (.int .i64 0), 1, 8) := by kernel_rfl
/-- Numbers as cells. -/
def ints (l : List Nat) : List Value := l.map fun x => Value.int .i64 (x : Nat)
theorem ints_append (l m : List Nat) : ints (l ++ m) = ints l ++ ints m := by simp [ints]
theorem ints_len (l : List Nat) : (ints l).length = l.length := by simp [ints]
theorem own_ne {V : World} {base e size n b : Nat} {v : Value} {cs : List Value} {t : TypeId} {c : Array Value} (h : V.ownsRow base e size v n cs) (hi : Is V b t c) (ht : t ≠ e) : some b ≠ v.ownBlock := by
  intro hb
  rcases h.2 with ⟨rfl, _⟩ | ⟨g, cap, cur, rfl, _, hg, _⟩
  · cases hb
  · simp [Value.ownBlock] at hb
    subst hb
    exact hi.ne (g' := b) (t' := e) (cs' := cur) hg ht rfl
theorem make_ints (k : Nat) (hk : k ≤ 4096) (w : World) : ∃ cs : Array Value, cs.size = k ∧ (Instr.makeSlice 46 (.int .i64 0) (.int .i64 (k : Int))).run Try.prog w = .ok (.slice (some ⟨w.heap.size, 0, none⟩) 0 k) (w.alloc (.cells cs 3)) := by
  obtain ⟨i0, hi0, hz0, hz1, hz2⟩ := info_parts info3
  have := run_make (P := Try.prog) w 46 3 i0 _ Try.underlying46 hi0 hz0 .i64 .i64 0 k (by omega) (by omega) (by rw [hz2]; omega) (by omega)
  exact ⟨_, by simp [size_madeCells, hz1], this⟩
theorem elems_take_succ {xs : List Sp} {j : Nat} (h : j < xs.length) : elems (xs.take (j + 1)) = elems (xs.take j) ++ List.range' (xs.getD j (0, 0)).1 (xs.getD j (0, 0)).2 := by
  rw [tell_at h, List.take_succ_eq_append_getElem h]
  simp only [elems, List.flatMap_append, List.flatMap_cons, List.flatMap_nil, List.append_nil]
theorem range_take (a m q : Nat) (h : q ≤ m) : (List.range' a m).take q = List.range' a q := by
  have := List.range'_append_1 (s := a) (m := q) (n := m - q)
  rw [show q + (m - q) = m by omega] at this
  rw [← this, List.take_left' (by simp)]
theorem elems_take_k {xs : List Sp} {j k : Nat} (h : j < xs.length) (h1 : cnt (xs.take j) ≤ k) (h2 : k ≤ cnt (xs.take j) + (xs.getD j (0, 0)).2) : (elems xs).take k = elems (xs.take j) ++ List.range' (xs.getD j (0, 0)).1 (k - cnt (xs.take j)) := by
  have hs : elems xs = elems (xs.take (j + 1)) ++ elems (xs.drop (j + 1)) := by
    conv => lhs; rw [← List.take_append_drop (j + 1) xs]
    simp only [elems, List.flatMap_append]
  rw [hs, elems_take_succ h, List.append_assoc, List.take_append, elems_len, List.take_of_length_le (by rw [elems_len]; exact h1), List.take_append_of_le_length (by rw [List.length_range']; omega), range_take _ _ _ (by omega)]
/-- Between two rounds, what has come is not enough. -/
def FiI (w : World) (S k : Nat) (xs : List Sp) (j : Nat) (V : World) : Prop :=
  Below w.heap.size w V ∧ Is V w.heap.size 3 #[.int .i64 k] ∧ Is V (w.heap.size + 1 + 1 + 1) 57 #[.pointer (some ⟨S, 0, none⟩)] ∧
    ∃ v, Is V (w.heap.size + 1 + 1) 46 #[v] ∧ V.ownsRow (w.heap.size + 1) 3 1 v (cnt (xs.take j)) (ints (elems (xs.take j))) ∧ cnt (xs.take j) < k
def FiX (w : World) (k : Nat) (xs : List Sp) (V : World) : Prop :=
  Below w.heap.size w V ∧ ∃ v, Is V (w.heap.size + 1 + 1) 46 #[v] ∧ V.ownsRow (w.heap.size + 1) 3 1 v k (ints ((elems xs).take k))
theorem FiI.own (w : World) (S k : Nat) (xs : List Sp) {B : Nat} (hB : w.heap.size ≤ B) : OwnFrom B (FiI w S k xs) := by
  rintro j V V' row ⟨h1, h2, h3, v, h4, h5, h6⟩ hg hr
  exact ⟨h1.grown hg h1.size (fun r e => by have := (hr r e).1; omega), h2.own hg hr, h3.own hg hr, v, h4.own hg hr, own_kept h5 hg hr, h6⟩
theorem FiX.own (w : World) (k : Nat) (xs : List Sp) {B : Nat} (hB : w.heap.size ≤ B) (c : Code) : OwnFrom B (fun (_ : Nat) V => c = .exit 0 ∧ FiX w k xs V) := by
  rintro j V V' row ⟨hc, h1, v, h4, h5⟩ hg hr
  exact ⟨hc, h1.grown hg h1.size (fun r e => by have := (hr r e).1; omega), v, h4.own hg hr, own_kept h5 hg hr⟩
/-- In a round, q of its numbers having come. -/
def FiQ (w V0 : World) (S k B Bx a m c q : Nat) (T : List Nat) (V : World) : Prop :=
  KeepsFrom B V0 V ∧ Below w.heap.size w V ∧ Is V w.heap.size 3 #[.int .i64 k] ∧ Is V (w.heap.size + 1 + 1 + 1) 57 #[.pointer (some ⟨S, 0, none⟩)] ∧ Is V Bx 101 #[.int .i64 a, .int .i64 m] ∧
    ∃ p cap, Is V (w.heap.size + 1 + 1) 46 #[.slice p (c + q) cap] ∧ V.ownsRow (w.heap.size + 1) 3 1 (.slice p (c + q) cap) (c + q) (ints (T ++ List.range' a q))
theorem one_new (V : World) (x : Value) : ∀ j u, [x][j]? = some u → (V.alloc (.cells #[x] 3)).cell? ((⟨V.heap.size, 0, none⟩ : Addr).add j) = some u := cell_one_new V x 3
set_option maxHeartbeats 4000000 in
theorem first_c {w : World} {S n : Nat} {v : Value} {xs : List Sp} (h : St w S v n xs) (k : Nat) (hk1 : 1 ≤ k) (hkc : k ≤ cnt xs) :
    Calls Try.prog 65 #[.pointer (some ⟨S, 0, none⟩), .int .i64 k] w fun e w' => ∃ r, e = .returned r ∧ w'.ownsRow (w.heap.size + 1) 3 1 r k (ints ((elems xs).take k)) ∧ Below w.heap.size w w' := by
  obtain ⟨i0, hi0, hz0, hz1, hz2⟩ := info_parts info3
  obtain ⟨R, hit, hR⟩ := h.tells
  have hcn := cnt_le h.ok
  have hhi := h.hi
  have hends : ∀ e ∈ xs, e.1 + e.2 ≤ 4096 := fun e he => by have := h.ok.hi e he; simp only [en] at this; omega
  clear h
  have hF31 : Fence.wide.fn 67 := trivial
  have hk0 : (0 : Int) ≤ (k : Int) := by omega
  have hk2 : k ≤ 4096 := by omega
  obtain ⟨cs, hcs, hmk⟩ := make_ints k hk2 (w.alloc (.cells #[.int .i64 k] 3))
  refine callsIn_wide (n := 5).1 (callsIn_of_wp_marks Try.func65 rfl trivial ?_ rfl)
  simp only [Try.ntmps65, List.size_toArray, List.length_cons, List.length_nil, Nat.reduceAdd, Nat.reduceSub, Array.replicate_succ, Array.replicate_zero, List.push_toArray, List.append_toArray, List.nil_append, List.cons_append]
  gi_wp2_with (gi_at_call 67; refine (callsIn_wide.2 (each_c _ _)).mono ?_; rintro e w' ⟨rfl, rfl⟩)
  have hsz : ((((w.alloc (.cells #[.int .i64 k] 3)).alloc (.cells cs 3)).alloc (.cells #[.slice (some ⟨w.heap.size + 1, 0, none⟩) 0 k] 46)).alloc (.cells #[.pointer (some ⟨S, 0, none⟩)] 57)).heap.size = w.heap.size + 4 := by simp
  have hI0 : FiI w S k xs 0 ((((w.alloc (.cells #[.int .i64 k] 3)).alloc (.cells cs 3)).alloc (.cells #[.slice (some ⟨w.heap.size + 1, 0, none⟩) 0 k] 46)).alloc (.cells #[.pointer (some ⟨S, 0, none⟩)] 57)) := by
    have i0 := Is.new w 3 #[.int .i64 k]
    have i1 := Is.new (w.alloc (.cells #[.int .i64 k] 3)) 3 cs
    have i2 := Is.new ((w.alloc (.cells #[.int .i64 k] 3)).alloc (.cells cs 3)) 46 #[.slice (some ⟨w.heap.size + 1, 0, none⟩) 0 k]
    have i3 := Is.new (((w.alloc (.cells #[.int .i64 k] 3)).alloc (.cells cs 3)).alloc (.cells #[.slice (some ⟨w.heap.size + 1, 0, none⟩) 0 k] 46)) 57 #[.pointer (some ⟨S, 0, none⟩)]
    simp only [World.size_alloc] at i1 i2 i3
    have b1 := (Below.refl w.heap.size w).alloc (Nat.le_refl _) (.cells #[.int .i64 k] 3)
    have b2 := b1.alloc b1.size (.cells cs 3)
    have b3 := b2.alloc b2.size (.cells #[.slice (some ⟨w.heap.size + 1, 0, none⟩) 0 k] 46)
    exact ⟨b3.alloc b3.size _, ((i0.alloc _).alloc _).alloc _, i3, _, i2.alloc _, ⟨rfl, .inr ⟨w.heap.size + 1, k, cs, rfl, Nat.le_refl _, (i1.alloc _).alloc _, Nat.zero_le _, by unfold maxLen; omega, by omega, rfl⟩⟩, hk1⟩
  generalize ((((w.alloc (.cells #[.int .i64 k] 3)).alloc (.cells cs 3)).alloc (.cells #[.slice (some ⟨w.heap.size + 1, 0, none⟩) 0 k] 46)).alloc (.cells #[.pointer (some ⟨S, 0, none⟩)] 57)) = w0 at hsz hI0 ⊢
  refine loop rfl (by omega) (gf := 76) (lb := #[.pointer (some ⟨w.heap.size + 1 + 1 + 1, 0, none⟩)]) rfl trivial (enters_of Try.func76 (by kernel_rfl) rfl) (hit _ _) (fun _ => rfl)
    (FiI w S k xs) (fun c _ V => c = .exit 0 ∧ FiX w k xs V) (FiI.own w S k xs (by omega)) (fun c => FiX.own w k xs (by omega) c)
    (fun j V hs => hR _ j V hs.1 (by have := hs.2.2.1.cell 0; simpa using this)) hI0
    (fun j a' V => ∃ Bx, w.heap.size + 3 < Bx ∧ FiI w S k xs j V ∧ Is V Bx 101 #[.int .i64 (xs.getD j (0, 0)).1, .int .i64 (xs.getD j (0, 0)).2] ∧
      a' = { tmps := #[.pointer (some ⟨S, 0, none⟩), .int .i64 k, undef, .pointer (some ⟨w.heap.size, 0, none⟩), .slice none 0 0, .pointer (some ⟨w.heap.size + 1 + 1, 0, none⟩), .pointer (some ⟨Bx, 0, none⟩), undef, .int .i64 k, .slice (some ⟨w.heap.size + 1, 0, none⟩) 0 k, .pointer (some ⟨S, 0, none⟩), .func (.func 76) #[] #[.pointer (some ⟨w.heap.size + 1 + 1 + 1, 0, none⟩)],
        .agg #[.int .i64 (xs.getD j (0, 0)).1, .int .i64 (xs.getD j (0, 0)).2], undef, undef, undef, undef, undef, undef, undef, undef, undef, undef, undef, undef, undef, undef, undef, undef, undef, undef, undef, undef, undef, undef, undef], defers := [] })
    (fun j a' s V V' row hs hg hr => by
      obtain ⟨Bx, h1, hs, h3, h4⟩ := hs
      exact ⟨Bx, h1, FiI.own w S k xs (by omega) j V V' row hs hg hr, h3.own hg hr, h4⟩) ?assign ?body ?done ?stop
  case assign =>
    intro l j V K hj hs hK
    simp only [tell]
    have hs' := hs
    obtain ⟨h1, h2, h3, v, h4, h5, h6⟩ := hs
    have hlt := h3.lt
    generalize hx1 : (xs.getD j (0, 0)).1 = x1 at hK ⊢
    generalize hx2 : (xs.getD j (0, 0)).2 = x2 at hK ⊢
    gi_wp2
    exact hK _ _ ((KeepsOthers.alloc _ _).from _) ⟨V.heap.size, by omega, FiI.own w S k xs (Nat.le_refl _) j V _ none hs' (World.grownBy_alloc V _ none) (fun r e => by cases e), Is.new _ _ _, rfl⟩
  case body =>
    rintro l j a' V hl hj ⟨Bx, hBx, ⟨h1, h2, h3, v, h4, h5, h6⟩, hx, rfl⟩
    have htk := elems_take_succ hj
    have htk2 := elems_take_k (k := k) hj
    have hct := cnt_take xs j hj
    have hcl := cnt_take_le xs (j + 1)
    have hfit : (xs.getD j (0, 0)).1 + (xs.getD j (0, 0)).2 ≤ 4096 := by
      rw [tell_at hj]
      exact hends _ (List.getElem_mem hj)
    generalize (xs.getD j (0, 0)).1 = a at *
    generalize (xs.getD j (0, 0)).2 = m at *
    generalize elems (xs.take j) = T at *
    generalize cnt (xs.take j) = c at *
    obtain ⟨p, cap, rfl⟩ := own_slice h5
    obtain ⟨M, hM1, hM2, hM3, hmin⟩ : ∃ M, M ≤ m ∧ M ≤ k - c ∧ (M = m ∨ M = k - c) ∧ min (m : Int) ((k - c : Nat) : Int) = (M : Nat) := ⟨min m (k - c), by omega, by omega, by omega, by omega⟩
    have hQ0 : FiQ w V S k w0.heap.size Bx a m c 0 T V := ⟨KeepsFrom.refl _ _, h1, h2, h3, hx, p, cap, h4, by simpa using h5⟩
    have c1 := hx.cell 1
    have c2 := h2.cell 0
    have c3 := h4.cell 0
    simp at c1 c2 c3
    have hsub : IntKind.i64.wrap ((k : Int) - (c : Int)) = ((k - c : Nat) : Int) := by rw [wrap_small (by omega) (by omega)]; omega
    clear h1 h2 h3 h4 h5 hx
    gi_wp2
    clear hsub hmin c1 c2 c3
    gi_loopw [20] (fun i wr => ∃ q : Nat, i = .int .i64 q ∧ q ≤ M ∧ FiQ w V S k w0.heap.size Bx a m c q T wr) (fun i _ => M - (Lib.intOf i).toNat)
    case atStart => exact ⟨0, rfl, Nat.zero_le _, hQ0⟩
    case round =>
      obtain ⟨q, rfl, hqM, hkf, h1, h2, h3, hx, p', cap', h4, h5⟩ := hrel
      have c0 := hx.cell 0
      have c3 := h4.cell 0
      simp at c0 c3
      by_cases hq : q < M
      · have hqz : (q : Int) < (M : Int) := by omega
        have hadd1 : IntKind.i64.wrap ((a : Int) + (q : Int)) = (a : Int) + (q : Int) := wrap_small (by omega) (by omega)
        have hown := h5.alloc (.cells #[.int .i64 ((a : Int) + (q : Int))] 3)
        have h4' := h4.alloc (.cells #[.int .i64 ((a : Int) + (q : Int))] 3)
        have hne := own_ne h5 h4 (by decide)
        have hns := one_new wr (.int .i64 ((a : Int) + (q : Int)))
        have hone : ∀ u ∈ [Value.int .i64 ((a : Int) + (q : Int))], u.oneCell' = true := by simp [Value.oneCell']
        have hm1 : c + q + 1 ≤ maxLen := by unfold maxLen; omega
        have hm2 : (c + q + 1) * 8 ≤ 140737488355328 := by omega
        have hlt := h4.lt
        have hm3 : w.heap.size + 1 ≤ (wr.alloc (.cells #[.int .i64 ((a : Int) + (q : Int))] 3)).heap.size := by simp; omega
        gi_wp2_with (gi_at_builtin; refine wpListIn_append_own_at _ rfl _ _ 46 rfl (w.heap.size + 1) 3 i0 _ 1 8 Try.underlying46 hi0 hz0 hz1 hz2 rfl (by decide) _ _ _ rfl hown ⟨wr.heap.size, 0, none⟩ 1 1 [.int .i64 ((a : Int) + (q : Int))] rfl rfl hns hone hm1 hm2 hm3 ?_; intro v' w1 hown' hgrow hnil hat; have h41 := h4'.kept hgrow hne; obtain ⟨p2, cap2, rfl⟩ := own_slice hown'; have c1 := h41.cell 0; have f1 := h41.frozen 0; simp at c1)
        have hnB0 : some w.heap.size ≠ (Value.slice p' (c + q) cap').ownBlock := fun e => by
          have := (own_ge hown e.symm).1
          omega
        have hput := h41.put 0 (.slice p2 (c + q + 1) cap2)
        have hQ : FiQ w V S k w0.heap.size Bx a m c (q + 1) T (w1.setCell ⟨w.heap.size + 1 + 1, 0, none⟩ (.slice p2 (c + q + 1) cap2)) := by
          refine ⟨hkf.trans ((((KeepsOthers.alloc _ _).trans (own_keeps hown hgrow)).trans (KeepsOthers.setCell _ _ _)).from _), ?_, ?_, ?_, ?_, p2, cap2, hput, ?_⟩
          · refine ((h1.alloc h1.size _).grown hgrow (by simp; omega) (fun r e => ?_)).setCell (p := ⟨w.heap.size + 1 + 1, 0, none⟩) (by simp; omega) _
            have := (own_ge hown e).1
            omega
          · exact ((h2.alloc _).kept hgrow hnB0).other (by simp; omega) _
          · exact ((h3.alloc _).kept hgrow (own_ne hown (h3.alloc _) (by decide))).other (by simp) _
          · exact ((hx.alloc _).kept hgrow (own_ne hown (hx.alloc _) (by decide))).other (by simp; omega) _
          · rw [List.range'_1_concat, ← List.append_assoc, ints_append]
            have := hown'.kept (grown_put w1 ⟨w.heap.size + 1 + 1, 0, none⟩ (.slice p2 (c + q + 1) cap2)) (.inr (fun e => own_ne hown' h41 (by decide) e.symm))
            have e9 : ints [a + 1 * q] = [.int .i64 ((a : Int) + (q : Int))] := by simp [ints]
            first
              | (rw [e9]; exact this)
              | (rw [show a + q = a + 1 * q by omega, e9]; exact this)
        go_roundw
        case rel => exact ⟨q + 1, rfl, hq, hQ⟩
        case measure => simp [Lib.intOf]; omega
      · have hqe : q = M := by omega
        subst hqe
        clear hqM
        have c2 := h2.cell 0
        simp at c2
        by_cases hb : c + q = k
        · subst hb
          have hk3 := htk2 (by omega) (by omega)
          rw [show c + q - c = q by omega] at hk3
          rw [← hk3] at h5
          gi_wp2
          exact ⟨hkf, rfl, h1, _, h4, h5⟩
        · have hqm : q = m := by omega
          subst hqm
          have hbz : ¬ ((c : Int) + (q : Int) = (k : Int)) := by omega
          gi_wp2
          refine ⟨by rw [← hsz]; exact hkf, h1, h2, h3, _, h4, ?_, by omega⟩
          rw [hct, htk]
          exact h5
  case done =>
    rintro D V hD ⟨h1, h2, h3, v, h4, h5, h6⟩ hK
    rw [List.take_length] at h6
    omega
  case stop =>
    rintro D c j V hD _ _ ⟨rfl, h1, v, h4, h5⟩ hK
    have c0 := h4.cell 0
    simp at c0
    gi_wp2
    refine ⟨by simp, .inl ⟨_, _, rfl, run_takeDeferred hK, ?_⟩⟩
    refine ⟨_, results_tmp rfl _ _ _, v, rfl, ownsRow_putObj h5 _ hK rfl, h1.trans (belowK_b (w := w) (Nat.le_refl _) V D _ _ (by omega) hK rfl rfl)⟩
end Go.Proofs.Ytnpjbddannkgfaa
