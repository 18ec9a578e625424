/- The document's List; same, Same, is of equal lists. Conditions: none. -/
import Derived.Test.YtfccdalhmmddlaaSpT
namespace Go.Proofs.Ytfccdalhmmddlaa
open Go.ChangeShapes Go.WideShapes Go.RowKit Go.Spans
set_option maxRecDepth 100000
theorem info50 : (Try.prog.info? 50).map (fun i => (i.zero, i.size, i.bytes)) = some (some (.agg #[.int .i64 0, .int .i64 0]), 2, 16) := by kernel_rfl
theorem new50 (V : World) (a b : Value) : ∀ j u, [a, b][j]? = some u → (V.alloc (.cells #[a, b] 50)).cell? ((⟨V.heap.size, 0, none⟩ : Addr).add j) = some u := by
  intro j u hj
  rw [hadd, Nat.zero_add, (Is.new V 50 #[a, b]).cell]
  simpa using hj
set_option maxHeartbeats 4000000 in
theorem rlist_c {w : World} {R b n cap : Nat} {xs : List Sp} (x : Rf w R b n cap (hasB xs)) (ok : Ok n xs) :
    Calls Try.prog 16 #[.pointer (some ⟨R, 0, none⟩)] w fun e w' => ∃ v, e = .returned v ∧ w'.ownsRow w.heap.size 50 2 v xs.length (ecs xs) ∧ Below w.heap.size w w' := by
  obtain ⟨i0, hi0, hz0, hz1, hz2⟩ := info_parts info50
  have hhi := x.hi
  have hll := len_le ok
  obtain ⟨c0, c1, _⟩ := x.cells
  have hcell : ∀ W, Below w.heap.size w W → W.cell? ⟨R, 0, none⟩ = some (.slice (some ⟨b, 0, none⟩) n cap) ∧ ∀ k, k < n → W.cell? ⟨b, k, none⟩ = some (.bool (hasB xs k)) := fun W hW => by
    obtain ⟨q0, q1, _⟩ := (x.below hW).cells
    exact ⟨q0, q1⟩
  have hBr := Below.refl w.heap.size w
  clear x c1
  go_enter Try.func16, Try.ntmps16
  go_wp2
  go_loopw [3, 4] (fun o i wr => ∃ (j k : Nat) (p : Option Addr) (cp : Nat), i = .int .i64 k ∧ k ≤ n + 1 ∧ j ≤ xs.length ∧ o = .slice p j cp ∧ (∀ e ∈ xs.take j, en e < k) ∧ (∀ e ∈ xs.drop j, k ≤ e.1) ∧ wr.ownsRow w.heap.size 50 2 (.slice p j cp) j (ecs (xs.take j)) ∧ Below w.heap.size w wr) (fun _ i _ => n + 1 - (Lib.intOf i).toNat)
  case atStart => exact ⟨0, 0, none, 0, rfl, Nat.zero_le _, Nat.zero_le _, rfl, by simp, by simp, ⟨rfl, .inl ⟨rfl, rfl⟩⟩, hBr⟩
  case round =>
    obtain ⟨j, k, p, cp, rfl, hkn, hjl, rfl, hlo, hup, hown, hB⟩ := hrel
    obtain ⟨d0, d1⟩ := hcell wr hB
    clear hcell
    by_cases hlt : k < n
    · have hz : (k : Int) < (n : Int) := by omega
      have d3 := d1 k hlt
      have hsp : hasB xs k = hasB (xs.drop j) k := by
        conv => lhs; rw [← List.take_append_drop j xs]
        rw [hasB_append]
        have : hasB (xs.take j) k = false := hasB_false.2 fun e he _ => by have := hlo e he; omega
        rw [this, Bool.false_or]
      rcases Bool.eq_false_or_eq_true (hasB xs k) with hh | hh
      · -- a span begins here
        have hj : j < xs.length := by
          refine Nat.lt_of_not_le fun hge => ?_
          rw [hsp, List.drop_eq_nil_iff.2 hge] at hh
          cases hh
        have hat : xs[j].1 = k := by
          rw [hsp, List.drop_eq_getElem_cons hj] at hh
          obtain ⟨e, he, h1, h2⟩ := hasB_iff.1 hh
          rcases List.mem_cons.1 he with rfl | he
          · have := hup xs[j] (by rw [List.drop_eq_getElem_cons hj]; exact List.mem_cons_self)
            omega
          · have hg : en xs[j] < e.1 := by
              have := ok
              rw [← List.take_append_drop j xs, List.drop_eq_getElem_cons hj] at this
              exact this.right.head he
            have := hup xs[j] (by rw [List.drop_eq_getElem_cons hj]; exact List.mem_cons_self)
            have : xs[j].1 ≤ en xs[j] := by simp [en]
            omega
        have hpos := ok.pos xs[j] (List.getElem_mem hj)
        have hend := ok.hi xs[j] (List.getElem_mem hj)
        obtain ⟨E, hE⟩ : ∃ E, E = en xs[j] := ⟨_, rfl⟩
        have hE1 : E = k + xs[j].2 := by rw [hE, en, hat]
        have hEn : E ≤ n := by omega
        have hin : ∀ m, k ≤ m → m < E → hasB xs m = true := fun m h1 h2 => hasB_iff.2 ⟨xs[j], List.getElem_mem hj, by omega, by omega⟩
        have hout : hasB xs E = false := by
          refine hasB_false.2 fun e he hle => ?_
          rw [← List.take_append_drop j xs, List.drop_eq_getElem_cons hj] at he
          rcases List.mem_append.1 he with he | he
          · have := hlo e he; omega
          · rcases List.mem_cons.1 he with rfl | he
            · omega
            · have hg : en xs[j] < e.1 := by
                have := ok
                rw [← List.take_append_drop j xs, List.drop_eq_getElem_cons hj] at this
                exact this.right.head he
              omega
        have hst : ecs (xs.take (j + 1)) = ecs (xs.take j) ++ [.int .i64 (k : Nat), .int .i64 (((E - k : Nat)) : Int)] := by
          rw [List.take_succ_eq_append_getElem hj, ecs_append]
          congr 1
          rw [ecs_one1, hat, show E - k = xs[j].2 by omega]
        have hlo' : ∀ e ∈ xs.take (j + 1), en e < E + 1 := fun e he => by
          rw [List.take_succ_eq_append_getElem hj] at he
          rcases List.mem_append.1 he with he | he
          · have := hlo e he; omega
          · simp at he; subst he; omega
        have hup' : ∀ e ∈ xs.drop (j + 1), E + 1 ≤ e.1 := fun e he => by
          have hg : en xs[j] < e.1 := by
            have := ok
            rw [← List.take_append_drop j xs, List.drop_eq_getElem_cons hj] at this
            exact this.right.head he
          omega
        rw [hh] at d3
        have hst' := Lib.hid hst
        have hE1' : k < E := by omega
        clear hsp hh hat hpos hend hE hE1 hst hlo hup
        go_wp2
        go_loopw [5] (fun i wr' => ∃ m : Nat, i = .int .i64 m ∧ k ≤ m ∧ m ≤ E ∧ wr' = wr) (fun i _ => E - (Lib.intOf i).toNat)
        case atStart => exact ⟨k, rfl, Nat.le_refl _, Nat.le_of_lt hE1', rfl⟩
        case round =>
          obtain ⟨m, rfl, hm1, hm2, hw⟩ := hrel
          have hw' := hw.symm
          clear hw
          subst hw'
          by_cases hmE : m < E
          · have hmz : (m : Int) < (n : Int) := by omega
            have d4 := d1 m (by omega)
            rw [hin m hm1 hmE] at d4
            go_wp2
            go_roundw
            case rel => exact ⟨m + 1, rfl, by omega, hmE, by simp⟩
            case measure => simp [Lib.intOf]; omega
          · have hme : m = E := by omega
            subst hme
            have hsub : IntKind.i64.wrap ((m : Int) - (k : Int)) = ((m - k : Nat) : Int) := by rw [wrap_small (by omega) (by omega)]; omega
            have hns := new50 wr (.int .i64 (k : Int)) (.int .i64 ((m - k : Nat) : Int))
            have hone : ∀ u ∈ [Value.int .i64 (k : Int), Value.int .i64 ((m - k : Nat) : Int)], u.oneCell' = true := by simp [Value.oneCell']
            have hm3 : j + 1 ≤ maxLen := by unfold maxLen; omega
            have hm4 : (j + 1) * 16 ≤ 140737488355328 := by omega
            have hown4 := hown.alloc (.cells #[.int .i64 (k : Int), .int .i64 ((m - k : Nat) : Int)] 50)
            have hm5 : w.heap.size ≤ (wr.alloc (.cells #[.int .i64 (k : Int), .int .i64 ((m - k : Nat) : Int)] 50)).heap.size := by have := hB.size; simp; omega
            have hB4 := hB.alloc hB.size (.cells #[.int .i64 (k : Int), .int .i64 ((m - k : Nat) : Int)] 50)
            by_cases hmn : m < n
            · have hmz : (m : Int) < (n : Int) := by omega
              have d4 := d1 m hmn
              rw [hout] at d4
              clear hin d1 d3
              go_wp2_with (at_builtin; refine wpList_append_own_at _ rfl _ _ 37 rfl w.heap.size 50 i0 _ 2 16 Try.underlying37 hi0 hz0 hz1 hz2 rfl (by decide) _ _ _ rfl hown4 ⟨wr.heap.size, 0, none⟩ 1 1 [.int .i64 (k : Int), .int .i64 ((m - k : Nat) : Int)] rfl rfl hns hone hm3 hm4 hm5 ?_; intro v' w1 hown' hgrow hnil hat; obtain ⟨p2, cap2, rfl⟩ := own_slice hown')
              go_roundw
              case rel => exact ⟨j + 1, m + 1, p2, cap2, rfl, by omega, hj, rfl, hlo', hup', by rw [hst'.out]; exact hown', hB4.grown hgrow hB4.size (fun r e => (own_ge hown4 e).1)⟩
              case measure => simp [Lib.intOf]; omega
            · have hmz : ¬ ((m : Int) < (n : Int)) := by omega
              clear hin d1 d3
              go_wp2_with (at_builtin; refine wpList_append_own_at _ rfl _ _ 37 rfl w.heap.size 50 i0 _ 2 16 Try.underlying37 hi0 hz0 hz1 hz2 rfl (by decide) _ _ _ rfl hown4 ⟨wr.heap.size, 0, none⟩ 1 1 [.int .i64 (k : Int), .int .i64 ((m - k : Nat) : Int)] rfl rfl hns hone hm3 hm4 hm5 ?_; intro v' w1 hown' hgrow hnil hat; obtain ⟨p2, cap2, rfl⟩ := own_slice hown')
              go_roundw
              case rel => exact ⟨j + 1, m + 1, p2, cap2, rfl, by omega, hj, rfl, hlo', hup', by rw [hst'.out]; exact hown', hB4.grown hgrow hB4.size (fun r e => (own_ge hown4 e).1)⟩
              case measure => simp [Lib.intOf]; omega
      · -- none here
        have hlo' : ∀ e ∈ xs.take j, en e < k + 1 := fun e he => by have := hlo e he; omega
        have hup' : ∀ e ∈ xs.drop j, k + 1 ≤ e.1 := fun e he => by
          have h1 := hup e he
          rw [hsp] at hh
          rcases Nat.lt_or_ge k e.1 with h | h
          · exact h
          · have := hasB_false.1 hh e he h
            have := ok.pos e (List.mem_of_mem_drop he)
            simp only [en] at *
            omega
        rw [hh] at d3
        clear hsp hh d1 hlo hup
        go_wp2
        go_roundw
        case rel => exact ⟨j, k + 1, p, cp, rfl, by omega, hjl, rfl, hlo', hup', hown, hB⟩
        case measure => simp [Lib.intOf]; omega
    · have hz : ¬ ((k : Int) < (n : Int)) := by omega
      have hj : j = xs.length := by
        refine Nat.le_antisymm hjl (Nat.le_of_not_lt fun hj => ?_)
        have h1 := hup xs[j] (by rw [List.drop_eq_getElem_cons hj]; exact List.mem_cons_self)
        have h2 := ok.pos xs[j] (List.getElem_mem hj)
        have h3 := ok.hi xs[j] (List.getElem_mem hj)
        simp only [en] at h3
        omega
      subst hj
      rw [List.take_length] at hown
      clear d1 hlo hup
      go_wp2
      go_ret
      exact ⟨_, rfl, hown, hB⟩
theorem neq63 (a m : Nat) (W : World) : (binOp .neq 63 (.agg #[.int .i64 a, .int .i64 m]) (.agg #[.int .i64 a, .int .i64 m])).run Try.prog W = .ok (.bool false) W := by
  go_simp
/-- Two slices that hold the same cells. -/
theorem same_c {w : World} {v u : Value} {b1 b2 : Nat} {xs : List Sp} (h1 : w.ownsRow b1 63 2 v xs.length (ecs xs)) (h2 : w.ownsRow b2 50 2 u xs.length (ecs xs)) (hlen : xs.length ≤ 4096) :
    Calls Try.prog 14 #[v, u] w fun e w' => e = .returned (.bool true) ∧ Below w.heap.size w w' := by
  have hB := Below.refl w.heap.size w
  rcases h1.2 with ⟨rfl, h0⟩ | ⟨g, cap, cur, rfl, _, hg, k4, k5, k6, k7⟩
  · obtain ⟨p2, c2, rfl⟩ := own_slice h2
    rw [h0]
    clear h1 h2
    go_enter Try.func14, Try.ntmps14
    go_wp2
    go_loopw [5] (fun i wr => i = .int .i64 0 ∧ wr = w) (fun _ _ => 0)
    case atStart => exact ⟨rfl, rfl⟩
    case round =>
      obtain ⟨rfl, rfl⟩ := hrel
      go_wp2
      go_ret
      exact ⟨rfl, hB⟩
  · rcases h2.2 with ⟨rfl, h0⟩ | ⟨g2, cap2, cur2, rfl, _, hg2, l4, l5, l6, l7⟩
    · rw [h0]
      clear h1 h2
      go_enter Try.func14, Try.ntmps14
      go_wp2
      go_loopw [5] (fun i wr => i = .int .i64 0 ∧ wr = w) (fun _ _ => 0)
      case atStart => exact ⟨rfl, rfl⟩
      case round =>
        obtain ⟨rfl, rfl⟩ := hrel
        go_wp2
        go_ret
        exact ⟨rfl, hB⟩
    · have hc : ∀ W, Below w.heap.size w W → ∀ i, i < xs.length → W.cell? ⟨g, i * 2, none⟩ = some (.int .i64 (xs.getD i (0, 0)).1) ∧ W.cell? ⟨g, i * 2 + 1, none⟩ = some (.int .i64 (xs.getD i (0, 0)).2) ∧ W.cell? ⟨g2, i * 2, none⟩ = some (.int .i64 (xs.getD i (0, 0)).1) ∧ W.cell? ⟨g2, i * 2 + 1, none⟩ = some (.int .i64 (xs.getD i (0, 0)).2) := fun W hW i hi => by
        obtain ⟨e1, e2⟩ := ecs_at xs i hi
        have q1 := (Kp.of_below hW []).is (show Is w g 63 cur from hg) (by simp)
        have q2 := (Kp.of_below hW []).is (show Is w g2 50 cur2 from hg2) (by simp)
        rw [tell_at hi, q1.cell, q1.cell, q2.cell, q2.cell, Nat.mul_comm i 2]
        exact ⟨cur_get k7 e1, cur_get k7 e2, cur_get l7 e1, cur_get l7 e2⟩
      clear h1 h2 hg hg2 k6 k7 l6 l7
      generalize xs.length = n at *
      go_enter Try.func14, Try.ntmps14
      go_wp2
      go_loopw [5] (fun i wr => ∃ k : Nat, i = .int .i64 k ∧ k ≤ n ∧ Below w.heap.size w wr) (fun i _ => n - (Lib.intOf i).toNat)
      case atStart => exact ⟨0, rfl, Nat.zero_le _, hB⟩
      case round =>
        obtain ⟨k, rfl, hk, hbr⟩ := hrel
        by_cases hlt : k < n
        · have hz : (k : Int) < (n : Int) := by omega
          obtain ⟨a1, a2, a3, a4⟩ := hc wr hbr k hlt
          generalize (xs.getD k (0, 0)).1 = a at *
          generalize (xs.getD k (0, 0)).2 = m at *
          have hnq := neq63 a m
          clear hc
          go_wp2
          go_quiet (fail)
          go_wp2
          go_roundw
          case rel => exact ⟨k + 1, rfl, hlt, hbr.trans ⟨rfl, rfl, rfl, Nat.le_refl _, fun _ _ => rfl⟩⟩
          case measure => simp [Lib.intOf]; omega
        · have hke : k = n := by omega
          subst hke
          clear hc
          go_wp2
          go_ret
          exact ⟨rfl, hbr⟩
end Go.Proofs.Ytfccdalhmmddlaa
