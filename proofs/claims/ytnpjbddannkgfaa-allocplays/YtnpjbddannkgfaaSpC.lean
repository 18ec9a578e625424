/- The iterator that each hands back, as it tells the spans to whatever rounds; Count. Conditions: none. -/
import Derived.Test.YtnpjbddannkgfaaSpA
import Derived.RangeFuncBound
import Derived.RangeFuncCalls
import Derived.Shelf.Abstract
import Derived.OwnWalkIn
import Derived.TacticsInMore
import Derived.LoopNIn
import Derived.LoopIn
import Derived.Lib.Walk
namespace Go.Proofs.Ytnpjbddannkgfaa
open Go.ChangeShapes Go.WideShapes Go.RowKit Go.Spans Go.Shelf Go.Rounds
attribute [local go_sem] Oper.semAt_some
set_option maxRecDepth 100000
/-- What the iterator tells in round k. -/
def tell (xs : List Sp) (k : Nat) : Array Value := #[.agg #[.int .i64 (xs.getD k (0, 0)).1, .int .i64 (xs.getD k (0, 0)).2]]
theorem tell_at {xs : List Sp} {k : Nat} (h : k < xs.length) : xs.getD k (0, 0) = xs[k] := by rw [List.getD_eq_getElem?_getD, List.getElem?_eq_getElem h, Option.getD_some]
/-- What it reads of a set S ahead of round k. -/
def Rd (B S g : Nat) (v : Value) (xs : List Sp) (k : Nat) (V : World) : Prop :=
  V.cell? ⟨B, 0, none⟩ = some (.pointer (some ⟨S, 0, none⟩)) ∧ V.cell? ⟨S, 1, none⟩ = some v ∧
    (k < xs.length → V.cell? ⟨g, k * 2, none⟩ = some (.int .i64 (xs.getD k (0, 0)).1) ∧ V.cell? ⟨g, k * 2 + 1, none⟩ = some (.int .i64 (xs.getD k (0, 0)).2))
theorem tells_nil (n B : Nat) : Tells Fence.wide n Try.prog 76 #[.pointer (some ⟨B, 0, none⟩)] (tell []) (fun _ V => V.cell? ⟨B, 0, none⟩ = some (.pointer none)) 0 := by
  intro l J Jx W hR hA hY h0
  have r0 := hR 0 W h0
  clear hY
  refine callsIn_of_wp Try.func76 rfl trivial ?_ rfl
  simp only [Try.ntmps76, List.size_toArray, List.length_cons, List.length_nil, Nat.reduceAdd, Nat.reduceSub, Array.replicate_succ, Array.replicate_zero, List.push_toArray, List.append_toArray, List.nil_append, List.cons_append]
  gi_wp2
  refine bodyPost_ret (results_none rfl _ _ _) rfl ?_
  exact ⟨⟨_, rfl⟩, .inl h0⟩
set_option maxHeartbeats 2000000 in
theorem tells_set (n B S g : Nat) (v : Value) (xs : List Sp) (hv : (∃ cap, v = .slice (some ⟨g, 0, none⟩) xs.length cap) ∨ (∃ p c, v = .slice p 0 c ∧ xs = [])) (hlen : xs.length ≤ 4096) :
    Tells Fence.wide n Try.prog 76 #[.pointer (some ⟨B, 0, none⟩)] (tell xs) (Rd B S g v xs) xs.length := by
  intro l J Jx W hR hA hY h0
  obtain ⟨r1, r2, _⟩ := hR 0 W h0
  obtain ⟨p, cap, ev⟩ : ∃ p cap, v = .slice p xs.length cap := by
    rcases hv with ⟨cap, rfl⟩ | ⟨p, c, rfl, rfl⟩
    · exact ⟨_, _, rfl⟩
    · exact ⟨_, _, rfl⟩
  rw [ev] at r2
  refine callsIn_of_wp Try.func76 rfl trivial ?_ rfl
  simp only [Try.ntmps76, List.size_toArray, List.length_cons, List.length_nil, Nat.reduceAdd, Nat.reduceSub, Array.replicate_succ, Array.replicate_zero, List.push_toArray, List.append_toArray, List.nil_append, List.cons_append]
  gi_wp2
  gi_loopw [12] (fun i wr => ∃ k : Nat, i = .int .i64 k ∧ k ≤ xs.length ∧ J k wr) (fun i _ => xs.length - (Lib.intOf i).toNat)
  case atStart => exact ⟨0, rfl, Nat.zero_le _, h0⟩
  case round =>
    obtain ⟨k, rfl, hk, hJ⟩ := hrel
    by_cases hlt : k < xs.length
    · obtain ⟨cap', ev'⟩ : ∃ cap', v = .slice (some ⟨g, 0, none⟩) xs.length cap' := by
        rcases hv with hv | ⟨_, _, _, rfl⟩
        · exact hv
        · simp at hlt
      obtain ⟨q1, q2, q3⟩ := hR k wr hJ
      obtain ⟨c0, c1⟩ := q3 hlt
      have hkz : (k : Int) < (xs.length : Int) := by omega
      have hJ' := hA k wr (.cells #[.int .i64 (xs.getD k (0, 0)).1, .int .i64 (xs.getD k (0, 0)).2] 101) hJ
      obtain ⟨fn, tmps, assign, body, hy, hRd⟩ := hY k _ hJ' hlt
      have hi := Is.new wr 101 #[.int .i64 (xs.getD k (0, 0)).1, .int .i64 (xs.getD k (0, 0)).2]
      have n0 := hi.cell 0
      have n1 := hi.cell 1
      simp at n0 n1
      rw [ev] at ev'
      injection ev' with e1 _ e3
      subst e1
      subst e3
      simp only [tell] at hy
      generalize (xs.getD k (0, 0)).1 = a at *
      generalize (xs.getD k (0, 0)).2 = m at *
      gi_wp2
      refine ⟨fun h => absurd h (by simp [Fence.wide]), hRd.mono ?_⟩
      rintro e W3 (⟨rfl, hJ3⟩ | ⟨rfl, hJx⟩)
      · gi_wp2
        go_roundw
        case rel => exact ⟨k + 1, rfl, hlt, hJ3⟩
        case measure => simp [Lib.intOf]; omega
      · gi_wp2
        refine bodyPost_ret (results_none rfl _ _ _) rfl ?_
        exact ⟨⟨_, rfl⟩, .inr ⟨k + 1, Nat.succ_pos _, hlt, hJx⟩⟩
    · have hke : k = xs.length := by omega
      subst hke
      gi_wp2
      go_end0
      exact ⟨⟨_, rfl⟩, .inl hJ⟩
end Go.Proofs.Ytnpjbddannkgfaa
