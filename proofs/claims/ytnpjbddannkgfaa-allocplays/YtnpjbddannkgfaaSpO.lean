/- A region that draws its order, within a round: walked as one outside of rounds; append in it. No program. Conditions: no operation defers. -/
import Derived.Test.YtnpjbddannkgfaaSpL
import Derived.OrdersIn
import Derived.OwnWalkIn
import Derived.TacticsInMore
namespace Go.Rounds
open Go.RowKit
variable {F : Fence} {n : Nat} {P : Program}
/-- A region within a round, by the walk of one outside of rounds: where no operation defers. -/
theorem wpAnyIn_out {md : Region.Mode} {ops : Array Oper} {Q : Exit → Act → World → Prop} (l : Nat) (hro : F.round = none) (hnd : ∀ o ∈ ops.toList, ∀ c, o.op ≠ .defer c) :
    ∀ (fuel : Nat) (listed : Array Bool) (a : Act) (w : World), wpAnyIn F n P md ops Q fuel listed a w → wpAnyIn (F.inRound l) n P md ops Q fuel listed a w
  | 0, _, _, _, h => h
  | fuel + 1, listed, a, w, h => by
    refine ⟨h.1, fun i hi => ?_⟩
    have hs := h.2 i hi
    have hK := wpAnyIn_out (md := md) (Q := Q) l hro hnd fuel (listed.setIfInBounds i true)
    unfold wpOpIn at hs ⊢
    cases ho : ops[i]? with
    | none =>
      rw [ho] at hs
      exact hK _ _ hs
    | some o =>
      rw [ho] at hs
      simp only at hs ⊢
      have hm : o ∈ ops.toList := by
        obtain ⟨hlt, he⟩ := Array.getElem?_eq_some_iff.1 ho
        rw [← he]
        exact Array.getElem_mem_toList hlt
      split
      · rename_i hw
        rw [if_pos hw] at hs
        have hx : o.wpIn F n P a w (wpAnyIn (F.inRound l) n P md ops Q fuel (listed.setIfInBounds i true)) Q := by
          refine ⟨hs.1, ?_⟩
          have h2 := hs.2
          generalize (o.semAt F.round a.eval).run P w = r at h2 ⊢
          cases r with
          | ok x w' =>
            cases x <;> simp only [Oper.uponIn] at h2 ⊢
            case value v => exact hK _ _ h2
            case skip => exact hK _ _ h2
            case defer d => exact hK _ _ h2
            case enter f args =>
              refine ⟨h2.1, CallsIn.mono h2.2 fun e w'' he => ?_⟩
              cases e with
              | returned u => exact hK _ _ he
              | panicked c => exact he
              | outgrown => exact he
            case row row args => exact ⟨h2.1, RowsIn.mono h2.2 fun u w'' he => hK _ _ he⟩
            case round l' f tmps assign body =>
              refine ⟨h2.1, RoundIn.mono h2.2 fun e w'' he => ?_⟩
              cases e with
              | returned u => exact hK _ _ he
              | panicked c => exact he
              | outgrown => exact he
          | halt x w' => cases x <;> simp only [Oper.uponIn] at h2 ⊢ <;> exact h2
        refine ⟨hx.1, ?_⟩
        have h3 := hx.2
        rw [hro, Oper.semAt_none] at h3
        show o.uponIn F n P a _ Q ((o.semAt (some l) a.eval).run P w)
        rw [Oper.semAt_some l _ o (hnd o hm)]
        exact h3
      · rename_i hw
        rw [if_neg hw] at hs
        exact ⟨hs.1, hK _ _ hs.2⟩
/-- append as one operation of a region, its run known. -/
theorem stepIn_append_run {ops : Array Oper} {o : Oper} {a : Act} {w : World} {K : Act → World → Prop} {Q : Exit → Act → World → Prop} {E : Prop}
    (hg : o.guard = none) (d x : Operand) (t : TypeId) (hop : o.op = Op.call { callee := Callee.builtin Builtin.append, args := #[d, x], argTypes := #[t, t] })
    (v u : Value) (hd : a.eval d = v) (hx : a.eval x = u) {v' : Value} {w' : World} (hr : (Builtin.append_ #[t, t] o.type #[v, u]).run P w = .ok v' w') (hK : K (a.put o.dst v') w') :
    if Region.wanted o (yielded ops a.tmps) = true then Oper.wpIn F n P o a w K Q else E := by
  have hw : Region.wanted o (yielded ops a.tmps) = true := by simp [Region.wanted, hg]
  rw [if_pos hw]
  unfold Oper.wpIn
  refine ⟨by simp [Oper.about, hop, resolve, Target.leads, Sem.run_pure], ?_⟩
  rw [Oper.semAt_plain F _ _ (by rw [hop]; intro c hc'; cases hc')]
  simp [execOp, hop, resolve, invoke, builtin, hd, hx, hr, Result.andThen]
  exact hK
end Go.Rounds
