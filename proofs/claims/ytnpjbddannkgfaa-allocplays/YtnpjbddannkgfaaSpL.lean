/- A loop over an iterator that reads, between two rounds, a row that the rounds may write behind it: rounds are counted, and what the iterator reads in round k is said by the caller's own invariant. No program. Conditions: the loop is no loop within a round. -/
import Derived.RangeFuncNested
import Derived.RangeFuncLeaves
namespace Go.Rounds
open Go.RowKit
variable {F : Fence} {n : Nat} {P : Program}
/-- How the body of a round may be left. -/
def roundEnd (B : Nat) (I : World → Prop) (Ix : Code → World → Prop) (W : World) : Exit → Act → World → Prop
  | .normal, _, W' => KeepsFrom B W W' ∧ I W'
  | .ret, _, W' => KeepsFrom B W W' ∧ Ix .ret W'
  | .exit id, _, W' => KeepsFrom B W W' ∧ Ix (.exit id) W'
  | .goto t, _, W' => KeepsFrom B W W' ∧ Ix (.goto t) W'
  | .panic _, _, _ => False
  | .outgrown, _, _ => False
/-- An iterator that tells enc 0, enc 1 .. enc (N - 1), where Rd k says what it reads ahead of round k. -/
def Tells (F : Fence) (n : Nat) (P : Program) (g : Nat) (lb : Array Value) (enc : Nat → Array Value) (Rd : Nat → World → Prop) (N : Nat) : Prop :=
  ∀ (l : Nat) (J Jx : Nat → World → Prop) (W : World), (∀ k V, J k V → Rd k V) → (∀ k V o, J k V → J k (V.alloc o)) →
    (∀ k V, J k V → k < N → YieldAt F (n - 1) P l (enc k) V fun e V' => (e = .returned (.bool true) ∧ J (k + 1) V') ∨ (e = .returned (.bool false) ∧ Jx (k + 1) V')) →
    J 0 W → CallsIn F n P g (#[.func (.yield l) #[] #[]] ++ lb) W fun e V => (∃ v, e = .returned v) ∧ (J N V ∨ ∃ k, 0 < k ∧ k ≤ N ∧ Jx k V)
theorem loop {g : Operand} {ps : Array Tmp} {assign body : Code} {Q : Exit → Act → World → Prop} {a : Act} {w : World}
    (hro : F.round = none) (h1 : 1 ≤ n) {gf : Nat} {lb : Array Value} (hg : a.eval g = .func (.func gf) #[] lb) (hFg : F.fn gf) (eg : ∀ args w, (callFunc gf args).run P w = .ok (.enter gf args) w)
    {enc : Nat → Array Value} {Rd : Nat → World → Prop} {N : Nat} (hit : Tells F (n - 1) P gf lb enc Rd N) (hps : ∀ k, (enc k).size = ps.size)
    (I : Nat → World → Prop) (Ix : Code → Nat → World → Prop) (hI : OwnFrom w.heap.size I) (hIx : ∀ c, OwnFrom w.heap.size (Ix c)) (hRd : ∀ k V, I k V → Rd k V) (h0 : I 0 w)
    (I1 : Nat → Act → World → Prop) (hI1 : ∀ k a', OwnFrom w.heap.size (fun (_ : Unit) V => I1 k a' V))
    (hassign : ∀ (l k : Nat) (V : World) (K : Act → World → Prop), k < N → I k V → (∀ a' V', KeepsFrom w.heap.size V V' → I1 k a' V' → K a' V') →
      assign.wpIn (F.inRound l) (n - 1 - 1) P (Exit.then K (fun _ _ _ => False)) { tmps := (ps.zip (enc k)).foldl (fun t (p, v) => t.setIfInBounds p v) a.tmps, defers := [] } V)
    (hbody : ∀ (l k : Nat) (a' : Act) (V : World), w.heap.size ≤ l → k < N → I1 k a' V → body.wpIn (F.inRound l) (n - 1 - 1) P (roundEnd w.heap.size (I (k + 1)) (fun c => Ix c (k + 1)) V) a' V)
    (hdone : ∀ (D : Nat) (V : World), w.heap.size ≤ D → I N V → V.heap[D]? = some (.deferred (some [])) → Q .normal { a with defers := { target := .collected D, args := #[] } :: a.defers } V)
    (hstop : ∀ (D : Nat) (c : Code) (k : Nat) (V : World), w.heap.size ≤ D → 0 < k → k ≤ N → Ix c k V → V.heap[D]? = some (.deferred (some [])) → c.wpIn F n P Q { a with defers := { target := .collected D, args := #[] } :: a.defers } V) :
    (Code.rangeFunc g ps assign body).wpIn F n P Q a w := by
  apply wpIn_rangeFunc
  intro fn hfn
  rw [hro]
  -- the record of the loop, as it stands from state to state
  obtain ⟨rec, hrec⟩ : ∃ rec : LoopState → Option Code → Loop, rec = fun st pe => { state := st, pending := pe, fn, tmps := a.tmps, params := ps, assign, body, defers := w.heap.size } := ⟨_, rfl⟩
  have hst : ∀ st pe, (rec st pe).state = st ∧ (rec st pe).params = ps ∧ (rec st pe).pending = pe := fun st pe => by rw [hrec]; exact ⟨rfl, rfl, rfl⟩
  have hto : ∀ st pe st' pe', { rec st pe with state := st', pending := pe' } = rec st' pe' := fun st pe st' pe' => by rw [hrec]
  have hbz : ∀ pe, { rec .ready pe with state := .busy } = rec .busy pe := fun pe => by rw [hrec]
  obtain ⟨W1, hW1⟩ : ∃ W1, W1 = (w.alloc (.deferred (some []))).alloc (.loop (rec .ready none)) := ⟨_, rfl⟩
  have hsz : W1.heap.size = w.heap.size + 2 := by rw [hW1]; simp
  -- the two blocks of book-keeping
  have hD : W1.heap[w.heap.size]? = some (.deferred (some [])) := by
    rw [hW1]; exact (Below.heap_alloc _ _ _ (by simp)).trans (World.alloc_heap_new w _)
  have hL : W1.heap[w.heap.size + 1]? = some (.loop (rec .ready none)) := by
    have := World.alloc_heap_new (w.alloc (.deferred (some []))) (.loop (rec .ready none))
    rw [World.size_alloc] at this
    rw [hW1]; exact this
  have hI1w : I 0 W1 := by rw [hW1]; exact hI.alloc _ (hI.alloc _ h0)
  have hent : (Instr.enterLoop fn a.tmps ps assign body none).run P w = .ok (w.heap.size + 1, [{ target := .collected w.heap.size, args := #[] }]) W1 := by
    rw [hW1, hrec]; exact run_enterLoop_outer _ _ _ _ _
  refine ⟨w.heap.size + 1, [{ target := .collected w.heap.size, args := #[] }], W1, { target := .fn (.func gf) lb, args := #[.func (.yield (w.heap.size + 1)) #[] #[]] }, W1, gf,
    #[.func (.yield (w.heap.size + 1)) #[] #[]] ++ lb, W1, hent, ?_, ?_, ?_, fun _ => h1, ?_⟩
  · simp only [resolve, hg]
    simp [go_sem]
  · intro f' hf'
    simp [Target.leads] at hf'
    subst hf'
    exact hFg
  · simp [invoke, go_sem, eg]
  · refine (hit (w.heap.size + 1) (fun k V => I k V ∧ V.heap[w.heap.size]? = some (.deferred (some [])) ∧ V.heap[w.heap.size + 1]? = some (.loop (rec .ready none)))
      (fun k V => ∃ c, Ix c k V ∧ V.heap[w.heap.size]? = some (.deferred (some [])) ∧ V.heap[w.heap.size + 1]? = some (.loop (rec .done (some c)))) W1 (fun k V h => hRd k V h.1) ?_ ?_ ⟨hI1w, hD, hL⟩).mono ?_
    · rintro k V o ⟨hi, hd, hl⟩
      exact ⟨hI.alloc o hi, (Below.heap_alloc V o _ (Array.getElem?_eq_some_iff.1 hd).1).trans hd, (Below.heap_alloc V o _ (Array.getElem?_eq_some_iff.1 hl).1).trans hl⟩
    · -- one round
      rintro k V ⟨hi, hd, hl⟩ hk
      have hy := run_yield (P := P) (args := enc k) hl (by rw [(hst _ _).2.1]; exact hps k)
      rw [hrec] at hy
      refine ⟨fn, _, assign, body, hy, roundIn_of_wpIn hfn (hassign _ k V _ hk hi ?_)⟩
      clear hy
      intro a' Va hka hia
      have hla := hka.same _ _ (by omega) hl rfl
      have hda := hka.same _ _ (Nat.le_refl _) hd rfl
      have hlt : w.heap.size + 1 < Va.heap.size := (Array.getElem?_eq_some_iff.1 hla).1
      refine ⟨_, run_beginRound hla (hst _ _).1, ?_⟩
      rw [hbz]
      obtain ⟨Vb, hVb⟩ : ∃ Vb, Vb = Va.putObj (w.heap.size + 1) (.loop (rec .busy none)) := ⟨_, rfl⟩
      rw [← hVb]
      have hlb : Vb.heap[w.heap.size + 1]? = some (.loop (rec .busy none)) := by rw [hVb]; exact World.putObj_heap_same hlt
      have hdb : Vb.heap[w.heap.size]? = some (.deferred (some [])) := by rw [hVb]; exact (World.putObj_heap_other (by omega)).trans hda
      have hib : I1 k a' Vb := by rw [hVb]; exact (hI1 k a').putObj (s := ()) _ hia (by omega) hla rfl
      refine wpIn_mono (hbody _ k a' Vb (by omega) hk hib) ?_
      have fin : ∀ (jump : Option Code) (V3 : World), KeepsFrom w.heap.size Vb V3 →
          ∃ V4, (Instr.endRound (w.heap.size + 1) jump).run P V3 = .ok (.bool jump.isNone) V4 ∧ V4 = V3.putObj (w.heap.size + 1) (.loop (rec (if jump.isNone then .ready else .done) jump)) ∧
            V3.heap[w.heap.size + 1]? = some (.loop (rec .busy none)) ∧ V4.heap[w.heap.size]? = some (.deferred (some [])) ∧ V4.heap[w.heap.size + 1]? = some (.loop (rec (if jump.isNone then .ready else .done) jump)) := fun jump V3 hk3 => by
        have hl3 := hk3.same _ _ (by omega) hlb rfl
        have hr := run_endRound (P := P) jump hl3
        rw [hto] at hr
        exact ⟨_, hr, rfl, hl3, (World.putObj_heap_other (by omega)).trans (hk3.same _ _ (Nat.le_refl _) hdb rfl), World.putObj_heap_same (Array.getElem?_eq_some_iff.1 hl3).1⟩
      rintro e a3 V3 hp
      cases e with
      | normal =>
        obtain ⟨V4, hr, e4, hl3, hd4, hl4⟩ := fin none V3 hp.1
        exact ⟨_, V4, hr, .inl ⟨rfl, by rw [e4]; exact hI.putObj _ hp.2 (by omega) hl3 rfl, hd4, hl4⟩⟩
      | ret =>
        obtain ⟨V4, hr, e4, hl3, hd4, hl4⟩ := fin (some .ret) V3 hp.1
        exact ⟨_, V4, hr, .inr ⟨rfl, .ret, by rw [e4]; exact (hIx _).putObj _ hp.2 (by omega) hl3 rfl, hd4, hl4⟩⟩
      | exit id =>
        obtain ⟨V4, hr, e4, hl3, hd4, hl4⟩ := fin (some (.exit id)) V3 hp.1
        exact ⟨_, V4, hr, .inr ⟨rfl, .exit id, by rw [e4]; exact (hIx _).putObj _ hp.2 (by omega) hl3 rfl, hd4, hl4⟩⟩
      | goto t =>
        obtain ⟨V4, hr, e4, hl3, hd4, hl4⟩ := fin (some (.goto t)) V3 hp.1
        exact ⟨_, V4, hr, .inr ⟨rfl, .goto t, by rw [e4]; exact (hIx _).putObj _ hp.2 (by omega) hl3 rfl, hd4, hl4⟩⟩
      | panic ch => exact hp.elim
      | outgrown => exact hp.elim
    · -- behind the iterator
      rintro e V ⟨⟨v, rfl⟩, h⟩
      rcases h with ⟨hi, hd, hl⟩ | ⟨k, hk0, hkN, c, hi, hd, hl⟩
      · have hr := run_endLoop (P := P) hl (by rw [(hst _ _).1]; simp)
        rw [(hst _ _).2.2] at hr
        exact ⟨none, _, hr, hdone _ _ (Nat.le_refl _) (hI.putObj _ hi (by omega) hl rfl) ((World.putObj_heap_other (by omega)).trans hd)⟩
      · have hr := run_endLoop (P := P) hl (by rw [(hst _ _).1]; simp)
        rw [(hst _ _).2.2] at hr
        exact ⟨some c, _, hr, hstop _ c k _ (Nat.le_refl _) hk0 hkN ((hIx c).putObj _ hi (by omega) hl rfl) ((World.putObj_heap_other (by omega)).trans hd)⟩
end Go.Rounds
