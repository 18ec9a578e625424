/- Blow and act of a line. Conditions: none. -/
import Derived.Test.YtkefopakfjdfkaaFsA
namespace Go.Proofs.Ytkefopakfjdfkaa
open Go.ChangeShapes Go.WideShapes Go.RowKit Go.Maps
set_option maxRecDepth 100000
section
variable {w w' : World} {F B b c : Nat} {st : List Cel} {z : Int} {u : Value} {xs : List Int} {k : Nat} {cut : Bool}
theorem Ln.free (h : Ln w F B b c st z u xs k cut) (i : Nat) : w.frozen? ⟨F, i, none⟩ = false := h.one.frozen i
theorem blow_down (h : Ln w F B b c st z u xs k true) : Calls Try.prog 18 #[.pointer (some ⟨F, 0, none⟩)] w fun e w' => e = .returned (.tuple #[]) ∧ w = w' := by
  have hm := check_any h
  clear h
  go_enter Try.func18, Try.ntmps18
  go_wp2_with (go_at_call 30; refine hm.mono ?_; rintro e w' ⟨rfl, rfl⟩)
  refine bodyPost_ret (results_none rfl _ _ _) rfl ?_
  exact ⟨rfl, rfl⟩
theorem blow_no {v : Value} (h : Nl w v) : Calls Try.prog 18 #[v] w fun e w' => e = .returned (.tuple #[]) ∧ w = w' := by
  have hm := lcheck_no h
  clear h
  go_enter Try.func18, Try.ntmps18
  go_wp2_with (go_at_call 30; refine hm.mono ?_; rintro e w' ⟨rfl, rfl⟩)
  refine bodyPost_ret (results_none rfl _ _ _) rfl ?_
  exact ⟨rfl, rfl⟩
theorem blow_up (h : Ln w F B b c st z u xs k false) : Calls Try.prog 18 #[.pointer (some ⟨F, 0, none⟩)] w
    fun e w' => e = .returned (.tuple #[]) ∧ Ln w' F B b c (crash st xs) z u xs k true ∧ Kp w w' [F, b, c] := by
  have hm := check_any h
  have H := Lib.hid h.drew
  obtain ⟨c0, c1, c2, c3, c4⟩ := h.drew.cells
  have hcr := crash_yes H.out.dev H.out.ch.sl
  clear h c1 c3 c4
  go_enter Try.func18, Try.ntmps18
  go_wp2_with (go_at_call 30; refine hm.mono ?_; rintro e w' ⟨rfl, rfl⟩)
  go_region_with (go_at_call 37; refine hcr.mono ?_; rintro e w2 ⟨rfl, hd, hk⟩)
  all_goals
    have H2 := Lib.hid (H.out.dev' hd hk)
    have HK := Lib.hid hk
    obtain ⟨d0, d1, d2, d3, d4⟩ := H2.out.cells
    have hf := H2.out.free 4
    clear hd hk d0 d1 d2 d3 c0 c2
    go_wp2
    go_end0
    refine ⟨rfl, H2.out.blown true, ?_⟩
    exact ((Kp.drew (Kp.refl w _)).trans (HK.out.more (Y := [F, b, c]) (by simp)) (fun _ hy => .inl hy)).trans (cell_kp _ _ _ _) (fun _ hy => .inl (by simp at hy; simp [hy]))
/-- An act that is none: the line is cut, or none. -/
theorem act_not {v g : Value} {er : Int} (he : er ≠ 0) (H : Calls Try.prog 30 #[v] w fun e w' => e = .returned (.int .i64 er) ∧ w = w') : Calls Try.prog 35 #[v, g] w fun e w' => e = .returned (.int .i64 er) ∧ w = w' := by
  have hb : (er != 0) = true := by simpa using he
  go_enter Try.func35, Try.ntmps35
  go_wp2_with (go_at_call 30; refine H.mono ?_; rintro e w' ⟨rfl, rfl⟩)
  go_ret
  exact ⟨rfl, rfl⟩
theorem kp_up {w0 w1 w2 : World} {X : List Nat} (h : Kp w0 w1 [F]) (h' : Kp w1 w2 X) : Kp w0 w2 (F :: X) := (h.more (Y := F :: X) (by simp)).trans (h'.more (Y := F :: X) (by simp; intro x hx; exact .inr hx)) (fun _ hy => .inl hy)
set_option maxHeartbeats 1000000 in
/-- An act ahead of the fuse. -/
theorem act_go {f : FuncId} {cap : Array Value} (hc : ∀ args w, (callFunc f args).run Try.prog w = .ok (.enter f args) w) {st' : List Cel} {X : List Nat} {E : World → Prop}
    (h : Ln w F B b c st z u xs k false) (hz : (k : Int) ≠ z) (hk : k < 1000000)
    (H : ∀ w1, Ln w1 F B b c st z u xs (k + 1) false → Kp w w1 [F] → Calls Try.prog f (#[.pointer (some ⟨B, 0, none⟩)] ++ cap) w1 fun e w2 => e = .returned (.tuple #[]) ∧ Ln w2 F B b c st' z u xs (k + 1) false ∧ Kp w1 w2 X ∧ E w2) :
    Calls Try.prog 35 #[.pointer (some ⟨F, 0, none⟩), .func (.func f) #[] cap] w fun e w' => e = .returned (.int .i64 0) ∧ Ln w' F B b c st' z u xs (k + 1) false ∧ Kp w w' (F :: X) ∧ E w' := by
  have hm := check_any h
  have hcount := h.count (k + 1)
  obtain ⟨c0, c1, c2, c3, c4⟩ := h.cells
  have hf := h.free 3
  have ek : ((k + 1 : Nat) : Int) = (k : Int) + 1 := by omega
  rw [ek] at hcount
  obtain ⟨d0, d1, d2, d3, d4⟩ := hcount.cells
  have hk1 := cell_kp w F 3 (.int .i64 ((k : Int) + 1))
  have HC := Lib.hid (H _ hcount hk1)
  have HK := Lib.hid hk1
  clear h H hcount hk1 ek
  go_enter Try.func35, Try.ntmps35
  go_wp2_with (go_at_call 30; refine hm.mono ?_; rintro e w' ⟨rfl, rfl⟩)
  refine HC.out.mono ?_
  rintro e w2 ⟨rfl, hl, hk2, hE⟩
  go_wp2
  go_ret
  exact ⟨rfl, hl, kp_up HK.out hk2, hE⟩
theorem kp_last {w0 w1 w2 w3 : World} {X : List Nat} (h : Kp w0 w1 [F]) (h' : Kp w1 w2 X) (h'' : Kp w2 w3 [F, b, c]) : Kp w0 w3 (F :: b :: c :: X) :=
  ((kp_up h h').more (Y := F :: b :: c :: X) (fun x hx => by simp at hx ⊢; rcases hx with rfl | hx <;> simp [*])).trans (h''.more (Y := F :: b :: c :: X) (fun x hx => by simp at hx ⊢; rcases hx with rfl | rfl | rfl <;> simp)) (fun _ hy => .inl hy)
set_option maxHeartbeats 1000000 in
/-- The act that cuts it. -/
theorem act_last {f : FuncId} {cap : Array Value} (hc : ∀ args w, (callFunc f args).run Try.prog w = .ok (.enter f args) w) {st' : List Cel} {X : List Nat}
    (h : Ln w F B b c st z u xs k false) (hz : (k : Int) = z) (hk : k < 1000000)
    (H : ∀ w1, Ln w1 F B b c st z u xs (k + 1) false → Kp w w1 [F] → Calls Try.prog f (#[.pointer (some ⟨B, 0, none⟩)] ++ cap) w1 fun e w2 => e = .returned (.tuple #[]) ∧ Ln w2 F B b c st' z u xs (k + 1) false ∧ Kp w1 w2 X) :
    Calls Try.prog 35 #[.pointer (some ⟨F, 0, none⟩), .func (.func f) #[] cap] w fun e w' => e = .returned (.int .i64 8) ∧ Ln w' F B b c (crash (if oddF xs then st' else st) xs) z u xs (k + 1) true ∧ Kp w w' (F :: b :: c :: X) := by
  have hm := check_any h
  have hcount := h.count (k + 1)
  obtain ⟨c0, c1, c2, c3, c4⟩ := h.cells
  have hf := h.free 3
  have ek : ((k + 1 : Nat) : Int) = (k : Int) + 1 := by omega
  rw [ek] at hcount
  obtain ⟨d0, d1, d2, d3, d4⟩ := hcount.cells
  have hk1 := cell_kp w F 3 (.int .i64 ((k : Int) + 1))
  have HC := Lib.hid (H _ hcount hk1)
  have HK := Lib.hid hk1
  have hla := last_any hcount
  have HB := Lib.hid (blow_up hcount)
  clear h H hcount hk1 ek
  subst hz
  cases ho : oddF xs
  · rw [ho] at hla
    clear ho
    go_enter Try.func35, Try.ntmps35
    go_wp2_with (first
      | (go_at_call 30; refine hm.mono ?_; rintro e w' ⟨rfl, rfl⟩)
      | (go_at_call 46; refine hla.mono ?_; rintro e w' ⟨rfl, rfl⟩)
      | (go_at_call 18; refine HB.out.mono ?_; rintro e w3 ⟨rfl, hl, hk3⟩))
    go_ret
    exact ⟨rfl, hl, kp_last HK.out (Kp.refl _ _) hk3⟩
  · rw [ho] at hla
    clear ho
    go_enter Try.func35, Try.ntmps35
    go_wp2_with (first
      | (go_at_call 30; refine hm.mono ?_; rintro e w' ⟨rfl, rfl⟩)
      | (go_at_call 46; refine hla.mono ?_; rintro e w' ⟨rfl, rfl⟩))
    refine HC.out.mono ?_
    rintro e w2 ⟨rfl, hl2, hk2⟩
    have HB2 := Lib.hid (blow_up hl2)
    have HK2 := Lib.hid hk2
    clear hl2 hk2
    go_wp2_with (go_at_call 18; refine HB2.out.mono ?_; rintro e w3 ⟨rfl, hl, hk3⟩)
    go_ret
    exact ⟨rfl, hl, kp_last HK.out HK2.out hk3⟩
/-- The device's Barrier as an act. -/
theorem done_barrier {w0 : World} (_ : Kp w0 w [F]) (h : Ln w F B b c st z u xs k cut) : Calls Try.prog 36 (#[.pointer (some ⟨B, 0, none⟩)] ++ #[]) w fun e w2 => e = .returned (.tuple #[]) ∧ Ln w2 F B b c (bar st) z u xs k cut ∧ Kp w w2 [b, c] := by
  refine (barrier_yes h.dev).mono ?_
  rintro e w2 ⟨rfl, hd, hk⟩
  exact ⟨rfl, h.dev' hd hk, hk⟩
theorem enters36 : ∀ args w, (callFunc 36 args).run Try.prog w = .ok (.enter 36 args) w := enters_of Try.func36 (by kernel_rfl) rfl
theorem enters33 : ∀ args w, (callFunc 33 args).run Try.prog w = .ok (.enter 33 args) w := enters_of Try.func33 (by kernel_rfl) rfl
/-- What stands there behind an act that cuts it or does not; how it is cut. -/
def aft (st st' : List Cel) (xs : List Int) (z : Int) (k : Nat) : List Cel := if (k : Int) = z then crash (if oddF xs then st' else st) xs else st'
theorem lbarrier_up (h : Ln w F B b c st z u xs k false) (hk : k < 1000000) : Calls Try.prog 17 #[.pointer (some ⟨F, 0, none⟩)] w
    fun e w' => e = .returned (.int .i64 (if (k : Int) = z then 8 else 0)) ∧ Ln w' F B b c (aft st (bar st) xs z k) z u xs (k + 1) (decide ((k : Int) = z)) ∧ Kp w w' [F, b, c] := by
  by_cases hz : (k : Int) = z
  · have H := act_last enters36 h hz hk (fun w1 h1 hk1 => done_barrier hk1 h1)
    have e1 : aft st (bar st) xs z k = crash (if oddF xs then bar st else st) xs := if_pos hz
    obtain ⟨S, hS⟩ : ∃ S, aft st (bar st) xs z k = S := ⟨_, rfl⟩
    rw [← e1, hS] at H
    rw [if_pos hz, hS, decide_eq_true hz]
    clear h e1 hS
    go_enter Try.func17, Try.ntmps17
    go_wp2_with (go_at_call 35; refine H.mono ?_; rintro e w' ⟨rfl, hl, hk⟩)
    go_ret
    exact ⟨rfl, hl, hk.more (by simp)⟩
  · have H := act_go enters36 h hz hk (E := fun _ => True) (fun w1 h1 hk1 => (done_barrier hk1 h1).mono fun e w2 ⟨a1, a2, a3⟩ => ⟨a1, a2, a3, trivial⟩)
    have e1 : aft st (bar st) xs z k = bar st := if_neg hz
    rw [if_neg hz, e1, decide_eq_false hz]
    clear h
    go_enter Try.func17, Try.ntmps17
    go_wp2_with (go_at_call 35; refine H.mono ?_; rintro e w' ⟨rfl, hl, hk, -⟩)
    go_ret
    exact ⟨rfl, hl, hk⟩
theorem lbarrier_not {v : Value} {er : Int} (he : er ≠ 0) (H : Calls Try.prog 30 #[v] w fun e w' => e = .returned (.int .i64 er) ∧ w = w') : Calls Try.prog 17 #[v] w fun e w' => e = .returned (.int .i64 er) ∧ w = w' := by
  have HA := act_not (g := .func (.func 36) #[] #[]) he H
  go_enter Try.func17, Try.ntmps17
  go_wp2_with (go_at_call 35; refine HA.mono ?_; rintro e w' ⟨rfl, rfl⟩)
  go_ret
  exact ⟨rfl, rfl⟩
end
end Go.Proofs.Ytkefopakfjdfkaa
