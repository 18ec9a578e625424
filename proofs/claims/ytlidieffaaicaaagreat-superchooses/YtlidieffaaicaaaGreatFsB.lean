/- Blow and act of a line. Conditions: none. -/
import Derived.Test.YtlidieffaaicaaaGreatFsA
namespace Go.Proofs.YtlidieffaaicaaaGreat.Fu
open Go.ChangeShapes Go.WideShapes Go.RowKit Go.Maps
set_option maxRecDepth 100000
section
variable {w w' : World} {F B b c : Nat} {st : List Cel} {z : Int} {u : Value} {xs : List Int} {k : Nat} {cut : Bool}
theorem Ln.free (h : Ln w F B b c st z u xs k cut) (i : Nat) : w.frozen? ⟨F, i, none⟩ = false := h.one.frozen i
theorem blow_down (h : Ln w F B b c st z u xs k true) : Calls Tryz.prog 18 #[.pointer (some ⟨F, 0, none⟩)] w fun e w' => e = .returned (.tuple #[]) ∧ w = w' := by
  have hm := check_any h
  clear h
  go_enter Tryz.func18, Tryz.ntmps18
  go_wp2_with (go_at_call 40; refine hm.mono ?_; rintro e w' ⟨rfl, rfl⟩)
  refine bodyPost_ret (results_none rfl _ _ _) rfl ?_
  exact ⟨rfl, rfl⟩
theorem blow_no {v : Value} (h : Nl w v) : Calls Tryz.prog 18 #[v] w fun e w' => e = .returned (.tuple #[]) ∧ w = w' := by
  have hm := lcheck_no h
  clear h
  go_enter Tryz.func18, Tryz.ntmps18
  go_wp2_with (go_at_call 40; refine hm.mono ?_; rintro e w' ⟨rfl, rfl⟩)
  refine bodyPost_ret (results_none rfl _ _ _) rfl ?_
  exact ⟨rfl, rfl⟩
theorem blow_up (h : Ln w F B b c st z u xs k false) : Calls Tryz.prog 18 #[.pointer (some ⟨F, 0, none⟩)] w
    fun e w' => e = .returned (.tuple #[]) ∧ Ln w' F B b c (crash st xs) z u xs k true ∧ Kp w w' [F, b, c] := by
  have hm := check_any h
  have H := Lib.hid h.drew
  obtain ⟨c0, c1, c2, c3, c4⟩ := h.drew.cells
  have hcr := crash_yes H.out.dev H.out.ch.sl
  clear h c1 c3 c4
  go_enter Tryz.func18, Tryz.ntmps18
  go_wp2_with (go_at_call 40; refine hm.mono ?_; rintro e w' ⟨rfl, rfl⟩)
  go_region_with (go_at_call 21; refine hcr.mono ?_; rintro e w2 ⟨rfl, hd, hk⟩)
  all_goals
    have H2 := Lib.hid (H.out.dev' hd hk)
    have HK := Lib.hid hk
    obtain ⟨d0, d1, d2, d3, d4⟩ := H2.out.cells
    have hf := H2.out.free 4
    clear hd hk d0 d1 d2 d3 c0 c2
    go_wp2
    go_end0
    refine ⟨rfl, H2.out.blown true, ?_⟩
    exact ((Kp.drew (Kp.refl w _)).trans (HK.out.more (Y := [F, b, c]) (by simp)) (fun _ hy => .inl hy)).trans (cell_kp _ _ _ _) (fun _ hy => .inl (by simp at hy; simp [hy]))
/-- An act that is none: the line is cut, or none. -/
theorem act_not {v g : Value} {er : Int} (he : er ≠ 0) (H : Calls Tryz.prog 40 #[v] w fun e w' => e = .returned (.int .i64 er) ∧ w = w') : Calls Tryz.prog 68 #[v, g] w fun e w' => e = .returned (.int .i64 er) ∧ w = w' := by
  have hb : (er != 0) = true := by simpa using he
  go_enter Tryz.func68, Tryz.ntmps68
  go_wp2_with (go_at_call 40; refine H.mono ?_; rintro e w' ⟨rfl, rfl⟩)
  go_ret
  exact ⟨rfl, rfl⟩
theorem kp_up {w0 w1 w2 : World} {X : List Nat} (h : Kp w0 w1 [F]) (h' : Kp w1 w2 X) : Kp w0 w2 (F :: X) := (h.more (Y := F :: X) (by simp)).trans (h'.more (Y := F :: X) (by simp; intro x hx; exact .inr hx)) (fun _ hy => .inl hy)
set_option maxHeartbeats 1000000 in
/-- An act ahead of the fuse. -/
theorem act_go {f : FuncId} {cap : Array Value} (hc : ∀ args w, (callFunc f args).run Tryz.prog w = .ok (.enter f args) w) {st' : List Cel} {X : List Nat} {E : World → Prop}
    (h : Ln w F B b c st z u xs k false) (hz : (k : Int) ≠ z) (hk : k < 1000000)
    (H : ∀ w1, Ln w1 F B b c st z u xs (k + 1) false → Kp w w1 [F] → Calls Tryz.prog f (#[.pointer (some ⟨B, 0, none⟩)] ++ cap) w1 fun e w2 => e = .returned (.tuple #[]) ∧ Ln w2 F B b c st' z u xs (k + 1) false ∧ Kp w1 w2 X ∧ E w2) :
    Calls Tryz.prog 68 #[.pointer (some ⟨F, 0, none⟩), .func (.func f) #[] cap] w fun e w' => e = .returned (.int .i64 0) ∧ Ln w' F B b c st' z u xs (k + 1) false ∧ Kp w w' (F :: X) ∧ E w' := by
  have hm := check_any h
  have hcount := h.count (k + 1)
  obtain ⟨c0, c1, c2, c3, c4⟩ := h.cells
  have hf := h.free 3
  have ek : ((k + 1 : Nat) : Int) = (k : Int) + 1 := by omega
  rw [ek] at hcount
  obtain ⟨d0, d1, d2, d3, d4⟩ := hcount.cells
  have hk1 := cell_kp w F 3 (.int .i64 ((k : Int) + 1))
  have HC := Lib.hid (H _ hcount hk1)
  have HK := Lib.hid hk1
  clear h H hcount hk1 ek
  go_enter Tryz.func68, Tryz.ntmps68
  go_wp2_with (go_at_call 40; refine hm.mono ?_; rintro e w' ⟨rfl, rfl⟩)
  refine HC.out.mono ?_
  rintro e w2 ⟨rfl, hl, hk2, hE⟩
  go_wp2
  go_ret
  exact ⟨rfl, hl, kp_up HK.out hk2, hE⟩
theorem kp_last {w0 w1 w2 w3 : World} {X : List Nat} (h : Kp w0 w1 [F]) (h' : Kp w1 w2 X) (h'' : Kp w2 w3 [F, b, c]) : Kp w0 w3 (F :: b :: c :: X) :=
  ((kp_up h h').more (Y := F :: b :: c :: X) (fun x hx => by simp at hx ⊢; rcases hx with rfl | hx <;> simp [*])).trans (h''.more (Y := F :: b :: c :: X) (fun x hx => by simp at hx ⊢; rcases hx with rfl | rfl | rfl <;> simp)) (fun _ hy => .inl hy)
set_option maxHeartbeats 1000000 in
/-- The act that cuts it. -/
theorem act_last {f : FuncId} {cap : Array Value} (hc : ∀ args w, (callFunc f args).run Tryz.prog w = .ok (.enter f args) w) {st' : List Cel} {X : List Nat}
    (h : Ln w F B b c st z u xs k false) (hz : (k : Int) = z) (hk : k < 1000000)
    (H : ∀ w1, Ln w1 F B b c st z u xs (k + 1) false → Kp w w1 [F] → Calls Tryz.prog f (#[.pointer (some ⟨B, 0, none⟩)] ++ cap) w1 fun e w2 => e = .returned (.tuple #[]) ∧ Ln w2 F B b c st' z u xs (k + 1) false ∧ Kp w1 w2 X) :
    Calls Tryz.prog 68 #[.pointer (some ⟨F, 0, none⟩), .func (.func f) #[] cap] w fun e w' => e = .returned (.int .i64 8) ∧ Ln w' F B b c (crash (if oddF xs then st' else st) xs) z u xs (k + 1) true ∧ Kp w w' (F :: b :: c :: X) := by
  have hm := check_any h
  have hcount := h.count (k + 1)
  obtain ⟨c0, c1, c2, c3, c4⟩ := h.cells
  have hf := h.free 3
  have ek : ((k + 1 : Nat) : Int) = (k : Int) + 1 := by omega
  rw [ek] at hcount
  obtain ⟨d0, d1, d2, d3, d4⟩ := hcount.cells
  have hk1 := cell_kp w F 3 (.int .i64 ((k : Int) + 1))
  have HC := Lib.hid (H _ hcount hk1)
  have HK := Lib.hid hk1
  have hla := last_any hcount
  have HB := Lib.hid (blow_up hcount)
  clear h H hcount hk1 ek
  subst hz
  cases ho : oddF xs
  · rw [ho] at hla
    clear ho
    go_enter Tryz.func68, Tryz.ntmps68
    go_wp2_with (first
      | (go_at_call 40; refine hm.mono ?_; rintro e w' ⟨rfl, rfl⟩)
      | (go_at_call 103; refine hla.mono ?_; rintro e w' ⟨rfl, rfl⟩)
      | (go_at_call 18; refine HB.out.mono ?_; rintro e w3 ⟨rfl, hl, hk3⟩))
    go_ret
    exact ⟨rfl, hl, kp_last HK.out (Kp.refl _ _) hk3⟩
  · rw [ho] at hla
    clear ho
    go_enter Tryz.func68, Tryz.ntmps68
    go_wp2_with (first
      | (go_at_call 40; refine hm.mono ?_; rintro e w' ⟨rfl, rfl⟩)
      | (go_at_call 103; refine hla.mono ?_; rintro e w' ⟨rfl, rfl⟩))
    refine HC.out.mono ?_
    rintro e w2 ⟨rfl, hl2, hk2⟩
    have HB2 := Lib.hid (blow_up hl2)
    have HK2 := Lib.hid hk2
    clear hl2 hk2
    go_wp2_with (go_at_call 18; refine HB2.out.mono ?_; rintro e w3 ⟨rfl, hl, hk3⟩)
    go_ret
    exact ⟨rfl, hl, kp_last HK.out HK2.out hk3⟩
theorem enters33 : ∀ args w, (callFunc 67 args).run Tryz.prog w = .ok (.enter 67 args) w := enters_of Tryz.func67 (by kernel_rfl) rfl
/-- What stands there behind an act that cuts it or does not; how it is cut. -/
def aft (st st' : List Cel) (xs : List Int) (z : Int) (k : Nat) : List Cel := if (k : Int) = z then crash (if oddF xs then st' else st) xs else st'
end
end Go.Proofs.YtlidieffaaicaaaGreat.Fu
