/- FuseKnown. Conditions: none. -/
import Derived.Test.YtkefopakfjdfkaaFsD
import Derived.LaidEqlPtr
import Derived.Lib.Builder
namespace Go.Proofs.Ytkefopakfjdfkaa
open Go.ChangeShapes Go.WideShapes Go.RowKit Go.Maps
set_option maxRecDepth 100000
def s512 : List Cel := stW sA 512 ⟨#[97, 98]⟩
def sBar : List Cel := bar s512
def sXy : List Cel := stW sBar 5 ⟨#[120, 121]⟩
def sEnd : List Cel := crash sXy []
theorem under26 : Try.prog.underlying 26 = some (.pointer 55) := Try.underlying26
theorem info55 : ∃ j, Try.prog.info? 55 = some j := Option.isSome_iff_exists.1 (by kernel_rfl)
theorem eql26 (a : Addr) (w : World) : (binOp .eql 26 (.pointer (some a)) (.pointer (some a))).run Try.prog w = .ok (.bool true) w := by
  obtain ⟨j, hj⟩ := info55
  exact run_eql_ptr_same w a under26 hj
theorem neq26 (a : Addr) (w : World) : (binOp .neq 26 (.pointer (some a)) (.pointer (some a))).run Try.prog w = .ok (.bool false) w := by
  obtain ⟨j, hj⟩ := info55
  exact Lib.run_neq_ptr_same w a under26 hj
abbrev zeroF : Array Value := #[.pointer none, .int .i64 0, .slice none 0 0, .int .i64 0, .bool false]
theorem step_known {W w' : World} {F B b c : Nat} {st S S' : List Cel} {u : Value} {k : Nat} {e : Ending} {a r : Int} (h : e = .returned (.int .i64 (if (k : Int) = -1 then 8 else a)) ∧ Lo W w' F B b c (aft st S [] (-1) k) (-1) u [] (k + 1) (decide ((k : Int) = -1)))
    (ha : a = r) (hS : S = S') : e = .returned (.int .i64 r) ∧ Lo W w' F B b c S' (-1) u [] (k + 1) false := by
  have hk : ¬ (k : Int) = -1 := by omega
  have ea : aft st S [] (-1) k = S := if_neg hk
  rw [if_neg hk, ea, decide_eq_false hk, ha, hS] at h
  exact h
set_option maxHeartbeats 8000000 in
theorem known_any (w : World) : Calls Try.prog 4 #[] w fun e w' => e = .returned (.bool true) ∧ Below w.heap.size w w' := by
  have H8 := new512 w
  have hne := neq26
  have H9 := Lib.hid (fun (w1 : World) (B b c : Nat) (ho : Own w w1 B b c (fresh 512)) => lo_new ho (sl_nil w1) (by simp) (-1))
  have e5 : errW (fresh 512) 5 ⟨#[97, 98]⟩ = 0 := by kernel_rfl
  have e512 : errW sA 512 ⟨#[97, 98]⟩ = 2 := by kernel_rfl
  have eXy : errW sBar 5 ⟨#[120, 121]⟩ = 0 := by kernel_rfl
  have g5 : sEnd[5]? = some ⟨full [97, 98], none⟩ := by kernel_rfl
  have q5 : (bs (Cel.r ⟨full [97, 98], none⟩)).extract 0 2 = ⟨#[97, 98]⟩ := by kernel_rfl
  have W1 := Lib.hid (fun (w1 : World) (F B b c : Nat) (u : Value) (ho : Lo w w1 F B b c (fresh 512) (-1) u [] 0 false) =>
    (show Calls Try.prog 16 #[.pointer (some ⟨F, 0, none⟩), .int .i64 5, .string ⟨#[97, 98]⟩] w1 fun e w' => e = .returned (.int .i64 0) ∧ Lo w w' F B b c sA (-1) u [] 1 false from
      (lo_write ho (by decide) 5 ⟨#[97, 98]⟩).mono fun e w' h => step_known h e5 rfl))
  have W2 := Lib.hid (fun (w1 : World) (F B b c : Nat) (u : Value) (ho : Lo w w1 F B b c sA (-1) u [] 1 false) =>
    (show Calls Try.prog 16 #[.pointer (some ⟨F, 0, none⟩), .int .i64 512, .string ⟨#[97, 98]⟩] w1 fun e w' => e = .returned (.int .i64 2) ∧ Lo w w' F B b c s512 (-1) u [] 2 false from
      (lo_write ho (by decide) 512 ⟨#[97, 98]⟩).mono fun e w' h => step_known h e512 rfl))
  have W3 := Lib.hid (fun (w1 : World) (F B b c : Nat) (u : Value) (ho : Lo w w1 F B b c s512 (-1) u [] 2 false) =>
    (show Calls Try.prog 17 #[.pointer (some ⟨F, 0, none⟩)] w1 fun e w' => e = .returned (.int .i64 0) ∧ Lo w w' F B b c sBar (-1) u [] 3 false from
      (lo_barrier ho (by decide)).mono fun e w' h => step_known h rfl rfl))
  have W4 := Lib.hid (fun (w1 : World) (F B b c : Nat) (u : Value) (ho : Lo w w1 F B b c sBar (-1) u [] 3 false) =>
    (show Calls Try.prog 16 #[.pointer (some ⟨F, 0, none⟩), .int .i64 5, .string ⟨#[120, 121]⟩] w1 fun e w' => e = .returned (.int .i64 0) ∧ Lo w w' F B b c sXy (-1) u [] 4 false from
      (lo_write ho (by decide) 5 ⟨#[120, 121]⟩).mono fun e w' h => step_known h eXy rfl))
  have W5 := Lib.hid (fun (w1 : World) (F B b c : Nat) (u : Value) (ho : Lo w w1 F B b c sXy (-1) u [] 4 false) =>
    (show Calls Try.prog 18 #[.pointer (some ⟨F, 0, none⟩)] w1 fun e w' => e = .returned (.tuple #[]) ∧ Lo w w' F B b c sEnd (-1) u [] 4 true from lo_blow ho))
  have HB := Lib.hid (fun (w1 : World) (B b c : Nat) (hd : Dv w1 B b c sEnd) => begins_yes hd 5 g5 ⟨#[97, 98]⟩ q5)
  clear e5 e512 eXy g5 q5
  go_enter Try.func4, Try.ntmps4
  go_wp2_with (first
    | (go_at_call 8; refine H8.mono ?_; rintro e w1 ⟨B, b, c, rfl, ho⟩)
    | (go_at_call_of 9 (Value.pointer none); refine (lnew_nil _ _ _).mono ?_; rintro e w2 ⟨rfl, rfl⟩)
    | (go_at_call 9; refine (H9.out w1 B b c ho).mono ?_; rintro e w2 ⟨F, u, rfl, hl, -⟩; clear ho)
    | (go_at_call_of 13 (Value.pointer none); refine (down_no .nil).mono ?_; rintro e w2 ⟨rfl, rfl⟩)
    | (go_at_call_of 13 (Value.pointer (some ⟨F, 0, none⟩)); refine (down_any hl.ln).mono ?_; rintro e w2 ⟨rfl, rfl⟩)
    | (go_at_call 13; refine (down_no (.zero _ hz)).mono ?_; rintro e w2 ⟨rfl, rfl⟩)
    | (go_at_call_of 14 (Value.pointer (some ⟨F, 0, none⟩)); refine (device_any hl.ln).mono ?_; rintro e w2 ⟨rfl, rfl⟩)
    | (go_at_call 14; refine (device_zero hz).mono ?_; rintro e w2 ⟨rfl, rfl⟩)
    | (go_at_call_of 16 (Value.string { data := #[97, 98] }); with_reducible refine (W1.out _ F B b c u hl).mono ?_; rintro e w2 ⟨rfl, hl2⟩; clear hl; have hl := hl2; clear hl2)
    | (go_at_call_of 16 (Value.int .i64 512); with_reducible refine (W2.out _ F B b c u hl).mono ?_; rintro e w2 ⟨rfl, hl2⟩; clear hl; have hl := hl2; clear hl2)
    | (go_at_call_of 17 (Value.pointer (some ⟨F, 0, none⟩)); with_reducible refine (W3.out _ F B b c u hl).mono ?_; rintro e w2 ⟨rfl, hl2⟩; clear hl; have hl := hl2; clear hl2)
    | (go_at_call_of 16 (Value.string { data := #[120, 121] }); with_reducible refine (W4.out _ F B b c u hl).mono ?_; rintro e w2 ⟨rfl, hl2⟩; clear hl; have hl := hl2; clear hl2)
    | (go_at_call_of 18 (Value.pointer (some ⟨F, 0, none⟩)); with_reducible refine (W5.out _ F B b c u hl).mono ?_; rintro e w2 ⟨rfl, hl2⟩; clear hl; have hl := hl2; clear hl2)
    | (go_at_call_of 18 (Value.pointer (some ⟨F, 0, none⟩)); with_reducible refine (blow_down hl.ln).mono ?_; rintro e w2 ⟨rfl, rfl⟩)
    | (go_at_call 19; refine (HB.out _ B b c hl.ln.dev).mono ?_; rintro e w2 ⟨rfl, hb⟩; (replace hl := hl.later hb); clear hb)
    | (go_at_call_of 12 (Value.pointer none); refine (count_nil _).mono ?_; rintro e w2 ⟨rfl, rfl⟩)
    | (go_at_call 12; refine (count_any hl.ln).mono ?_; rintro e w2 ⟨rfl, rfl⟩)
    | (go_at_call_of 17 (Value.pointer (some ⟨F, 0, none⟩)); with_reducible refine (lo_barrier_cut hl).mono ?_; rintro e w2 ⟨rfl, rfl⟩)
    | (go_at_call 20; refine (cut_m1 _).mono ?_; rintro e wb ⟨rfl, hb⟩; (replace hl := hl.later hb); clear hb)
    | (go_at_call_of 18 (Value.pointer none); refine (blow_no .nil).mono ?_; rintro e w2 ⟨rfl, rfl⟩)
    | (go_at_call 18; (have hz := Is.new wb 48 zeroF); refine (blow_no (.zero _ hz)).mono ?_; rintro e w2 ⟨rfl, rfl⟩; (replace hl := hl.later (below_alloc (Below.refl _ _) (.cells zeroF 48))))
    | (go_at_call 21; refine (lread_no .nil 0).mono ?_; rintro e w2 ⟨rfl, rfl⟩)
    | (go_at_call_of 16 (Value.pointer none); refine (lwrite_not (er := 1) (by decide) (fun _ _ => lcheck_no .nil) 0 ⟨#[]⟩).mono ?_; rintro e w2 ⟨rfl, hb⟩; (replace hl := hl.later hb); (replace hz := (Kp.of_below hb []).is hz (by simp)); clear hb)
    | (go_at_call 17; refine (lbarrier_not (er := 1) (by decide) (lcheck_no (.zero _ hz))).mono ?_; rintro e w2 ⟨rfl, rfl⟩)
    | (go_at_call 7; refine (awake_any _).mono ?_; rintro e w2 ⟨rfl, hb⟩; (replace hl := hl.later hb); clear hb))
  go_ret
  exact ⟨rfl, hl.below⟩
end Go.Proofs.Ytkefopakfjdfkaa
