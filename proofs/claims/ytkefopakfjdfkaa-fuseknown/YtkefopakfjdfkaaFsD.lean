/- Lines of a call's own; begins, cut, awake. Conditions: none. -/
import Derived.Test.YtkefopakfjdfkaaFsC
namespace Go.Proofs.Ytkefopakfjdfkaa
open Go.ChangeShapes Go.WideShapes Go.RowKit Go.Maps
set_option maxRecDepth 100000
/-- A line of the call's own, its device too. -/
structure Lo (W w : World) (F B b c : Nat) (st : List Cel) (z : Int) (u : Value) (xs : List Int) (k : Nat) (cut : Bool) : Prop where
  ln : Ln w F B b c st z u xs k cut
  below : Below W.heap.size W w
  new : W.heap.size ≤ F ∧ W.heap.size ≤ B ∧ W.heap.size ≤ b ∧ W.heap.size ≤ c
section
variable {W w w' : World} {F B b c : Nat} {st st' : List Cel} {z : Int} {u : Value} {xs : List Int} {k k' : Nat} {cut cut' : Bool}
theorem Lo.later (h : Lo W w F B b c st z u xs k cut) (hb : Below w.heap.size w w') : Lo W w' F B b c st z u xs k cut :=
  ⟨h.ln.below hb, h.below.trans (hb.mono h.below.size), h.new⟩
theorem Lo.step {z' : Int} {u' : Value} {xs' : List Int} (h : Lo W w F B b c st z u xs k cut) (hl : Ln w' F B b c st' z' u' xs' k' cut') (hk : Kp w w' [F, b, c]) : Lo W w' F B b c st' z' u' xs' k' cut' :=
  ⟨hl, h.below.trans (hk.below h.below.size (fun x hx => by have := h.new; simp at hx; omega)), h.new⟩
theorem lo_write (h : Lo W w F B b c st z u xs k false) (hk : k < 1000000) (i : Int) (s : ByteArray) : Calls Try.prog 16 #[.pointer (some ⟨F, 0, none⟩), .int .i64 i, .string s] w
    fun e w' => e = .returned (.int .i64 (if (k : Int) = z then 8 else errW st i s)) ∧ Lo W w' F B b c (aft st (stW st i s) xs z k) z u xs (k + 1) (decide ((k : Int) = z)) :=
  (lwrite_up h.ln hk i s).mono fun _ _ ⟨e, hl, hk⟩ => ⟨e, h.step hl hk⟩
theorem lo_write_cut (h : Lo W w F B b c st z u xs k true) (i : Int) (s : ByteArray) : Calls Try.prog 16 #[.pointer (some ⟨F, 0, none⟩), .int .i64 i, .string s] w
    fun e w' => e = .returned (.int .i64 8) ∧ Lo W w' F B b c st z u xs k true :=
  (lwrite_not (er := 8) (by decide) (fun _ hb => check_any (h.ln.below hb)) i s).mono fun _ _ ⟨e, hb⟩ => ⟨e, h.later hb⟩
theorem lo_barrier (h : Lo W w F B b c st z u xs k false) (hk : k < 1000000) : Calls Try.prog 17 #[.pointer (some ⟨F, 0, none⟩)] w
    fun e w' => e = .returned (.int .i64 (if (k : Int) = z then 8 else 0)) ∧ Lo W w' F B b c (aft st (bar st) xs z k) z u xs (k + 1) (decide ((k : Int) = z)) :=
  (lbarrier_up h.ln hk).mono fun _ _ ⟨e, hl, hk⟩ => ⟨e, h.step hl hk⟩
theorem lo_barrier_cut (h : Lo W w F B b c st z u xs k true) : Calls Try.prog 17 #[.pointer (some ⟨F, 0, none⟩)] w
    fun e w' => e = .returned (.int .i64 8) ∧ w = w' := lbarrier_not (er := 8) (by decide) (check_any h.ln)
theorem lo_blow (h : Lo W w F B b c st z u xs k false) : Calls Try.prog 18 #[.pointer (some ⟨F, 0, none⟩)] w
    fun e w' => e = .returned (.tuple #[]) ∧ Lo W w' F B b c (crash st xs) z u xs k true :=
  (blow_up h.ln).mono fun _ _ ⟨e, hl, hk⟩ => ⟨e, h.step hl hk⟩
theorem lo_new {v : Value} {xs : List Int} (h : Own W w B b c st) (hu : Sl w v xs) (hl : xs.length ≤ 1000) (z : Int) : Calls Try.prog 9 #[.pointer (some ⟨B, 0, none⟩), .int .i64 z, v] w
    fun e w' => ∃ F u', e = .returned (.pointer (some ⟨F, 0, none⟩)) ∧ Lo W w' F B b c st z u' xs 0 false ∧ w.heap.size ≤ F ∧ Below w.heap.size w w' ∧ (∀ g, u'.ownBlock = some g → w.heap.size ≤ g) := by
  refine (lnew_any h.dev hu hl z).mono ?_
  rintro e w' ⟨F, u', rfl, hn, hF, hb, hhi⟩
  exact ⟨F, u', rfl, ⟨hn, h.below.trans (hb.mono h.below.size), by have := h.new; have := h.below.size; omega⟩, hF, hb, hhi⟩
theorem begins_yes (h : Dv w B b c st) (i : Nat) {x : Cel} (hx : st[i]? = some x) (want : ByteArray) (hq : (bs x.r).extract 0 2 = want) : Calls Try.prog 19 #[.pointer (some ⟨B, 0, none⟩), .int .i64 (i : Int), .string want] w
    fun e w' => e = .returned (.bool true) ∧ Below w.heap.size w w' := by
  have hr := read_in h hx
  have hlen : (bs x.r).size = 128 := by
    have := h.ok.r hx
    show x.r.toArray.size = 128
    simpa using this
  obtain ⟨S, hS⟩ : ∃ S, bs x.r = S := ⟨_, rfl⟩
  rw [hS] at hr hlen hq
  subst hq
  clear h hx hS
  go_enter Try.func19, Try.ntmps19
  go_wp2_with (go_at_call 23; refine hr.mono ?_; rintro e w' ⟨rfl, hb⟩)
  go_ret
  exact ⟨rfl, hb⟩
/-- The chapter's sectors: behind the first write; behind the act that cuts. -/
def sA : List Cel := stW (fresh 512) 5 ⟨#[97, 98]⟩
def sB (z : Int) : List Cel := aft sA (stW sA 6 ⟨#[99, 100]⟩) [z] 1 1
theorem cut_any (z : Int) (five six : ByteArray) (x5 x6 : Cel) (h5 : (sB z)[5]? = some x5) (h6 : (sB z)[6]? = some x6) (q5 : (bs x5.r).extract 0 2 = five) (q6 : (bs x6.r).extract 0 2 = six) (w : World) :
    Calls Try.prog 20 #[.int .i64 z, .string five, .string six] w fun e w' => e = .returned (.bool true) ∧ Below w.heap.size w w' := by
  have H8 := new512 w
  have H9 := Lib.hid (fun (w1 : World) (B b c : Nat) (ho : Own w w1 B b c (fresh 512)) => (lo_new (ho.later (below_alloc (Below.refl w1.heap.size w1) _)) (sl_lit [z] w1) (by simp) 1 :
    Calls Try.prog 9 #[.pointer (some ⟨B, 0, none⟩), .int .i64 1, .slice (some ⟨w1.heap.size, 0, none⟩) 1 1] (w1.alloc (.cells #[.int .i64 z] 3)) _))
  have e5 : errW (fresh 512) 5 ⟨#[97, 98]⟩ = 0 := by kernel_rfl
  have W5 := Lib.hid (fun (w1 : World) (F B b c : Nat) (u : Value) (ho : Lo w w1 F B b c (fresh 512) 1 u [z] 0 false) =>
    (show Calls Try.prog 16 #[.pointer (some ⟨F, 0, none⟩), .int .i64 5, .string ⟨#[97, 98]⟩] w1 fun e w' => e = .returned (.int .i64 0) ∧ Lo w w' F B b c sA 1 u [z] 1 false from
      (lo_write ho (by decide) 5 ⟨#[97, 98]⟩).mono fun e w' ⟨h1, h2⟩ => ⟨by rw [h1, if_neg (by decide), e5], h2⟩))
  have W6 := Lib.hid (fun (w1 : World) (F B b c : Nat) (u : Value) (ho : Lo w w1 F B b c sA 1 u [z] 1 false) =>
    (show Calls Try.prog 16 #[.pointer (some ⟨F, 0, none⟩), .int .i64 6, .string ⟨#[99, 100]⟩] w1 fun e w' => e = .returned (.int .i64 8) ∧ Lo w w' F B b c (sB z) 1 u [z] 2 true from
      (lo_write ho (by decide) 6 ⟨#[99, 100]⟩).mono fun e w' ⟨h1, h2⟩ => ⟨by rw [h1, if_pos (by decide)], h2⟩))
  have HB5 := Lib.hid (fun (w1 : World) (B b c : Nat) (hd : Dv w1 B b c (sB z)) => begins_yes hd 5 h5 five q5)
  have HB6 := Lib.hid (fun (w1 : World) (B b c : Nat) (hd : Dv w1 B b c (sB z)) => begins_yes hd 6 h6 six q6)
  clear e5 h5 h6 q5 q6
  go_enter Try.func20, Try.ntmps20
  go_wp2_with (first
    | (go_at_call 8; refine H8.mono ?_; rintro e w1 ⟨B, b, c, rfl, ho⟩)
    | (go_at_call 9; refine (H9.out w1 B b c ho).mono ?_; rintro e w2 ⟨F, u, rfl, hl, -⟩; clear ho)
    | (go_at_call_of 16 (Value.int .i64 5); refine (W5.out _ F B b c u hl).mono ?_; rintro e w3 ⟨rfl, hl3⟩; clear hl)
    | (go_at_call_of 16 (Value.int .i64 6); refine (W6.out _ F B b c u hl3).mono ?_; rintro e w4 ⟨rfl, hl⟩; clear hl3)
    | (go_at_call_of 16 (Value.int .i64 7); refine (lo_write_cut hl 7 ⟨#[101, 102]⟩).mono ?_; rintro e w5 ⟨rfl, hl5⟩; clear hl)
    | (go_at_call 21; refine (lread_down hl5.ln 5).mono ?_; rintro e w6 ⟨rfl, rfl⟩)
    | (go_at_call 12; refine (count_any hl5.ln).mono ?_; rintro e w6 ⟨rfl, rfl⟩)
    | (go_at_call 13; refine (down_any hl5.ln).mono ?_; rintro e w6 ⟨rfl, rfl⟩)
    | (go_at_call_of 19 (Value.int .i64 5); refine (HB5.out _ B b c hl5.ln.dev).mono ?_; rintro e w7 ⟨rfl, hb⟩; have hl7 := hl5.later hb; clear hl5 hb)
    | (go_at_call_of 19 (Value.int .i64 6); refine (HB6.out _ B b c hl7.ln.dev).mono ?_; rintro e w8 ⟨rfl, hb⟩; have hl8 := hl7.later hb; clear hl7 hb))
  go_ret
  exact ⟨rfl, hl8.below⟩
theorem cut_1 (w : World) : Calls Try.prog 20 #[.int .i64 1, .string ⟨#[97, 0]⟩, .string ⟨#[99, 0]⟩] w fun e w' => e = .returned (.bool true) ∧ Below w.heap.size w w' :=
  cut_any 1 ⟨#[97, 0]⟩ ⟨#[99, 0]⟩ ⟨tornL nought (full [97, 98]) 1, none⟩ ⟨tornL nought (full [99, 100]) 1, none⟩ (by kernel_rfl) (by kernel_rfl) (by kernel_rfl) (by kernel_rfl) w
theorem cut_0 (w : World) : Calls Try.prog 20 #[.int .i64 0, .string ⟨#[0, 0]⟩, .string ⟨#[0, 0]⟩] w fun e w' => e = .returned (.bool true) ∧ Below w.heap.size w w' :=
  cut_any 0 ⟨#[0, 0]⟩ ⟨#[0, 0]⟩ ⟨nought, none⟩ ⟨nought, none⟩ (by kernel_rfl) (by kernel_rfl) (by kernel_rfl) (by kernel_rfl) w
theorem cut_m1 (w : World) : Calls Try.prog 20 #[.int .i64 (-1), .string ⟨#[97, 98]⟩, .string ⟨#[99, 100]⟩] w fun e w' => e = .returned (.bool true) ∧ Below w.heap.size w w' :=
  cut_any (-1) ⟨#[97, 98]⟩ ⟨#[99, 100]⟩ ⟨full [97, 98], none⟩ ⟨full [99, 100], none⟩ (by kernel_rfl) (by kernel_rfl) (by kernel_rfl) (by kernel_rfl) w
theorem awake_any (w : World) : Calls Try.prog 7 #[] w fun e w' => e = .returned (.bool true) ∧ Below w.heap.size w w' := by
  have h1 := cut_1 w
  have h0 := fun w => cut_0 w
  go_enter Try.func7, Try.ntmps7
  go_wp2_with (first
    | (go_at_call_of 20 (Value.int .i64 1); refine h1.mono ?_; rintro e w1 ⟨rfl, hb1⟩)
    | (go_at_call_of 20 (Value.int .i64 0); refine (h0 w1).mono ?_; rintro e w2 ⟨rfl, hb2⟩))
  go_ret
  exact ⟨rfl, hb1.trans (hb2.mono hb1.size)⟩
end
end Go.Proofs.Ytkefopakfjdfkaa
