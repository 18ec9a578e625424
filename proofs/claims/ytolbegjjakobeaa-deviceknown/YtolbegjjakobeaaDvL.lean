/- DeviceKnown. Conditions: none. -/
import Derived.Test.YtolbegjjakobeaaDvK
namespace Go.Proofs.Ytolbegjjakobeaa
open Go.ChangeShapes Go.WideShapes Go.RowKit Go.Maps
set_option maxRecDepth 100000
abbrev LeftOne (z : Int) (l : List UInt8) : Prop := ∀ W : World, Calls Try.prog 24 #[.slice (some ⟨W.heap.size, 0, none⟩) 1 1] (W.alloc (.cells #[.int .i64 z] 3)) fun e w' => e = .returned (.string (bs l)) ∧ Below W.heap.size W w'
abbrev LeftTwo (z y : Int) (l : List UInt8) : Prop := ∀ W : World, Calls Try.prog 24 #[.slice (some ⟨W.heap.size, 0, none⟩) 2 2] (W.alloc (.cells #[.int .i64 z, .int .i64 y] 3)) fun e w' => e = .returned (.string (bs l)) ∧ Below W.heap.size W w'
theorem rep_x (n : Nat) (z : Int) (hz : z = (n : Int)) (hn : n ≤ 1000) (w : World) : Calls Try.prog 25 #[.string ⟨#[120]⟩, .int .i64 z] w fun e w' => e = .returned (.string (bs (List.replicate n 120))) ∧ Below w.heap.size w w' := by
  subst hz
  refine (Try.strings_Repeat ⟨#[120]⟩ n w (by omega) (by show 1 * n ≤ _; omega)).mono ?_
  rintro e w' ⟨rfl, hb⟩
  refine ⟨?_, hb⟩
  have : (⟨(Lib.repeatL [120] n).toArray⟩ : ByteArray) = bs (List.replicate n 120) := by rw [repeatL_one]; rfl
  exact congrArg (fun x => Ending.returned (.string x)) this
def x129 : ByteArray := bs (List.replicate 129 120)
def x128 : ByteArray := bs (List.replicate 128 120)
theorem rep_129 (w : World) : Calls Try.prog 25 #[.string ⟨#[120]⟩, .int .i64 129] w fun e w' => e = .returned (.string x129) ∧ Below w.heap.size w w' := rep_x 129 129 rfl (by decide) w
theorem rep_128 (w : World) : Calls Try.prog 25 #[.string ⟨#[120]⟩, .int .i64 128] w fun e w' => e = .returned (.string x128) ∧ Below w.heap.size w w' := rep_x 128 128 rfl (by decide) w
theorem x129_size : 128 < x129.size := by decide +kernel
theorem x128_size : x128.size ≤ 128 := by decide +kernel
def stA : List Cel := st3.set 0 ⟨nought, some (full x128.data.toList)⟩
def stB : List Cel := stA.set 511 ⟨nought, some (full [])⟩
def stC : List Cel := stB.set 3 ⟨nought, some (full [99])⟩
theorem st3_len : st3.length = 512 := by unfold st3; rw [List.length_set, fresh_len]
theorem stA_get511 : stA[511]? = some ⟨nought, none⟩ := by kernel_rfl
theorem st3_get0 : st3[0]? = some ⟨nought, none⟩ := by kernel_rfl
theorem stB_get3 : stB[3]? = some ⟨nought, some (full [97, 98])⟩ := by kernel_rfl
theorem stD_get3 : (bar stC)[3]? = some ⟨full [99], none⟩ := by kernel_rfl
theorem stB_waits : waitsN stB = 3 := by kernel_rfl
theorem stD_waits : waitsN (bar stC) = 0 := by kernel_rfl
theorem stD_len : (bar stC).length = 512 := by kernel_rfl
theorem ck3 (z : Int) (n : Int) (h : ck 512 z = n) : ck st3.length z = n := by rw [st3_len]; exact h
theorem w_A {w : World} {B bs' bw : Nat} (h : Dv w B bs' bw st3) : Calls Try.prog 20 #[.pointer (some ⟨B, 0, none⟩), .int .i64 0, .string x128] w
    fun e w' => e = .returned (.int .i64 0) ∧ Dv w' B bs' bw stA ∧ Kp w w' [bw] := write_in h (i := 0) st3_get0 x128 x128_size
theorem w_B {w : World} {B bs' bw : Nat} (h : Dv w B bs' bw stA) : Calls Try.prog 20 #[.pointer (some ⟨B, 0, none⟩), .int .i64 511, .string ⟨#[]⟩] w
    fun e w' => e = .returned (.int .i64 0) ∧ Dv w' B bs' bw stB ∧ Kp w w' [bw] := write_in h (i := 511) stA_get511 ⟨#[]⟩ (by decide)
theorem w_C {w : World} {B bs' bw : Nat} (h : Dv w B bs' bw stB) : Calls Try.prog 20 #[.pointer (some ⟨B, 0, none⟩), .int .i64 3, .string ⟨#[99]⟩] w
    fun e w' => e = .returned (.int .i64 0) ∧ Dv w' B bs' bw stC ∧ Kp w w' [bw] := write_in h (i := 3) stB_get3 ⟨#[99]⟩ (by decide)
theorem new_none (n : Int) (h : n < 512 ∨ 4096 < n) (w : World) : Calls Try.prog 7 #[.int .i64 n] w fun e w' => e = .returned (.pointer none) ∧ w = w' := by
  refine (new_any n w).mono ?_
  rintro e w' ⟨v, rfl, hm⟩
  cases hm with
  | none _ hw => exact ⟨rfl, hw⟩
  | some m B bs bw hn h0 h1 hd hB hb => omega
theorem new4096 (w : World) : Calls Try.prog 7 #[.int .i64 4096] w fun e w' => ∃ B, e = .returned (.pointer (some ⟨B, 0, none⟩)) ∧ Below w.heap.size w w' := by
  refine (new_any 4096 w).mono ?_
  rintro e w' ⟨v, rfl, h⟩
  cases h with
  | none h hw => omega
  | some m B bs bw hn h0 h1 hd hB hb => exact ⟨B, rfl, hb⟩
theorem w_512 {w : World} {B bs' bw : Nat} (h : Dv w B bs' bw st3) : Calls Try.prog 20 #[.pointer (some ⟨B, 0, none⟩), .int .i64 512, .string ⟨#[120]⟩] w
    fun e w' => e = .returned (.int .i64 2) ∧ w = w' := write_out h 512 ⟨#[120]⟩ (ck3 _ _ (by decide))
theorem w_m1 {w : World} {B bs' bw : Nat} (h : Dv w B bs' bw st3) : Calls Try.prog 20 #[.pointer (some ⟨B, 0, none⟩), .int .i64 (-1), .string ⟨#[120]⟩] w
    fun e w' => e = .returned (.int .i64 2) ∧ w = w' := write_out h (-1) ⟨#[120]⟩ (ck3 _ _ (by decide))
theorem w_129 {w : World} {B bs' bw : Nat} (h : Dv w B bs' bw st3) : Calls Try.prog 20 #[.pointer (some ⟨B, 0, none⟩), .int .i64 0, .string x129] w
    fun e w' => e = .returned (.int .i64 3) ∧ w = w' := write_long h 0 x129 (ck3 _ _ (by decide)) x129_size
set_option maxHeartbeats 8000000 in
theorem known_any (w : World) : Calls Try.prog 6 #[] w fun e w' => e = .returned (.bool true) ∧ Below w.heap.size w w' := by
  have hs := some_any w
  have l1 : LeftOne (-1) (full [97, 98]) := fun W => left_lit [-1] (full [97, 98]) (by kernel_rfl) W
  have l2 : LeftOne 128 (full [97, 98]) := fun W => left_lit [128] (full [97, 98]) (by kernel_rfl) W
  have l3 : LeftOne 129 (full [97, 98]) := fun W => left_lit [129] (full [97, 98]) (by kernel_rfl) W
  have l4 : LeftOne 130 (full []) := fun W => left_lit [130] (full []) (by kernel_rfl) W
  have l5 : LeftTwo 0 5 (full []) := fun W => left_lit [0, 5] (full []) (by kernel_rfl) W
  have l6 : LeftOne 2 (full [97, 98]) := fun W => left_lit [2] (full [97, 98]) (by kernel_rfl) W
  have L1 := Lib.hid l1; have L2 := Lib.hid l2; have L3 := Lib.hid l3; have L4 := Lib.hid l4; have L5 := Lib.hid l5; have L6 := Lib.hid l6
  clear l1 l2 l3 l4 l5 l6
  go_enter Try.func6, Try.ntmps6
  go_wp2_with (first
    | (go_at_call 23; refine hs.mono ?_; rintro e w1 ⟨B, b, c, rfl, ho⟩)
    | (go_at_call 10; refine (works_any _).mono ?_; rintro e w2 ⟨rfl, hb⟩; (replace ho := ho.later hb); (try (replace hz := hz.below hb)); clear hb)
    | (go_at_call 24; (first | with_reducible refine (L1.out _).mono ?_ | with_reducible refine (L2.out _).mono ?_ | with_reducible refine (L3.out _).mono ?_ | with_reducible refine (L4.out _).mono ?_ | with_reducible refine (L5.out _).mono ?_ | with_reducible refine (L6.out _).mono ?_); rintro e w2 ⟨rfl, hb⟩; (replace ho := ho.later hb); (try (replace hz := hz.below hb)); clear hb)
    | (go_at_call_of 21 (Value.string { data := #[97, 98] }); refine (full_lit [97, 98] (by decide) _).mono ?_; rintro e w2 ⟨rfl, hb⟩; (replace ho := ho.later hb); (try (replace hz := hz.below hb)); clear hb)
    | (go_at_call_of 21 (Value.string { data := #[] }); refine (full_lit [] (by decide) _).mono ?_; rintro e w2 ⟨rfl, hb⟩; (replace ho := ho.later hb); (try (replace hz := hz.below hb)); clear hb)
    | (go_at_call_of 21 (Value.string { data := #[99] }); refine (full_lit [99] (by decide) _).mono ?_; rintro e w2 ⟨rfl, hb⟩; (replace ho := ho.later hb); (try (replace hz := hz.below hb)); clear hb)
    | (go_at_call 20; with_reducible refine (w_512 ho.dev).mono ?_; rintro e w2 ⟨rfl, rfl⟩)
    | (go_at_call 20; with_reducible refine (w_m1 ho.dev).mono ?_; rintro e w2 ⟨rfl, rfl⟩)
    | (go_at_call 25; with_reducible refine (rep_129 _).mono ?_; rintro e w2 ⟨rfl, hb⟩; (replace ho := ho.later hb); (try (replace hz := hz.below hb)); clear hb)
    | (go_at_call 25; with_reducible refine (rep_128 _).mono ?_; rintro e w2 ⟨rfl, hb⟩; (replace ho := ho.later hb); (try (replace hz := hz.below hb)); clear hb)
    | (go_at_call 20; with_reducible refine (w_129 ho.dev).mono ?_; rintro e w2 ⟨rfl, rfl⟩)
    | (go_at_call 20; with_reducible refine (w_A ho.dev).mono ?_; rintro e w2 ⟨rfl, hd, hk⟩; (replace ho := ho.step hd hk (fun x hx => .inr (by simpa using hx))); clear hd hk)
    | (go_at_call 20; with_reducible refine (w_B ho.dev).mono ?_; rintro e w2 ⟨rfl, hd, hk⟩; (replace ho := ho.step hd hk (fun x hx => .inr (by simpa using hx))); clear hd hk)
    | (go_at_call_of 19 (Value.pointer (some ⟨B, 0, none⟩)); refine (waiting_yes ho.dev).mono ?_; (first | rw [stB_waits] | rw [stD_waits]); rintro e w2 ⟨rfl, rfl⟩)
    | (go_at_call 20; with_reducible refine (w_C ho.dev).mono ?_; rintro e w2 ⟨rfl, hd, hk⟩; (replace ho := ho.step hd hk (fun x hx => .inr (by simpa using hx))); clear hd hk)
    | (go_at_call_of 22 (Value.pointer (some ⟨B, 0, none⟩)); refine (barrier_yes ho.dev).mono ?_; rintro e wb ⟨rfl, hd, hk⟩; (replace ho := ho.step hd hk (fun x hx => by simpa using hx)); clear hd hk)
    | (go_at_call_of 17 (Value.int .i64 512); refine (read_out ho.dev 512 (by rw [stD_len]; decide)).mono ?_; rintro e w2 ⟨rfl, rfl⟩)
    | (go_at_call_of 22 (Value.pointer none); refine (barrier_no .nil).mono ?_; rintro e w2 ⟨rfl, rfl⟩)
    | (go_at_call_of 16 (Value.pointer none); refine (crash_no .nil).mono ?_; rintro e w2 ⟨rfl, rfl⟩)
    | (go_at_call 22; refine (barrier_no (.zero _ _ _ (Is.new wb 57 #[.int .i64 0, .map none, .map none]))).mono ?_; rintro e w2 ⟨rfl, rfl⟩; (have hz := No.zero _ _ _ (Is.new wb 57 #[.int .i64 0, .map none, .map none])); (replace ho := ho.later (below_alloc (Below.refl _ _) (.cells #[.int .i64 0, .map none, .map none] 57))))
    | (go_at_call 16; (replace ho := ho.later (below_alloc (Below.refl _ _) (.cells #[.int .i64 1] 3))); (replace hz := hz.below (below_alloc (Below.refl _ _) (.cells #[.int .i64 1] 3))); refine (crash_no hz).mono ?_; rintro e w2 ⟨rfl, rfl⟩)
    | (go_at_call 17; refine (read_no hz 0).mono ?_; rintro e w2 ⟨rfl, rfl⟩)
    | (go_at_call_of 18 (Value.int .i64 3); refine (sure_r ho.dev 3 stD_get3 (full [99]) rfl).mono ?_; rintro e w2 ⟨rfl, hb⟩; (replace ho := ho.later hb); (replace hz := hz.below hb); clear hb)
    | (go_at_call_of 18 (Value.int .i64 512); refine (sure_out ho.dev 512 (by rw [stD_len]; decide)).mono ?_; rintro e w2 ⟨rfl, rfl⟩)
    | (go_at_call_of 14 (Value.pointer (some ⟨B, 0, none⟩)); refine (sectors_yes ho.dev).mono ?_; (rw [stD_len]); rintro e w2 ⟨rfl, rfl⟩)
    | (go_at_call_of 7 (Value.int .i64 511); refine (new_none 511 (.inl (by decide)) _).mono ?_; rintro e w2 ⟨rfl, rfl⟩)
    | (go_at_call_of 7 (Value.int .i64 4097); refine (new_none 4097 (.inr (by decide)) _).mono ?_; rintro e w2 ⟨rfl, rfl⟩)
    | (go_at_call 7; refine (new4096 _).mono ?_; rintro e w2 ⟨B4, rfl, hb⟩; (replace ho := ho.later hb); (replace hz := hz.below hb); clear hb)
    | (go_at_call_of 20 (Value.pointer none); refine (write_no .nil 0 ⟨#[]⟩).mono ?_; rintro e w2 ⟨rfl, rfl⟩)
    | (go_at_call_of 14 (Value.pointer none); refine (sectors_no .nil).mono ?_; rintro e w2 ⟨rfl, rfl⟩)
    | (go_at_call 19; refine (waiting_no hz).mono ?_; rintro e w2 ⟨rfl, rfl⟩)
    | (go_at_call_of 15 (Value.pointer none); refine (copy_no .nil).mono ?_; rintro e w2 ⟨rfl, rfl⟩)
    | (go_at_call 15; refine (copy_no hz).mono ?_; rintro e w2 ⟨rfl, rfl⟩)
    | (go_at_call_of 18 (Value.pointer none); refine (sure_no .nil 0).mono ?_; rintro e w2 ⟨rfl, rfl⟩))
  go_ret
  exact ⟨rfl, ho.below⟩
end Go.Proofs.Ytolbegjjakobeaa
