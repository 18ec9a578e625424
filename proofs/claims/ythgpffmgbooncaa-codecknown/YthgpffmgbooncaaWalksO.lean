/- Writers and readers that are none. Conditions: none. -/
import Derived.Test.YthgpffmgbooncaaWalksK
import Derived.Test.YthgpffmgbooncaaWalksL
namespace Go.Proofs.Ythgpffmgbooncaa
open Go.ChangeShapes Go.WideShapes Go.RowKit Go.Codec
def Quiet (w : World) (e : Ending) (w' : World) : Prop := e = .returned (.tuple #[]) ∧ Below w.heap.size w w'
theorem put8_nil (n : Nat) (hn : n < 256) (w : World) : Calls Try.prog 40 #[.pointer none, .int .u8 n] w (Quiet w) :=
  put8_loop n hn _ w _ ((add_nil _ _).mono fun _ _ ⟨he, hw⟩ => ⟨he, he, by rw [← hw]; exact (Below.refl _ w).alloc (Nat.le_refl _) _⟩)
theorem put16_nil (n : Nat) (w : World) : Calls Try.prog 41 #[.pointer none, .int .u16 n] w (Quiet w) :=
  put16_loop n _ w _ ((add_nil _ _).mono fun _ _ ⟨he, hw⟩ => ⟨he, he, by rw [← hw]; exact (Below.refl _ w).alloc (Nat.le_refl _) _⟩)
theorem u8_nil (n : Nat) (hn : n < 256) (w : World) : Calls Try.prog 19 #[.pointer none, .int .u8 n] w (Quiet w) := by
  have H := Lib.hid (put8_nil n hn w)
  go_enter Try.func19, Try.ntmps19
  go_wp2_with (go_at_call 40; refine H.out.mono ?_; rintro e w' ⟨rfl, h1⟩)
  go_end0
  exact ⟨rfl, h1⟩
theorem u16_nil (n : Nat) (w : World) : Calls Try.prog 20 #[.pointer none, .int .u16 n] w (Quiet w) := by
  have H := Lib.hid (put16_nil n w)
  go_enter Try.func20, Try.ntmps20
  go_wp2_with (go_at_call 41; refine H.out.mono ?_; rintro e w' ⟨rfl, h1⟩)
  go_end0
  exact ⟨rfl, h1⟩
theorem raw_nil (s : ByteArray) (hs : s.size ≤ 65535) (w : World) : Calls Try.prog 23 #[.pointer none, .string s] w (Quiet w) := by
  have H1 := Lib.hid (clone s (by omega) w)
  have H2 := Lib.hid (add_nil s)
  go_enter Try.func23, Try.ntmps23
  go_wp2_with (first | (go_at_call 36; refine H1.out.mono ?_; rintro e w' ⟨rfl, hb'⟩; have HB := Lib.hid hb'; clear hb') | (go_at_call 44; refine (H2.out _).mono ?_; rintro e w'' ⟨rfl, rfl⟩))
  go_end0
  exact ⟨rfl, HB.out⟩
theorem text_nil (s : ByteArray) (hs : s.size ≤ 65535) (w : World) : Calls Try.prog 22 #[.pointer none, .string s] w (Quiet w) := by
  have H1 := Lib.hid (u16_nil s.size w)
  have H2 := Lib.hid (raw_nil s hs)
  go_enter Try.func22, Try.ntmps22
  go_wp2_with (first | (go_at_call 20; refine H1.out.mono ?_; rintro e w' ⟨rfl, h1⟩; have HA := Lib.hid h1; clear h1) | (go_at_call 23; refine (H2.out _).mono ?_; rintro e w'' ⟨rfl, h1⟩))
  go_end0
  exact ⟨rfl, HA.out.trans (h1.mono HA.out.size)⟩
theorem bytes_nil (w : World) : Calls Try.prog 11 #[.pointer none] w fun e w' => e = .returned (.tuple #[.string ⟨#[]⟩, .int .i64 1]) ∧ w = w' := by
  go_enter Try.func11, Try.ntmps11
  go_wp2
  go_ret2
  exact ⟨rfl, rfl⟩
theorem fixed_nil (n : Int) (w : World) : Calls Try.prog 27 #[.pointer none, .int .i64 n] w fun e w' => e = .returned (.string ⟨#[]⟩) ∧ w = w' := by
  go_enter Try.func27, Try.ntmps27
  go_wp2
  all_goals
    go_ret
    exact ⟨rfl, rfl⟩
theorem err_nil (w : World) : Calls Try.prog 15 #[.pointer none] w fun e w' => e = .returned (.int .i64 1) ∧ w = w' := by
  go_enter Try.func15, Try.ntmps15
  go_wp2
  go_ret
  exact ⟨rfl, rfl⟩
theorem rest_nil (w : World) : Calls Try.prog 17 #[.pointer none] w fun e w' => e = .returned (.string ⟨#[]⟩) ∧ w = w' := by
  go_enter Try.func17, Try.ntmps17
  go_wp2
  go_ret
  exact ⟨rfl, rfl⟩
theorem get64_nil (w : World) : Calls Try.prog 49 #[.pointer none] w fun e w' => e = .returned (.int .u64 0) ∧ w = w' := by
  go_enter Try.func49, Try.ntmps49
  go_wp2_with (first | (go_at_call 58; refine (width64 _).mono ?_; rintro e w' ⟨rfl, rfl⟩) | (go_at_call 27; refine (fixed_nil _ _).mono ?_; rintro e w' ⟨rfl, rfl⟩))
  go_loop [4, 12] (fun n i => n = .int .u64 0 ∧ i = .int .i64 0) (fun _ _ => 0)
  case atStart => exact ⟨rfl, rfl⟩
  case round =>
    obtain ⟨rfl, rfl⟩ := hrel
    go_wp2
    go_ret
    exact ⟨rfl, rfl⟩
theorem get16_nil (w : World) : Calls Try.prog 45 #[.pointer none] w fun e w' => e = .returned (.int .u16 0) ∧ w = w' := by
  go_enter Try.func45, Try.ntmps45
  go_wp2_with (first | (go_at_call 56; refine (width16 _).mono ?_; rintro e w' ⟨rfl, rfl⟩) | (go_at_call 27; refine (fixed_nil _ _).mono ?_; rintro e w' ⟨rfl, rfl⟩))
  go_loop [4, 12] (fun n i => n = .int .u16 0 ∧ i = .int .i64 0) (fun _ _ => 0)
  case atStart => exact ⟨rfl, rfl⟩
  case round =>
    obtain ⟨rfl, rfl⟩ := hrel
    go_wp2
    go_ret
    exact ⟨rfl, rfl⟩
theorem ru64_nil (w : World) : Calls Try.prog 29 #[.pointer none] w fun e w' => e = .returned (.int .u64 0) ∧ w = w' := by
  go_enter Try.func29, Try.ntmps29
  go_wp2_with (go_at_call 49; refine (get64_nil _).mono ?_; rintro e w' ⟨rfl, rfl⟩)
  go_ret
  exact ⟨rfl, rfl⟩
theorem ru16_nil (w : World) : Calls Try.prog 24 #[.pointer none] w fun e w' => e = .returned (.int .u16 0) ∧ w = w' := by
  go_enter Try.func24, Try.ntmps24
  go_wp2_with (go_at_call 45; refine (get16_nil _).mono ?_; rintro e w' ⟨rfl, rfl⟩)
  go_ret
  exact ⟨rfl, rfl⟩
theorem rtext_nil (w : World) : Calls Try.prog 26 #[.pointer none] w fun e w' => e = .returned (.string ⟨#[]⟩) ∧ w = w' := by
  go_enter Try.func26, Try.ntmps26
  go_wp2_with (first | (go_at_call 24; refine (ru16_nil _).mono ?_; rintro e w' ⟨rfl, rfl⟩) | (go_at_call 27; refine (fixed_nil _ _).mono ?_; rintro e w' ⟨rfl, rfl⟩))
  go_ret
  exact ⟨rfl, rfl⟩
theorem zeros_text (n : Nat) (w : World) : ∃ Z : ByteArray, Z.size = n ∧ (convert 60 9 (.slice (some ⟨w.heap.size, 0, none⟩) n n)).run Try.prog (mk w n) = .ok (.string Z) (mk w n) := by
  refine ⟨bs (List.replicate n 0), by rw [bs_size]; simp, ?_⟩
  have h := tail_text (List.replicate n 0) n (by simp) w 0
  rw [World.drewN_zero] at h
  have e : tailRow 0 (List.replicate n 0) = madeCells #[.int .u8 0] n := by
    apply Array.ext'
    rw [toList_madeCells_one]
    simp [tailRow, Lib.byteCells]
  rw [e] at h
  exact h
end Go.Proofs.Ythgpffmgbooncaa
