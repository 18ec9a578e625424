/- Sealing and opening, in the program. Conditions: lengths below 2^30; the program's table as it is laid. -/
import Derived.Test.YtmjgbafoemdlpaaDoorCrcA
import Derived.Test.YtmjgbafoemdlpaaDoorCodF
import Derived.Test.YtmjgbafoemdlpaaDoorSeal
namespace Go.Proofs.YtmjgbafoemdlpaaDoor
open Go.ChangeShapes Go.WideShapes Go.RowKit Go.Codec
set_option maxRecDepth 100000
/-- The program's table lies as it is laid. -/
def Laid (w : World) : Prop := Tab4 w ∧ 0 < w.heap.size
theorem Laid.below {w w' : World} {B : Nat} (h : Laid w) (hb : Below B w w') (hB : 0 < B) : Laid w' := by
  obtain ⟨h1, h2⟩ := h
  refine ⟨fun k hk => ?_, Nat.lt_of_lt_of_le h2 hb.size⟩
  rw [← h1 k hk]
  have e := hb.block 0 hB
  simp only [World.cell?]
  rw [e]
theorem Laid.later {w w' : World} (h : Laid w) (hb : Below w.heap.size w w') : Laid w' := h.below hb h.2
theorem sum_list (l : List UInt8) (hl : l.length ≤ 1099511627776) (w : World) (ht : Laid w) :
    Calls Tryd.prog 30 #[.string (bs l)] w fun e w' => e = .returned (.int .u32 (Seal.sum l : Nat)) ∧ w = w' := by
  have h := sum_any (bs l) (by rw [bs_size]; unfold maxLen; omega) w ht.1
  unfold bl at h
  rw [bs_list] at h
  exact h
def newW (w : World) : World := w.alloc (.cells #[.pointer none, .int .i64 0, .int .i64 0] 62)
theorem newW_below (w : World) : Below w.heap.size w (newW w) := (Below.refl _ w).alloc (Nat.le_refl _) _
theorem seal_long (s : ByteArray) (hs : 65535 < s.size) (hm : s.size ≤ 1073741824) (w : World) :
    Calls Tryd.prog 11 #[.string s] w fun e w' => e = .returned (.tuple #[.string ⟨#[]⟩, .int .i64 3]) ∧ Below w.heap.size w w' := by
  have H1 := Lib.hid (text_any w.heap.size s (some []) (newW w) (Wr.new w) (by simp [wlen]; omega))
  have e1 : moreText (some []) s.data.toList = none := by unfold moreText; rw [if_pos (by rw [← Lib.size_eq]; exact hs)]
  rw [e1] at H1
  have H2 := Lib.hid (fun w' h => bytes_any w.heap.size none w' h (by simp [wlen]))
  have HB := Lib.hid (newW_below w)
  clear e1
  go_enter Tryd.func11, Tryd.ntmps11
  go_wp2_with fail
  refine H1.out.mono ?_; rintro e w1 ⟨rfl, h1, g1⟩
  have A1 := Lib.hid h1; have B1 := Lib.hid (HB.out.trans (below_of_grow g1 (by simp [newW]) (Nat.le_refl _))); clear h1 g1
  go_wp2_with fail
  refine (H2.out _ A1.out).mono ?_; rintro e w2 ⟨rfl, b2⟩
  have B2 := Lib.hid (B1.out.trans (b2.mono B1.out.size)); clear b2
  have t1 : (told none).1 = [] := rfl
  have t2 : (told none).2 = 3 := rfl
  rw [t1, t2]; clear t1 t2
  go_wp2
  go_ret2
  exact ⟨rfl, B2.out⟩
theorem seal_short (s : ByteArray) (hs : s.size ≤ 65535) (w : World) (ht : Laid w) :
    Calls Tryd.prog 11 #[.string s] w fun e w' => e = .returned (.tuple #[.string (bs (Seal.body s.data.toList)), .int .i64 0]) ∧ Below w.heap.size w w' := by
  have H1 := Lib.hid (text_any w.heap.size s (some []) (newW w) (Wr.new w) (by simp [wlen]; omega))
  have e1 : moreText (some []) s.data.toList = some (Seal.head s.data.toList) := by unfold moreText; rw [if_neg (by rw [← Lib.size_eq]; omega)]; rfl
  rw [e1] at H1
  have hhl := Seal.head_length s.data.toList
  rw [← Lib.size_eq] at hhl
  have eb : Seal.body s.data.toList = Seal.head s.data.toList ++ be 4 (Seal.sum (Seal.head s.data.toList)) := rfl
  rw [eb]; clear eb
  generalize Seal.head s.data.toList = hd at *
  have H2 := Lib.hid (fun w' h => bytes_any w.heap.size (some hd) w' h (by simp [wlen]; omega))
  have H3 := Lib.hid (fun w' h => sum_list hd (by omega) w' h)
  have H4 := Lib.hid (fun w' h => u32_any w.heap.size (Seal.sum hd) (some hd) w' h (by simp [wlen]; omega))
  generalize Seal.sum hd = c at *
  have H5 := Lib.hid (fun w' h => bytes_any w.heap.size (some (hd ++ be 4 c)) w' h (by simp [wlen, be_length]; omega))
  have HB := Lib.hid (newW_below w)
  have HT := Lib.hid ht
  clear e1 ht hhl
  go_enter Tryd.func11, Tryd.ntmps11
  go_wp2_with fail
  refine H1.out.mono ?_; rintro e w1 ⟨rfl, h1, g1⟩
  have A1 := Lib.hid h1; have B1 := Lib.hid (HB.out.trans (below_of_grow g1 (by simp [newW]) (Nat.le_refl _))); clear h1 g1
  go_wp2_with fail
  refine (H2.out _ A1.out).mono ?_; rintro e w2 ⟨rfl, b2⟩
  have A2 := Lib.hid (A1.out.below b2)
  have B2 := Lib.hid (B1.out.trans (b2.mono B1.out.size)); clear b2
  have t1 : (told (some hd)).1 = hd := rfl
  have t2 : (told (some hd)).2 = 0 := rfl
  rw [t1, t2]; clear t1 t2
  go_wp2_with fail
  refine (H3.out _ (HT.out.later B2.out)).mono ?_; rintro e w3 ⟨rfl, rfl⟩
  go_wp2_with fail
  refine (H4.out _ A2.out).mono ?_; rintro e w3 ⟨rfl, h1, g1⟩
  have A3 := Lib.hid h1; have B3 := Lib.hid (B2.out.trans (below_of_grow g1 B2.out.size (Nat.le_refl _))); clear h1 g1
  go_wp2_with fail
  refine (H5.out _ A3.out).mono ?_; rintro e w4 ⟨rfl, b4⟩
  have B4 := Lib.hid (B3.out.trans (b4.mono B3.out.size)); clear b4
  have t1 : (told (some (hd ++ be 4 c))).1 = hd ++ be 4 c := rfl
  have t2 : (told (some (hd ++ be 4 c))).2 = 0 := rfl
  rw [t1, t2]; clear t1 t2
  go_wp2
  go_ret2
  exact ⟨rfl, B4.out⟩
theorem seal_any (s : ByteArray) (hs : s.size ≤ 1073741824) (w : World) (ht : Laid w) :
    Calls Tryd.prog 11 #[.string s] w fun e w' => e = .returned (.tuple #[.string (bs (Seal.sealL s.data.toList).1), .int .i64 (Seal.sealL s.data.toList).2]) ∧ Below w.heap.size w w' := by
  unfold Seal.sealL
  rw [← Lib.size_eq]
  by_cases h : 65535 < s.size
  · rw [if_pos h]
    exact seal_long s h hs w
  · rw [if_neg h]
    exact seal_short s (by omega) w ht
end Go.Proofs.YtmjgbafoemdlpaaDoor
