/- Texts at their slashes; the laws' helpers. Conditions: the listed families as the program's text lays them; texts of a thousand bytes at most. -/
import Derived.Test.YtnpgoahdemfkpaaDoorWalksR
import Derived.Lib.SplitLaws
import Derived.Laws.Cover1
namespace Go.Proofs.YtnpgoahdemfkpaaDoor
open Go.ChangeShapes Go.WideShapes Go.RowKit Go.Path
set_option maxRecDepth 100000
set_option linter.unusedVariables false
set_option linter.unusedSimpArgs false
theorem gen_one (s : ByteArray) (c : UInt8) (hs : s.size ≤ 1000) (w : World) :
    Calls Tryd.prog 60 #[.string s, .string ⟨#[c]⟩, .int .i64 0, .int .i64 (-1)] w fun e w' =>
      e = .returned (.slice (some ⟨w.heap.size, 0, none⟩) (Lib.splitB ⟨#[c]⟩ 0 (Lib.countB s ⟨#[c]⟩) s).length (Lib.countB s ⟨#[c]⟩ + 1)) ∧ w' = w.alloc (.cells (Lib.cellsOf (Lib.splitB ⟨#[c]⟩ 0 (Lib.countB s ⟨#[c]⟩) s) (Lib.countB s ⟨#[c]⟩ + 1)) 9) := by
  have hle := Lib.countB_le ⟨#[c]⟩ (Nat.le_refl 1) s.size s (Nat.le_refl _)
  exact Any.strings_genSplit_core Tryd.lays221 (by kernel_rfl) s ⟨#[c]⟩ 0 (-1) (Lib.countB s ⟨#[c]⟩ + 1) w (by omega) (Nat.le_refl 1) (Nat.zero_le _)
    (fun x cs hx => by
      refine (Tryd.strings_Index_one x c _).mono ?_
      rintro e w' ⟨rfl, rfl⟩
      refine ⟨?_, rfl⟩
      show _ = Ending.returned (.int .i64 (Lib.index x.data.toList [c]))
      rw [Lib.index_one])
    (by
      refine (Tryd.strings_Count_one s c w).mono ?_
      rintro e w' ⟨rfl, rfl⟩
      refine ⟨?_, rfl⟩
      show _ = Ending.returned (.int .i64 ((Lib.count s.data.toList [c] : Nat) : Int))
      rw [Lib.count_one]; rfl)
    (by decide) (by decide) (by rw [if_pos (by decide)]; omega)
theorem split_one (s : ByteArray) (c : UInt8) (hs : s.size ≤ 1000) (w : World) :
    Calls Tryd.prog 49 #[.string s, .string ⟨#[c]⟩] w fun e w' =>
      e = .returned (.slice (some ⟨w.heap.size, 0, none⟩) (Lib.splitB ⟨#[c]⟩ 0 (Lib.countB s ⟨#[c]⟩) s).length (Lib.countB s ⟨#[c]⟩ + 1)) ∧ w' = w.alloc (.cells (Lib.cellsOf (Lib.splitB ⟨#[c]⟩ 0 (Lib.countB s ⟨#[c]⟩) s) (Lib.countB s ⟨#[c]⟩ + 1)) 9) := by
  have G := Lib.hid (gen_one s c hs w)
  generalize (Lib.splitB ⟨#[c]⟩ 0 (Lib.countB s ⟨#[c]⟩) s).length = n at *
  generalize Lib.countB s ⟨#[c]⟩ + 1 = m at *
  go_enter Tryd.func49, Tryd.ntmps49
  go_wp2_with fail
  refine G.out.mono ?_; rintro e w1 ⟨rfl, hw⟩
  have HW := Lib.hid hw; clear hw
  go_wp2
  go_ret
  exact ⟨rfl, HW.out⟩
/-- Names, handed back. -/
def GivesIn (xs : List B) (w : World) (e : Ending) (w' : World) : Prop := ∃ A c, e = .returned (.slice A xs.length c) ∧ In w' A xs c ∧ Below w.heap.size w w'
theorem names_is (s : ByteArray) (xs : List B) (hs : s.size ≤ 1000) (hn' : s.data.toList ≠ []) (hk : Lib.countB s ⟨#[47]⟩ + 1 = xs.length) (hx : Lib.splitB ⟨#[47]⟩ 0 (Lib.countB s ⟨#[47]⟩) s = xs.map bs) (hl : xs.length ≤ 100) (he : ∀ x ∈ xs, x.length ≤ 1000) (w : World) :
    Calls Tryd.prog 33 #[.string s] w (GivesIn xs w) := by
  have hn : s.toList ≠ [] := by rw [text_list]; exact hn'
  have G := split_one s 47 hs w
  rw [hx, hk, List.length_map] at G
  have hc : Lib.cellsOf (xs.map bs) xs.length = (xs.map str).toArray := by
    rw [show xs.length = (xs.map bs).length by simp, Lib.cellsOf_full, List.map_map]; rfl
  rw [hc] at G
  have K : Calls Tryd.prog 49 #[.string s, .string ⟨#[47]⟩] w (GivesIn xs w) := by
    refine G.mono ?_
    rintro e w' ⟨rfl, rfl⟩
    refine ⟨_, _, rfl, ⟨?_, by omega, Nat.le_refl _, fun x hx => by have := he x hx; unfold maxLen; omega⟩, (Below.refl _ _).alloc (Nat.le_refl _) _⟩
    refine .inr ⟨w.heap.size, 0, rfl, by simp, fun i y hy => ?_⟩
    have := heap_alloc_new w (.cells (xs.map str).toArray 9)
    rw [cell_of_row _ _ _ _ _ _ this, Nat.zero_add]
    simp [hy]
  have H := Lib.hid K
  have e1 : (s.toList == []) = false := by simpa using hn
  have e2 : s.toList.isEmpty = false := by cases h : s.toList <;> simp_all
  have e3 : ¬ s.toList = [] := hn
  clear G K hc hx hk he
  unfold GivesIn at *
  generalize xs.length = n at *
  go_enter Tryd.func33, Tryd.ntmps33
  go_wp2_with fail
  refine H.out.mono ?_; rintro e w1 ⟨A, c, rfl, hi, hb⟩
  have HI := Lib.hid hi; have HB := Lib.hid hb; clear hi hb
  go_wp2
  go_ret
  exact ⟨A, c, rfl, HI.out, HB.out⟩
theorem names_ab (w : World) : Calls Tryd.prog 33 #[.string ⟨#[97, 47, 98]⟩] w (GivesIn [[97], [98]] w) := names_is _ _ (by decide) (by decide) (by rfl) (by rfl) (by decide) (by decide) w
theorem names_a (w : World) : Calls Tryd.prog 33 #[.string ⟨#[97]⟩] w (GivesIn [[97]] w) := names_is _ _ (by decide) (by decide) (by rfl) (by rfl) (by decide) (by decide) w
theorem In.lit (w : World) (A : Option Addr) (c : Nat) : In w A [] c := ⟨Rs.nil, by simp, by simp, by simp⟩
theorem takes_true (k pa : ByteArray) (hk : k.size ≤ 1000) (c i : Nat) (l : List B) (hT : takeP k.data.toList = ⟨c, l, i, 0⟩) (hl : l.length ≤ 100) (hj : (Lib.join l [47]).length ≤ 100000) (hpa : pa = bs (Lib.join l [47])) (w : World) (hL : Laid w) :
    Calls Tryd.prog 31 #[.string k, .int .u8 c, .string pa, .int .i64 i] w fun e w' => e = .returned (.bool true) ∧ Below w.heap.size w w' := by
  have K := Lib.hid (take_any k hk w hL)
  rw [hT] at K
  unfold GivesTake at K
  have J := Lib.hid (fun A c' wx (h : Own wx w.heap.size A l.length c' l) => join_any A l c' 47 (by omega) h.2.1 (by omega) wx h.rs)
  rw [hpa]
  generalize bs (Lib.join l [47]) = P at *
  clear hT hpa hL hj
  simp only at K
  generalize l.length = n at *
  go_enter Tryd.func31, Tryd.ntmps31
  go_wp2_with fail
  refine K.out.mono ?_; rintro e w1 ⟨A, c', rfl, o1, b1⟩
  have O1 := Lib.hid o1; have B1 := Lib.hid b1; clear o1 b1
  go_wp2_with fail
  refine (J.out A c' _ O1.out).mono ?_; rintro e w2 ⟨rfl, b2⟩
  have B2 := Lib.hid (B1.out.trans (b2.mono B1.out.size)); clear b2
  go_wp2
  go_ret
  exact ⟨rfl, B2.out⟩
theorem none_true (k : ByteArray) (hk : k.size ≤ 1000) (hT : takeP k.data.toList = noT) (w : World) (hL : Laid w) :
    Calls Tryd.prog 35 #[.string k] w fun e w' => e = .returned (.bool true) ∧ Below w.heap.size w w' := by
  have K := Lib.hid (take_any k hk w hL)
  rw [hT] at K
  unfold GivesTake noT at K
  clear hT hL
  simp only [List.length_nil] at K
  go_enter Tryd.func35, Tryd.ntmps35
  go_wp2_with fail
  refine K.out.mono ?_; rintro e w1 ⟨A, c', rfl, o1, b1⟩
  have B1 := Lib.hid b1; clear o1 b1
  go_wp2
  go_ret
  exact ⟨rfl, B1.out⟩
theorem is_true (F T : ByteArray) (w : World) : Calls Tryd.prog 21 #[.agg #[.string F, .string T], .string F, .string T] w fun e w' => e = .returned (.bool true) ∧ Below w.heap.size w w' := by
  go_enter Tryd.func21, Tryd.ntmps21
  go_wp2
  go_ret
  exact ⟨rfl, (Below.refl _ _).alloc (Nat.le_refl _) _⟩
theorem in_any (k F T : ByteArray) (b : Bool) (hb : inR k.data.toList F.data.toList T.data.toList = b) (w : World) : Calls Tryd.prog 30 #[.string k, .agg #[.string F, .string T]] w fun e w' => e = .returned (.bool b) ∧ Below w.heap.size w w' := by
  unfold inR lt at hb
  rw [← text_list, ← text_list, ← text_list] at hb
  have HB0 := Lib.hid ((Below.refl w.heap.size w).alloc (Nat.le_refl _) (.cells #[.string F, .string T] 26))
  cases h1 : Op.bytesLess k.toList F.toList
  · rw [h1] at hb
    have HB := Lib.hid hb; clear hb
    go_enter Tryd.func30, Tryd.ntmps30
    go_wp2
    go_ret
    refine ⟨?_, HB0.out⟩
    rw [← HB.out]; rfl
  · rw [h1] at hb
    have HB := Lib.hid hb; clear hb
    go_enter Tryd.func30, Tryd.ntmps30
    go_wp2
    go_ret
    refine ⟨?_, HB0.out⟩
    rw [← HB.out]; rfl
theorem works_any (w : World) (hL : Laid w) : Calls Tryd.prog 10 #[] w fun e w' => e = .returned (.bool true) ∧ Below w.heap.size w w' := by
  have HL := Lib.hid (fun w' (hb : Below w.heap.size w w') => hL.later hb)
  have M0 := Lib.hid (meta_any none [] 0 w (In.lit _ _ _) hL)
  have N1 := Lib.hid names_ab; have N2 := Lib.hid names_a
  have M1 := Lib.hid (fun A c wx h hl => meta_any A [[97], [98]] c wx h hl)
  have B1 := Lib.hid (fun A c wx h hl => block_any A [[97]] c 1 (by decide) wx h hl)
  have T1 := Lib.hid (fun wx hl => takes_true ⟨#[109, 97, 0, 98]⟩ ⟨#[97, 47, 98]⟩ (by decide) 109 0 [[97], [98]] (by rfl) (by decide) (by decide) (by rfl) wx hl)
  have T2 := Lib.hid (fun wx hl => none_true ⟨#[120]⟩ (by decide) (by rfl) wx hl)
  rw [show bs (metaK []) = ⟨#[109]⟩ from rfl] at M0
  rw [show bs (metaK [[97], [98]]) = ⟨#[109, 97, 0, 98]⟩ from rfl] at M1
  rw [show bs (blockK [[97]] 1) = ⟨#[100, 97, 0, 0, 0, 1]⟩ from rfl] at B1
  unfold GivesIn at N1 N2
  clear hL
  go_enter Tryd.func10, Tryd.ntmps10
  go_wp2_with fail
  refine M0.out.mono ?_; rintro e w1 ⟨rfl, b1⟩
  have W1 := Lib.hid b1; clear b1
  go_wp2_with fail
  refine (N1.out _).mono ?_; rintro e w2 ⟨A, c, rfl, i2, b2⟩
  have W2 := Lib.hid (W1.out.trans (b2.mono W1.out.size)); have I2 := Lib.hid i2; clear b2 i2
  go_wp2_with fail
  refine (M1.out A c _ I2.out (HL.out _ W2.out)).mono ?_; rintro e w3 ⟨rfl, b3⟩
  have W3 := Lib.hid (W2.out.trans (b3.mono W2.out.size)); clear b3
  go_wp2_with fail
  refine (N2.out _).mono ?_; rintro e w4 ⟨A2, c2, rfl, i4, b4⟩
  have W4 := Lib.hid (W3.out.trans (b4.mono W3.out.size)); have I4 := Lib.hid i4; clear b4 i4
  go_wp2_with fail
  refine (B1.out A2 c2 _ I4.out (HL.out _ W4.out)).mono ?_; rintro e w5 ⟨rfl, b5⟩
  have W5 := Lib.hid (W4.out.trans (b5.mono W4.out.size)); clear b5
  go_wp2_with fail
  refine (T1.out _ (HL.out _ W5.out)).mono ?_; rintro e w6 ⟨rfl, b6⟩
  have W6 := Lib.hid (W5.out.trans (b6.mono W5.out.size)); clear b6
  go_wp2_with fail
  refine (T2.out _ (HL.out _ W6.out)).mono ?_; rintro e w7 ⟨rfl, b7⟩
  have W7 := Lib.hid (W6.out.trans (b7.mono W6.out.size)); clear b7
  go_wp2
  go_ret
  exact ⟨rfl, W7.out⟩
theorem works_later {w w' : World} (hL : Laid w) (hb : Below w.heap.size w w') : Calls Tryd.prog 10 #[] w' fun e w'' => e = .returned (.bool true) ∧ Below w.heap.size w w'' :=
  (works_any w' (hL.later hb)).mono fun e w'' h => ⟨h.1, hb.trans (h.2.mono hb.size)⟩
end Go.Proofs.YtnpgoahdemfkpaaDoor
