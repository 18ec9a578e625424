/- Ranges, in the program. Conditions: the listed families as the program's text lays them; a hundred thousand names at most. -/
import Derived.Test.YtnpgoahdemfkpaaDoorWalksG
namespace Go.Proofs.YtnpgoahdemfkpaaDoor
open Go.ChangeShapes Go.WideShapes Go.RowKit Go.Path
set_option maxRecDepth 100000
set_option linter.unusedVariables false
set_option linter.unusedSimpArgs false
theorem subtrees_any (A : Option Addr) (xs : List B) (c : Nat) (w : World) (h : In w A xs c) (hL : Laid w) :
    Calls Tryd.prog 11 #[.slice A xs.length c] w fun e w' => e = .returned (.tuple #[.agg #[.string (bs (subF 109 xs)), .string (bs (subT 109 xs))], .agg #[.string (bs (subF 100 xs)), .string (bs (subT 100 xs))]]) ∧ Below w.heap.size w w' := by
  cases hr : right xs
  · have e1 : ∀ p, subF p xs = [] := fun p => if_neg (by rw [hr]; decide)
    have e2 : ∀ p, subT p xs = [] := fun p => if_neg (by rw [hr]; decide)
    rw [e1, e2, e1, e2]
    exact subtrees_no A xs.length c w (Lib.hid fun wx hb => by have := (h.kept hb).right; rw [hr] at this; exact this)
  · exact subtrees_core A xs.length c _ _ _ _ w hL (Lib.hid fun wx hb => by have := (h.kept hb).right; rw [hr] at this; exact this)
      (Lib.hid fun wx hb => subtree_any 109 110 rfl A xs c wx (h.kept hb) hr) (Lib.hid fun wx hb => subtree_any 100 101 rfl A xs c wx (h.kept hb) hr)
theorem past_any (A : Option Addr) (xs : List B) (c : Nat) (w : World) (h : In w A xs c) (hL : Laid w) :
    Calls Tryd.prog 19 #[.slice A xs.length c] w fun e w' => e = .returned (.string (bs (pastK xs))) ∧ Below w.heap.size w w' := by
  have S := Lib.hid (subtrees_any A xs c w h hL)
  unfold pastK
  generalize bs (subF 109 xs) = F1 at *
  generalize bs (subT 109 xs) = T1 at *
  generalize bs (subF 100 xs) = F2 at *
  generalize bs (subT 100 xs) = T2 at *
  clear h hL
  generalize xs.length = n at *
  go_enter Tryd.func19, Tryd.ntmps19
  go_wp2_with fail
  refine S.out.mono ?_; rintro e w1 ⟨rfl, b1⟩
  have B1 := Lib.hid b1; clear b1
  go_wp2
  go_ret
  exact ⟨rfl, (B1.out.alloc B1.out.size _).alloc (by have := B1.out.size; simp; omega) _⟩
theorem below_any (A : Option Addr) (xs : List B) (c : Nat) (w : World) (h : In w A xs c) (hL : Laid w) :
    Calls Tryd.prog 22 #[.slice A xs.length c] w fun e w' => e = .returned (.agg #[.string (bs (belowF xs)), .string (bs (belowT xs))]) ∧ Below w.heap.size w w' := by
  have HI := Lib.hid (Is.new w 26 #[.string ⟨#[]⟩, .string ⟨#[]⟩])
  have HB := Lib.hid ((Below.refl w.heap.size w).alloc (Nat.le_refl _) (.cells #[.string ⟨#[]⟩, .string ⟨#[]⟩] 26))
  have S := Lib.hid (fun W (hb : Below w.heap.size w W) => subtrees_any A xs c W (h.kept hb) (hL.later hb))
  cases hr : right xs
  · have e1 : ∀ p, subF p xs = [] := fun p => if_neg (by rw [hr]; decide)
    have e2 : ∀ p, subT p xs = [] := fun p => if_neg (by rw [hr]; decide)
    have e3 : belowF xs = [] := if_neg (by rw [hr]; decide)
    have e4 : belowT xs = [] := if_neg (by rw [hr]; decide)
    rw [e3, e4]
    rw [e1, e2, e1, e2] at S
    rw [show bs [] = ⟨#[]⟩ from rfl] at S ⊢
    clear h hL e1 e2 e3 e4 hr
    generalize xs.length = n at *
    go_enter Tryd.func22, Tryd.ntmps22
    go_wp2_with fail
    refine (S.out _ HB.out).mono ?_; rintro e w1 ⟨rfl, b1⟩
    have B1 := Lib.hid (HB.out.trans (b1.mono HB.out.size))
    have I1 := HI.out.kept b1
    have c0 := I1.cell 0; have c1 := I1.cell 1; have f0 := I1.frozen 0; have f1 := I1.frozen 1; have hlt := I1.lt
    simp at c0 c1
    clear b1 I1
    go_wp2
    exact bodyPost_ret (v := .agg #[.string ⟨#[]⟩, .string ⟨#[]⟩]) (by simp [results, Tryd.results22, go_sem, c0, c1, hlt, Nat.ne_of_lt hlt, Nat.ne_of_lt (Nat.lt_succ_of_lt hlt)]) rfl ⟨rfl, (((B1.out.setCell (by simp) _).setCell (by simp) _).alloc (by have := B1.out.size; simp; omega) _).alloc (by have := B1.out.size; simp; omega) _⟩
  · have e3 : bs (belowF xs) = bs (subF 109 xs) ++ ⟨#[0]⟩ := by
      rw [show belowF xs = metaK xs ++ [0] from if_pos hr, meta_is hr, subF_is hr]; exact (bs_app _ [0]).symm
    have e4 : bs (belowT xs) = bs (subT 109 xs) := by rw [show belowT xs = pastK xs from if_pos hr]; rfl
    rw [e3, e4]
    have hF : ¬ (bs (subF 109 xs)).toList = [] := by rw [text_list, bs_data, subF_is hr]; simp
    have hF2 : ((bs (subF 109 xs)).toList == []) = false := by simpa using hF
    have hF3 : (bs (subF 109 xs)).toList.isEmpty = false := by rw [text_list, bs_data, subF_is hr]; rfl
    have hFs : (bs (subF 109 xs)).size ≤ 1000 := by rw [bs_size, subF_is hr]; have := right_len hr; simp; omega
    generalize bs (subF 109 xs) = F1 at *
    generalize bs (subT 109 xs) = T1 at *
    generalize bs (subF 100 xs) = F2 at *
    generalize bs (subT 100 xs) = T2 at *
    have hov : ¬ 9223372036854775807 < F1.size + (⟨#[0]⟩ : ByteArray).size := by
      have : (⟨#[0]⟩ : ByteArray).size = 1 := rfl
      omega
    have hov1 : ¬ 9223372036854775807 < F1.size + 1 := by omega
    clear h hL e3 e4 hr
    generalize xs.length = n at *
    go_enter Tryd.func22, Tryd.ntmps22
    go_wp2_with fail
    refine (S.out _ HB.out).mono ?_; rintro e w1 ⟨rfl, b1⟩
    have B1 := Lib.hid (HB.out.trans (b1.mono HB.out.size))
    have I1 := HI.out.kept b1
    have c0 := I1.cell 0; have c1 := I1.cell 1; have f0 := I1.frozen 0; have f1 := I1.frozen 1; have hlt := I1.lt
    simp at c0 c1
    clear b1 I1
    go_wp2
    exact bodyPost_ret (v := .agg #[.string (F1 ++ ⟨#[0]⟩), .string T1]) (by simp [results, Tryd.results22, go_sem, c0, c1, hlt, Nat.ne_of_lt hlt, Nat.ne_of_lt (Nat.lt_succ_of_lt hlt)]) rfl ⟨rfl, (((B1.out.setCell (by simp) _).setCell (by simp) _).alloc (by have := B1.out.size; simp; omega) _).alloc (by have := B1.out.size; simp; omega) _⟩
theorem blocks_any (A : Option Addr) (xs : List B) (c : Nat) (w : World) (h : In w A xs c) (hL : Laid w) :
    Calls Tryd.prog 23 #[.slice A xs.length c] w fun e w' => e = .returned (.agg #[.string (bs (blocksF xs)), .string (bs (blocksT xs))]) ∧ Below w.heap.size w w' := by
  have HI := Lib.hid (Is.new w 26 #[.string ⟨#[]⟩, .string ⟨#[]⟩])
  have HB := Lib.hid ((Below.refl w.heap.size w).alloc (Nat.le_refl _) (.cells #[.string ⟨#[]⟩, .string ⟨#[]⟩] 26))
  have R := Lib.hid (h.alloc (.cells #[.string ⟨#[]⟩, .string ⟨#[]⟩] 26)).right
  cases hr : right xs
  · have e3 : blocksF xs = [] := if_neg (by rw [hr]; decide)
    have e4 : blocksT xs = [] := if_neg (by rw [hr]; decide)
    rw [e3, e4]
    rw [show bs [] = ⟨#[]⟩ from rfl]
    rw [hr] at R
    clear h hL e3 e4 hr
    generalize xs.length = n at *
    go_enter Tryd.func23, Tryd.ntmps23
    go_wp2_with fail
    refine R.out.mono ?_; rintro e w1 ⟨rfl, rfl⟩
    go_wp2
    exact bodyPost_ret (v := .agg #[.string ⟨#[]⟩, .string ⟨#[]⟩]) (by simp [results, Tryd.results23, go_sem]) rfl ⟨rfl, HB.out⟩
  · rw [hr] at R
    have K := Lib.hid ((h.alloc (.cells #[.string ⟨#[]⟩, .string ⟨#[]⟩] 26)).head hr 100 101)
    obtain ⟨_, ⟨l1, l2⟩, hlt0⟩ := hL.alloc (.cells #[.string ⟨#[]⟩, .string ⟨#[]⟩] 26)
    have e3 : bs (blocksF xs) = bs (100 :: joint xs) ++ ⟨#[0, 0]⟩ := by
      rw [show blocksF xs = _ from if_pos hr]; exact (bs_app (100 :: joint xs) [0, 0]).symm
    have e4 : bs (blocksT xs) = bs (100 :: joint xs) ++ ⟨#[0]⟩ ++ ⟨#[1]⟩ := by
      rw [show blocksT xs = _ from if_pos hr]
      have : bs (100 :: joint xs) ++ bs [0] ++ bs [1] = bs (100 :: joint xs ++ [0] ++ [1]) := by rw [bs_app, bs_app]
      rw [show 100 :: joint xs ++ [0] ++ [1] = 100 :: (joint xs ++ [0, 1]) by simp] at this
      exact this.symm
    rw [e3, e4]
    have hFs : (bs (100 :: joint xs)).size ≤ 1000 := by rw [bs_size]; have := right_len hr; simp; omega
    generalize bs (100 :: joint xs) = F1 at *
    have s1 : (⟨#[0]⟩ : ByteArray).size = 1 := rfl
    have s2 : (⟨#[1]⟩ : ByteArray).size = 1 := rfl
    have s3 : (⟨#[0, 0]⟩ : ByteArray).size = 2 := rfl
    have hov : ¬ 9223372036854775807 < F1.size + (⟨#[0, 0]⟩ : ByteArray).size := by omega
    have hov1 : ¬ 9223372036854775807 < F1.size + (⟨#[0]⟩ : ByteArray).size := by omega
    have hov2 : ¬ 9223372036854775807 < (F1 ++ (⟨#[0]⟩ : ByteArray)).size + (⟨#[1]⟩ : ByteArray).size := by rw [ByteArray.size_append]; omega
    have hov3 : ¬ 9223372036854775807 < (F1 ++ (⟨#[0]⟩ : ByteArray)).size + 1 := by rw [ByteArray.size_append]; omega
    have hov4 : ¬ 9223372036854775807 < F1.size + 1 + 1 := by omega
    have hov5 : ¬ 9223372036854775807 < F1.size + 2 := by omega
    have hov6 : ¬ 9223372036854775807 < F1.size + 1 := by omega
    clear h hL e3 e4 hr s1 s2 s3 hFs
    generalize xs.length = n at *
    go_enter Tryd.func23, Tryd.ntmps23
    go_wp2_with fail
    refine R.out.mono ?_; rintro e w1 ⟨rfl, rfl⟩
    go_wp2_with fail
    refine K.out.mono ?_; rintro e w1 ⟨rfl, b1⟩
    have B1 := Lib.hid (HB.out.trans (b1.mono HB.out.size))
    have I1 := HI.out.kept b1
    have c0 := I1.cell 0; have c1 := I1.cell 1; have f0 := I1.frozen 0; have f1 := I1.frozen 1; have hlt := I1.lt
    simp at c0 c1
    clear b1 I1 l1 l2
    go_wp2
    exact bodyPost_ret (v := .agg #[.string (F1 ++ ⟨#[0, 0]⟩), .string (F1 ++ ⟨#[0]⟩ ++ ⟨#[1]⟩)]) (by simp [results, Tryd.results23, go_sem, c0, c1, hlt]) rfl ⟨rfl, (B1.out.setCell (by simp) _).setCell (by simp) _⟩
end Go.Proofs.YtnpgoahdemfkpaaDoor
