/- The document's joints, keys and ranges. Conditions: a hundred names at most of a thousand bytes each, where they are joined. -/
import Derived.Test.YtnpgoahdemfkpaaDoorWalksI
namespace Go.Proofs.YtnpgoahdemfkpaaDoor
open Go.ChangeShapes Go.WideShapes Go.RowKit Go.Path
set_option maxRecDepth 100000
set_option linter.unusedVariables false
set_option linter.unusedSimpArgs false
theorem joint_take_succ {xs : List B} {k : Nat} {x : B} (h : xs[k]? = some x) : joint (xs.take (k + 1)) = (if 0 < k then joint (xs.take k) ++ [0] else []) ++ x := by
  obtain ⟨hk, he⟩ := List.getElem?_eq_some_iff.1 h
  rw [List.take_add_one, h]
  by_cases h0 : 0 < k
  · rw [if_pos h0, joint_app _ _ (by intro e; have := congrArg List.length e; rw [List.length_take, List.length_nil] at this; omega) (by simp)]
    simp [joint_one]
  · obtain rfl : k = 0 := by omega
    rw [if_neg h0]
    simp [joint_one]
set_option maxHeartbeats 1000000 in
theorem rjoint_any (A : Option Addr) (xs : List B) (c : Nat) (hl : xs.length ≤ 100) (hx : ∀ x ∈ xs, x.length ≤ 1000) (w : World) (h : Rs w A xs) :
    Calls Tryd.prog 39 #[.slice A xs.length c] w fun e w' => e = .returned (.string (bs (joint xs))) ∧ w = w' := by
  obtain ⟨n, hn⟩ : ∃ n, n = xs.length := ⟨_, rfl⟩
  rw [← hn] at hl ⊢
  have HN := Lib.hid hn; have HX := Lib.hid hx; have HI := Lib.hid h
  have HF := Lib.hid (show bs (joint (xs.take n)) = bs (joint xs) by rw [hn, List.take_length])
  clear hn hx h
  have HS := Lib.hid (show ∀ k, k ≤ n → (bs (joint (xs.take k))).size ≤ 1001 * k from fun k hk => by
    rw [bs_size]
    have := joint_len (xs.take k) 1000 (fun x hx => HX.out x (List.mem_of_mem_take hx))
    rw [List.length_take, Nat.min_eq_left (by have := HN.out; omega)] at this
    omega)
  generalize bs (joint xs) = J at *
  go_enter Tryd.func39, Tryd.ntmps39
  go_wp2
  go_loop [3, 4] (fun s i => ∃ k : Nat, k ≤ n ∧ s = .string (bs (joint (xs.take k))) ∧ i = .int .i64 k) (fun _ i => n - (intOf i).toNat)
  case atStart => exact ⟨0, by omega, rfl, rfl⟩
  case round =>
    obtain ⟨k, hk, rfl, rfl⟩ := hrel
    by_cases hlt : k < n
    · obtain ⟨x, hx⟩ : ∃ x, xs[k]? = some x := ⟨_, List.getElem?_eq_getElem (by rw [← HN.out]; exact hlt)⟩
      obtain ⟨b, o, rfl, hB, hc⟩ := HI.out.at_ hx
      have hz := HX.out x (List.mem_of_getElem? hx)
      have hs := HS.out k hk
      have hxs : (bs x).size ≤ 1000 := by rw [bs_size]; exact hz
      by_cases h0 : 0 < k
      · have he := joint_take_succ hx
        rw [if_pos h0] at he
        have HE := Lib.hid (show bs (joint (xs.take k)) ++ ⟨#[0]⟩ ++ bs x = bs (joint (xs.take (k + 1))) by
          rw [he]
          have : bs (joint (xs.take k)) ++ bs [0] ++ bs x = bs (joint (xs.take k) ++ [0] ++ x) := by rw [bs_app, bs_app]
          exact this)
        generalize bs (joint (xs.take k)) = P at *
        generalize bs x = X at *
        have s1 : (⟨#[0]⟩ : ByteArray).size = 1 := rfl
        have o1 : ¬ 9223372036854775807 < P.size + (⟨#[0]⟩ : ByteArray).size := by omega
        have o2 : ¬ 9223372036854775807 < P.size + 1 := by omega
        have o3 : ¬ 9223372036854775807 < (P ++ (⟨#[0]⟩ : ByteArray)).size + X.size := by rw [ByteArray.size_append]; omega
        have o4 : ¬ 9223372036854775807 < P.size + 1 + X.size := by omega
        clear he hx hz s1
        go_wp2
        exact ⟨⟨k + 1, by omega, by rw [HE.out], by go_num⟩, by simp [intOf]; omega⟩
      · obtain rfl : k = 0 := by omega
        rw [Nat.add_zero] at hc
        have he := joint_take_succ hx
        rw [if_neg h0, List.nil_append] at he
        have HE := Lib.hid (show (⟨#[]⟩ : ByteArray) ++ bs x = bs (joint (xs.take (0 + 1))) by
          rw [he]; exact bs_app [] x)
        have hP : bs (joint (xs.take 0)) = ⟨#[]⟩ := rfl
        rw [hP]
        generalize bs x = X at *
        clear he hx hz hs hP
        have o3 : ¬ 9223372036854775807 < (⟨#[]⟩ : ByteArray).size + X.size := by
          have : (⟨#[]⟩ : ByteArray).size = 0 := rfl
          omega
        have o4 : ¬ 9223372036854775807 < 0 + X.size := by omega
        have o5 : ¬ 9223372036854775807 < X.size := by omega
        go_wp2
        refine ⟨⟨0 + 1, by omega, ?_, by go_num⟩, by simp [intOf]; omega⟩
        rw [← HE.out]
    · obtain rfl : k = n := by omega
      have HF2 := HF
      generalize bs (joint (xs.take k)) = P at *
      go_wp2
      go_ret
      rw [HF2.out]; exact ⟨rfl, rfl⟩
theorem In.rjoint {w : World} {A : Option Addr} {xs : List B} {c : Nat} (h : In w A xs c) (hr : Path.right xs = true) : Calls Tryd.prog 39 #[.slice A xs.length c] w fun e w' => e = .returned (.string (bs (joint xs))) ∧ w = w' :=
  rjoint_any A xs c (by have := (right_of hr).1; omega) (fun x hx => by have := (name_no ((right_of hr).2 x hx)).2.2; omega) w h.rs
theorem rmeta_any (A : Option Addr) (xs : List B) (c : Nat) (w : World) (h : In w A xs c) :
    Calls Tryd.prog 16 #[.slice A xs.length c] w fun e w' => e = .returned (.string (bs (metaK xs))) ∧ w = w' := by
  have R := Lib.hid h.rright
  cases hr : right xs
  · rw [hr] at R
    rw [show metaK xs = [] from if_neg (by rw [hr]; decide)]
    clear h hr
    generalize xs.length = n at *
    go_enter Tryd.func16, Tryd.ntmps16
    go_wp2_with fail
    refine R.out.mono ?_; rintro e w1 ⟨rfl, rfl⟩
    go_wp2
    go_ret
    exact ⟨rfl, rfl⟩
  · rw [hr] at R
    have K := Lib.hid (h.rjoint hr)
    rw [meta_is hr, ← bs_cons]
    have hs : (bs (joint xs)).size ≤ 102 := by rw [bs_size]; exact right_len hr
    clear h hr
    generalize bs (joint xs) = J at *
    have o1 : ¬ 9223372036854775807 < (⟨#[109]⟩ : ByteArray).size + J.size := by
      have : (⟨#[109]⟩ : ByteArray).size = 1 := rfl
      omega
    have o2 : ¬ 9223372036854775807 < 1 + J.size := by omega
    generalize xs.length = n at *
    go_enter Tryd.func16, Tryd.ntmps16
    go_wp2_with fail
    refine R.out.mono ?_; rintro e w1 ⟨rfl, rfl⟩
    go_wp2_with fail
    refine K.out.mono ?_; rintro e w1 ⟨rfl, rfl⟩
    go_wp2
    go_ret
    exact ⟨rfl, rfl⟩
theorem rpast_any (A : Option Addr) (xs : List B) (c : Nat) (w : World) (h : In w A xs c) :
    Calls Tryd.prog 20 #[.slice A xs.length c] w fun e w' => e = .returned (.string (bs (pastK xs))) ∧ w = w' := by
  have R := Lib.hid h.rright
  cases hr : right xs
  · rw [hr] at R
    rw [show pastK xs = [] from if_neg (by rw [hr]; decide)]
    clear h hr
    generalize xs.length = n at *
    go_enter Tryd.func20, Tryd.ntmps20
    go_wp2_with fail
    refine R.out.mono ?_; rintro e w1 ⟨rfl, rfl⟩
    go_wp2
    go_ret
    exact ⟨rfl, rfl⟩
  · rw [hr] at R
    by_cases hx : xs = []
    · subst hx
      clear h hr
      go_enter Tryd.func20, Tryd.ntmps20
      go_wp2_with fail
      refine R.out.mono ?_; rintro e w1 ⟨rfl, rfl⟩
      go_wp2
      go_ret
      exact ⟨rfl, rfl⟩
    · have K := Lib.hid (h.rjoint hr)
      have e1 : bs (pastK xs) = ⟨#[109]⟩ ++ bs (joint xs) ++ ⟨#[1]⟩ := by
        rw [bs_cons]
        rw [show pastK xs = 109 :: (joint xs ++ [1]) from subT_is hr hx 109]
        exact (bs_app (109 :: joint xs) [1]).symm
      rw [e1]
      have hs : (bs (joint xs)).size ≤ 102 := by rw [bs_size]; exact right_len hr
      have hn : ¬ (xs.length : Int) = 0 := by have := List.length_pos_iff.2 hx; omega
      have hn' : ((xs.length : Int) == 0) = false := by simpa using hn
      clear h hr hx e1
      generalize bs (joint xs) = J at *
      have s1 : (⟨#[109]⟩ : ByteArray).size = 1 := rfl
      have s2 : (⟨#[1]⟩ : ByteArray).size = 1 := rfl
      have o1 : ¬ 9223372036854775807 < (⟨#[109]⟩ : ByteArray).size + J.size := by omega
      have o2 : ¬ 9223372036854775807 < 1 + J.size := by omega
      have o3 : ¬ 9223372036854775807 < ((⟨#[109]⟩ : ByteArray) ++ J).size + (⟨#[1]⟩ : ByteArray).size := by rw [ByteArray.size_append]; omega
      have o4 : ¬ 9223372036854775807 < 1 + J.size + 1 := by omega
      generalize xs.length = n at *
      clear s1 s2
      go_enter Tryd.func20, Tryd.ntmps20
      go_wp2_with fail
      refine R.out.mono ?_; rintro e w1 ⟨rfl, rfl⟩
      go_wp2_with fail
      refine K.out.mono ?_; rintro e w1 ⟨rfl, rfl⟩
      go_wp2
      go_ret
      exact ⟨rfl, rfl⟩
theorem rbelow_any (A : Option Addr) (xs : List B) (c : Nat) (w : World) (h : In w A xs c) :
    Calls Tryd.prog 13 #[.slice A xs.length c] w fun e w' => e = .returned (.tuple #[.string (bs (belowF xs)), .string (bs (belowT xs))]) ∧ w = w' := by
  have R := Lib.hid h.rright
  cases hr : right xs
  · rw [hr] at R
    rw [show belowF xs = [] from if_neg (by rw [hr]; decide), show belowT xs = [] from if_neg (by rw [hr]; decide)]
    clear h hr
    generalize xs.length = n at *
    go_enter Tryd.func13, Tryd.ntmps13
    go_wp2_with fail
    refine R.out.mono ?_; rintro e w1 ⟨rfl, rfl⟩
    go_wp2
    go_ret2
    exact ⟨rfl, rfl⟩
  · rw [hr] at R
    have K1 := Lib.hid (rmeta_any A xs c w h)
    have K2 := Lib.hid (rpast_any A xs c w h)
    have e1 : bs (belowF xs) = bs (metaK xs) ++ ⟨#[0]⟩ := by
      rw [show belowF xs = metaK xs ++ [0] from if_pos hr]; exact (bs_app _ [0]).symm
    rw [e1, show belowT xs = pastK xs from if_pos hr]
    have hs : (bs (metaK xs)).size ≤ 103 := by rw [bs_size, meta_is hr]; have := right_len hr; simp; omega
    clear h hr e1
    generalize bs (metaK xs) = M at *
    generalize bs (pastK xs) = P at *
    have o1 : ¬ 9223372036854775807 < M.size + (⟨#[0]⟩ : ByteArray).size := by
      have : (⟨#[0]⟩ : ByteArray).size = 1 := rfl
      omega
    have o2 : ¬ 9223372036854775807 < M.size + 1 := by omega
    generalize xs.length = n at *
    go_enter Tryd.func13, Tryd.ntmps13
    go_wp2_with fail
    refine R.out.mono ?_; rintro e w1 ⟨rfl, rfl⟩
    go_wp2_with fail
    refine K1.out.mono ?_; rintro e w1 ⟨rfl, rfl⟩
    go_wp2_with fail
    refine K2.out.mono ?_; rintro e w1 ⟨rfl, rfl⟩
    go_wp2
    go_ret2
    exact ⟨rfl, rfl⟩
theorem rblocks_any (A : Option Addr) (xs : List B) (c : Nat) (w : World) (h : In w A xs c) :
    Calls Tryd.prog 14 #[.slice A xs.length c] w fun e w' => e = .returned (.tuple #[.string (bs (blocksF xs)), .string (bs (blocksT xs))]) ∧ w = w' := by
  have R := Lib.hid h.rright
  cases hr : right xs
  · rw [hr] at R
    rw [show blocksF xs = [] from if_neg (by rw [hr]; decide), show blocksT xs = [] from if_neg (by rw [hr]; decide)]
    clear h hr
    generalize xs.length = n at *
    go_enter Tryd.func14, Tryd.ntmps14
    go_wp2_with fail
    refine R.out.mono ?_; rintro e w1 ⟨rfl, rfl⟩
    go_wp2
    go_ret2
    exact ⟨rfl, rfl⟩
  · rw [hr] at R
    have K := Lib.hid (h.rjoint hr)
    have e1 : bs (blocksF xs) = ⟨#[100]⟩ ++ bs (joint xs) ++ ⟨#[0, 0]⟩ := by
      rw [bs_cons, show blocksF xs = _ from if_pos hr]; exact (bs_app (100 :: joint xs) [0, 0]).symm
    have e2 : bs (blocksT xs) = ⟨#[100]⟩ ++ bs (joint xs) ++ ⟨#[0, 1]⟩ := by
      rw [bs_cons, show blocksT xs = _ from if_pos hr]; exact (bs_app (100 :: joint xs) [0, 1]).symm
    rw [e1, e2]
    have hs : (bs (joint xs)).size ≤ 102 := by rw [bs_size]; exact right_len hr
    clear h hr e1 e2
    generalize bs (joint xs) = J at *
    have s1 : (⟨#[100]⟩ : ByteArray).size = 1 := rfl
    have s2 : (⟨#[0, 0]⟩ : ByteArray).size = 2 := rfl
    have s3 : (⟨#[0, 1]⟩ : ByteArray).size = 2 := rfl
    have o1 : ¬ 9223372036854775807 < (⟨#[100]⟩ : ByteArray).size + J.size := by omega
    have o2 : ¬ 9223372036854775807 < 1 + J.size := by omega
    have o3 : ¬ 9223372036854775807 < ((⟨#[100]⟩ : ByteArray) ++ J).size + (⟨#[0, 0]⟩ : ByteArray).size := by rw [ByteArray.size_append]; omega
    have o4 : ¬ 9223372036854775807 < ((⟨#[100]⟩ : ByteArray) ++ J).size + (⟨#[0, 1]⟩ : ByteArray).size := by rw [ByteArray.size_append]; omega
    have o5 : ¬ 9223372036854775807 < 1 + J.size + 2 := by omega
    clear s1 s2 s3
    generalize xs.length = n at *
    go_enter Tryd.func14, Tryd.ntmps14
    go_wp2_with fail
    refine R.out.mono ?_; rintro e w1 ⟨rfl, rfl⟩
    go_wp2_with fail
    refine K.out.mono ?_; rintro e w1 ⟨rfl, rfl⟩
    go_wp2_with fail
    refine K.out.mono ?_; rintro e w1 ⟨rfl, rfl⟩
    go_wp2
    go_ret2
    exact ⟨rfl, rfl⟩
theorem rsubtree_any (A : Option Addr) (xs : List B) (c : Nat) (w : World) (h : In w A xs c) :
    Calls Tryd.prog 12 #[.slice A xs.length c] w fun e w' => e = .returned (.tuple #[.string (bs (subF 109 xs)), .string (bs (subT 109 xs)), .string (bs (subF 100 xs)), .string (bs (subT 100 xs))]) ∧ w = w' := by
  have R := Lib.hid h.rright
  cases hr : right xs
  · have e1 : ∀ p, subF p xs = [] := fun p => if_neg (by rw [hr]; decide)
    have e2 : ∀ p, subT p xs = [] := fun p => if_neg (by rw [hr]; decide)
    rw [e1, e2, e1, e2]
    rw [hr] at R
    clear h hr e1 e2
    generalize xs.length = n at *
    go_enter Tryd.func12, Tryd.ntmps12
    go_wp2_with fail
    refine R.out.mono ?_; rintro e w1 ⟨rfl, rfl⟩
    go_wp2
    exact bodyPost_ret (v := .tuple #[.string ⟨#[]⟩, .string ⟨#[]⟩, .string ⟨#[]⟩, .string ⟨#[]⟩]) (by simp [results, Tryd.results12, go_sem]) rfl ⟨rfl, rfl⟩
  · rw [hr] at R
    by_cases hx : xs = []
    · subst hx
      clear h hr
      go_enter Tryd.func12, Tryd.ntmps12
      go_wp2_with fail
      refine R.out.mono ?_; rintro e w1 ⟨rfl, rfl⟩
      go_wp2
      exact bodyPost_ret (v := .tuple #[.string ⟨#[109]⟩, .string ⟨#[110]⟩, .string ⟨#[100]⟩, .string ⟨#[101]⟩]) (by simp [results, Tryd.results12, go_sem]) rfl ⟨rfl, rfl⟩
    · have K := Lib.hid (h.rjoint hr)
      have e1 : ∀ p, bs (subF p xs) = ⟨#[p]⟩ ++ bs (joint xs) := fun p => by rw [bs_cons, subF_is hr]
      have e2 : ∀ p, bs (subT p xs) = ⟨#[p]⟩ ++ bs (joint xs) ++ ⟨#[1]⟩ := fun p => by
        rw [bs_cons, subT_is hr hx]; exact (bs_app (p :: joint xs) [1]).symm
      rw [e1, e2, e1, e2]
      have hs : (bs (joint xs)).size ≤ 102 := by rw [bs_size]; exact right_len hr
      have hn : ¬ (xs.length : Int) = 0 := by have := List.length_pos_iff.2 hx; omega
      have hn' : ((xs.length : Int) == 0) = false := by simpa using hn
      clear h hr hx e1 e2
      generalize bs (joint xs) = J at *
      have s1 : (⟨#[109]⟩ : ByteArray).size = 1 := rfl
      have s2 : (⟨#[1]⟩ : ByteArray).size = 1 := rfl
      have s3 : (⟨#[100]⟩ : ByteArray).size = 1 := rfl
      have o1 : ¬ 9223372036854775807 < (⟨#[109]⟩ : ByteArray).size + J.size := by omega
      have o2 : ¬ 9223372036854775807 < 1 + J.size := by omega
      have o3 : ¬ 9223372036854775807 < ((⟨#[109]⟩ : ByteArray) ++ J).size + (⟨#[1]⟩ : ByteArray).size := by rw [ByteArray.size_append]; omega
      have o4 : ¬ 9223372036854775807 < 1 + J.size + 1 := by omega
      have o5 : ¬ 9223372036854775807 < (⟨#[100]⟩ : ByteArray).size + J.size := by omega
      have o6 : ¬ 9223372036854775807 < ((⟨#[100]⟩ : ByteArray) ++ J).size + (⟨#[1]⟩ : ByteArray).size := by rw [ByteArray.size_append]; omega
      generalize xs.length = n at *
      clear s1 s2 s3
      go_enter Tryd.func12, Tryd.ntmps12
      go_wp2_with fail
      refine R.out.mono ?_; rintro e w1 ⟨rfl, rfl⟩
      go_wp2_with fail
      refine K.out.mono ?_; rintro e w1 ⟨rfl, rfl⟩
      go_wp2
      exact bodyPost_ret (v := .tuple #[.string (⟨#[109]⟩ ++ J), .string (⟨#[109]⟩ ++ J ++ ⟨#[1]⟩), .string (⟨#[100]⟩ ++ J), .string (⟨#[100]⟩ ++ J ++ ⟨#[1]⟩)]) (by simp [results, Tryd.results12, go_sem]) rfl ⟨rfl, rfl⟩
end Go.Proofs.YtnpgoahdemfkpaaDoor
