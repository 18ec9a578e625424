/- The law that what is written is read as it was, and a beginning of it is torn, walked. Conditions: none. -/
import Derived.Test.YthgpffmgbooncaaBack
namespace Go.Proofs.Ythgpffmgbooncaa
open Go.ChangeShapes Go.WideShapes Go.RowKit Go.Codec
theorem enc_len (y : It) (h : y.s.size ≤ 300) : (enc y).length ≤ 302 := by
  rw [Lib.size_eq] at h
  unfold enc
  repeat (first | (rw [be_length]; omega) | (rw [List.length_append, be_length]; omega) | omega | split)
theorem flat_len : ∀ (ys : List It), (∀ y ∈ ys, y.s.size ≤ 300) → (ys.flatMap enc).length ≤ 302 * ys.length
  | [], _ => by simp
  | y :: ys, h => by
    rw [List.flatMap_cons, List.length_append, List.length_cons]
    have h1 := enc_len y (h y (List.mem_cons_self ..))
    have h2 := flat_len ys fun z hz => h z (List.mem_cons_of_mem _ hz)
    omega
theorem flat_snoc (xs : List It) (k : Nat) (x : It) (hx : xs[k]? = some x) : (xs.take (k + 1)).flatMap enc = (xs.take k).flatMap enc ++ enc x := by
  rw [List.take_add_one, hx, List.flatMap_append]
  simp
theorem drop_at (xs : List It) (k : Nat) (x : It) (hx : xs[k]? = some x) : xs.drop k = x :: xs.drop (k + 1) := by
  obtain ⟨h, rfl⟩ := List.getElem?_eq_some_iff.1 hx
  exact List.drop_eq_getElem_cons h
theorem Torn.len {x : R} {ys : List It} (h : Torn x ys) (hs : ∀ y ∈ ys, y.s.size ≤ 300) : x.rest.length ≤ 302 * ys.length := by
  rcases h with rfl | ⟨_, t, _, hx⟩
  · simp
  · have h1 := flat_len ys hs
    rw [← hx, List.length_append] at h1
    omega
set_option maxHeartbeats 4000000 in
set_option maxRecDepth 100000 in
theorem back_big (A : Option Addr) (xs : List It) (cap : Nat) (hl : xs.length ≤ maxLen) (s : ByteArray) (hs : s.size ≤ maxLen) (cut : Nat) (hc : cut < 65536) (w : World) (h : Items w w.heap.size A xs) : Calls Try.prog 6 #[.slice A xs.length cap, .string s, .int .u16 cut] w fun e w' => e = .returned (.bool true) ∧ Below w.heap.size w w' := by
  have HF := Lib.hid (few_any A xs cap hl w _ h)
  have HI := Lib.hid h; clear h
  have HA := Lib.hid awake_any
  unfold maxLen at hl hs
  obtain ⟨n, hn⟩ : ∃ n, n = xs.length := ⟨_, rfl⟩
  rw [← hn] at hl HF
  rw [← hn]
  have HN := Lib.hid hn; clear hn
  have HW := Lib.hid (Wr.new w)
  go_enter Try.func6, Try.ntmps6
  go_wp2_with fail
  refine HF.out.mono ?_
  rintro e w' ⟨b, rfl, rfl, hf⟩
  cases b with
  | false =>
    clear hf
    go_wp2_with (go_at_call 9; refine (HA.out _).mono ?_; rintro e w' ⟨rfl, hb⟩)
    go_ret
    exact ⟨rfl, hb⟩
  | true =>
    obtain ⟨hf60, hok⟩ := hf rfl
    have hn60 : n ≤ 60 := by rw [HN.out]; exact hf60
    clear hf hf60 hok
    by_cases hs3 : 300 < s.size
    · go_wp2_with (go_at_call 9; refine (HA.out _).mono ?_; rintro e w' ⟨rfl, hb⟩)
      go_ret
      exact ⟨rfl, hb⟩
    · have HB0 := Lib.hid ((Below.refl _ w).alloc (Nat.le_refl _) (.cells #[.pointer none, .int .i64 0, .int .i64 0] 29))
      go_wp2_with fail
      go_loopw [8] (fun i W => ∃ k : Nat, k ≤ n ∧ i = .int .i64 k ∧ Wr W w.heap.size (some ((xs.take k).flatMap enc)) ∧ Below w.heap.size w W ∧ ∀ y ∈ xs.take k, y.s.size ≤ 300) (fun i _ => n - (intOf i).toNat)
      case atStart => exact ⟨0, by omega, rfl, HW.out, HB0.out, fun y hy => by simp at hy⟩
      case round =>
        obtain ⟨k, hk, rfl, hW, hB, hall⟩ := hrel
        have HW1 := Lib.hid hW; have HB1 := Lib.hid hB; have HL := Lib.hid hall
        clear hW hB hall HW HB0
        by_cases hlt : k < n
        · obtain ⟨x, hx⟩ : ∃ x, xs[k]? = some x := ⟨_, List.getElem?_eq_getElem (by rw [← HN.out]; exact hlt)⟩
          obtain ⟨h1, h2, h3, ad, rfl, -, c0, c1, c2⟩ := HI.out.kept HB1.out k x hx
          unfold maxLen at h3
          by_cases hxs : 300 < x.s.size
          · clear hx
            go_wp2_with (go_at_call 9; refine (HA.out _).mono ?_; rintro e w' ⟨rfl, hb⟩)
            go_ret
            exact ⟨rfl, HB1.out.trans (hb.mono HB1.out.size)⟩
          · have hx3 : x.s.size ≤ 300 := by omega
            have hfl := flat_len _ HL.out
            have htl : (xs.take k).length ≤ k := List.length_take_le _ _
            have HP := Lib.hid (write_any w.heap.size x h1 h2 (by omega) (some ((xs.take k).flatMap enc)) wr HW1.out (by simp only [wlen]; omega))
            have HE := Lib.hid (step_enc ((xs.take k).flatMap enc) x (by omega))
            have HS := Lib.hid (flat_snoc xs k x hx)
            have hall2 : ∀ y ∈ xs.take (k + 1), y.s.size ≤ 300 := fun y hy => by
              rw [List.take_add_one, hx] at hy
              rcases List.mem_append.1 hy with hy | hy
              · exact HL.out y hy
              · simp at hy; rw [hy]; exact hx3
            have HL2 := Lib.hid hall2
            clear hx hall2 hfl htl hxs
            go_wp2_with fail
            refine HP.out.mono ?_
            rintro e w2 ⟨rfl, g1, g2⟩
            rw [HE.out, ← HS.out] at g1
            have HW2 := Lib.hid g1; have HB2 := Lib.hid (HB1.out.trans (below_of_grow g2 HB1.out.size (Nat.le_refl _)))
            clear g1 g2
            go_wp2_with fail
            refine ⟨⟨k + 1, by omega, by go_num, HW2.out, HB2.out, HL2.out⟩, ?_⟩
            simp [intOf]; omega
        · obtain rfl : k = n := by omega
          have htk : xs.take k = xs := List.take_of_length_le (by rw [← HN.out]; omega)
          obtain ⟨L, hL⟩ : ∃ L, L = xs.flatMap enc := ⟨_, rfl⟩
          have hLl : L.length ≤ 18120 := by
            have h1 := flat_len xs (by have := HL.out; rw [htk] at this; exact this)
            rw [← hL, ← HN.out] at h1
            omega
          have hW2 := HW1.out
          rw [htk, ← hL] at hW2
          have HS3 := Lib.hid (show ∀ y ∈ xs, y.s.size ≤ 300 by have := HL.out; rw [htk] at this; exact this)
          have h4 := bytes_any w.heap.size (some L) wr hW2 (by simp only [wlen]; omega)
          have et : told (some L) = (L, 0) := rfl
          rw [et] at h4
          obtain ⟨S, hS⟩ : ∃ S, S = bs L := ⟨_, rfl⟩
          rw [← hS] at h4
          have hSl : S.size ≤ 18120 := by rw [hS, bs_size]; exact hLl
          have HSL := Lib.hid (show S.data.toList = xs.flatMap enc by rw [hS, bs_list, hL])
          have H4 := Lib.hid h4
          have H5 := Lib.hid (new_any (S ++ s) (by rw [ByteArray.size_append]; omega))
          clear hW2 htk HW1 HL hL hlt hk h4 et hS hLl
          go_wp2_with fail
          refine H4.out.mono ?_
          rintro e w3 ⟨rfl, g1⟩
          have HB3 := Lib.hid (HB1.out.trans (g1.mono HB1.out.size))
          clear g1 H4 HB1
          go_wp2_with fail
          refine (H5.out _).mono ?_
          rintro e w4 ⟨r, rfl, hr, h1, h2⟩
          have HB4 := Lib.hid (HB3.out.trans (h2.mono HB3.out.size))
          have hrw : w.heap.size ≤ r := Nat.le_trans HB3.out.size hr
          have e1 : (S ++ s).data.toList = xs.flatMap enc ++ s.data.toList := by
            rw [ByteArray.data_append, Array.toList_append, HSL.out]
          rw [e1] at h1
          have HR4 := Lib.hid h1
          clear h1 h2 e1 H5 HB3 hr
          go_wp2_with fail
          go_loopw [12] (fun i W => ∃ j : Nat, j ≤ k ∧ i = .int .i64 j ∧ Rd W r ⟨(xs.drop j).flatMap enc ++ s.data.toList, 0⟩ ∧ Below w.heap.size w W) (fun i _ => k - (intOf i).toNat)
          case atStart => exact ⟨0, by omega, rfl, HR4.out, HB4.out⟩
          case round =>
            obtain ⟨j, hj, rfl, hR, hB⟩ := hrel
            have HR5 := Lib.hid hR; have HB5 := Lib.hid hB
            clear hR hB HR4 HB4
            by_cases hlt : j < k
            · obtain ⟨x, hx⟩ : ∃ x, xs[j]? = some x := ⟨_, List.getElem?_eq_getElem (by rw [← HN.out]; exact hlt)⟩
              obtain ⟨h1, h2, h3, ad, rfl, -, c0, c1, c2⟩ := HI.out.kept HB5.out j x hx
              have hx3 := HS3.out x (List.mem_of_getElem? hx)
              have hd := drop_at xs j x hx
              have hfl := flat_len (xs.drop j) (fun y hy => HS3.out y (List.mem_of_mem_drop hy))
              have hdl : (xs.drop j).length ≤ k := by rw [List.length_drop, ← HN.out]; omega
              have hp := read_any r x h1 h2 (by omega) ⟨(xs.drop j).flatMap enc ++ s.data.toList, 0⟩ wr HR5.out (by simp only [List.length_append]; rw [← Lib.size_eq]; omega)
              rw [hd, List.flatMap_cons, List.append_assoc] at hp
              obtain ⟨q1, q2⟩ := good_enc x ((xs.drop (j + 1)).flatMap enc ++ s.data.toList) 0 h2 (by omega)
              unfold ReadPost at hp
              rw [q2] at hp
              have HP := Lib.hid hp; have HQ := Lib.hid q1
              clear hx hd hfl hdl hp q1 q2 h3
              go_wp2_with fail
              refine HP.out.mono ?_
              rintro e w5 ⟨b, rfl, gb, g1, g2⟩
              obtain rfl : b = true := gb HQ.out
              have HR6 := Lib.hid g1; have HB6 := Lib.hid (HB5.out.trans (below_of_grow g2 HB5.out.size hrw))
              clear g1 g2 gb HP HQ HR5 HB5
              go_wp2_with fail
              refine ⟨⟨j + 1, by omega, by go_num, HR6.out, HB6.out⟩, ?_⟩
              simp [intOf]; omega
            · have hdn : xs.drop j = [] := List.drop_of_length_le (by rw [← HN.out]; omega)
              have hr5 := HR5.out
              rw [hdn, List.flatMap_nil, List.nil_append] at hr5
              have H7 := Lib.hid (err_any r _ wr hr5)
              have h8 := rest_any r _ wr hr5
              simp only [list_bs] at h8
              have H8 := Lib.hid h8
              clear hdn hr5 h8 HR5
              go_wp2_with fail
              refine H7.out.mono ?_
              rintro e w5 ⟨rfl, rfl⟩
              go_wp2_with fail
              refine H8.out.mono ?_
              rintro e w5 ⟨rfl, rfl⟩
              clear H7 H8
              by_cases hS0 : S.size = 0
              · have e0 := empty_of_size hS0
                subst e0
                go_wp2_with (go_at_call 9; refine (HA.out _).mono ?_; rintro e w' ⟨rfl, hb⟩)
                go_ret
                exact ⟨rfl, HB5.out.trans (hb.mono HB5.out.size)⟩
              · obtain ⟨m, hm⟩ : ∃ m, m = cut % S.size := ⟨_, rfl⟩
                have hmS : m < S.size := by rw [hm]; exact Nat.mod_lt _ (by omega)
                have hmi : (cut : Int) % (S.size : Int) = (m : Int) := by rw [hm]; simp
                have hmt : Int.tmod (cut : Int) (S.size : Int) = (m : Int) := by rw [Int.tmod_eq_emod_of_nonneg (by omega)]; exact hmi
                have hne : S.toList.isEmpty = false := by
                  rw [Lib.toList_data]
                  rcases h : S.data.toList with _ | ⟨x, l⟩
                  · exact absurd (by rw [Lib.size_eq, h]; rfl) hS0
                  · rfl
                have e9 : (S.extract 0 m).data.toList = S.data.toList.take m := by rw [Lib.extract_data]; simp
                have h9 := new_any (S.extract 0 m) (by rw [Lib.size_eq, e9, List.length_take]; omega)
                rw [e9] at h9
                have H9 := Lib.hid h9
                have htorn : Torn ⟨S.data.toList.take m, 0⟩ (xs.drop 0) := .inr ⟨rfl, S.data.toList.drop m, by
                  intro e
                  have h := congrArg List.length e
                  rw [List.length_drop, ← Lib.size_eq] at h
                  simp at h; omega, by rw [List.drop_zero, ← HSL.out]; exact List.take_append_drop _ _⟩
                have HT := Lib.hid htorn
                clear hm e9 h9 htorn
                go_wp2_with fail
                refine (H9.out _).mono ?_
                rintro e w6 ⟨r2, rfl, hr2, h1, h2⟩
                have HB6 := Lib.hid (HB5.out.trans (h2.mono HB5.out.size))
                have hrw2 : w.heap.size ≤ r2 := Nat.le_trans HB5.out.size hr2
                have HR6 := Lib.hid h1
                clear h1 h2 hr2 H9 hmi hmt hne
                go_wp2_with fail
                go_loopw [14] (fun i W => ∃ (j : Nat) (x : R), j ≤ k ∧ i = .int .i64 j ∧ Rd W r2 x ∧ Torn x (xs.drop j) ∧ Below w.heap.size w W) (fun i _ => k - (intOf i).toNat)
                case atStart => exact ⟨0, _, by omega, rfl, HR6.out, HT.out, HB6.out⟩
                case round =>
                  obtain ⟨j', z, hj', rfl, hR, hT, hB⟩ := hrel
                  have HR7 := Lib.hid hR; have HB7 := Lib.hid hB; have HT7 := Lib.hid hT
                  clear hR hB hT HR6 HB6 HT HB5
                  by_cases hlt' : j' < k
                  · obtain ⟨x, hx⟩ : ∃ x, xs[j']? = some x := ⟨_, List.getElem?_eq_getElem (by rw [← HN.out]; exact hlt')⟩
                    obtain ⟨h1, h2, h3, ad, rfl, -, c0, c1, c2⟩ := HI.out.kept HB7.out j' x hx
                    have hx3 := HS3.out x (List.mem_of_getElem? hx)
                    have hd := drop_at xs j' x hx
                    have hzl := HT7.out.len (fun y hy => HS3.out y (List.mem_of_mem_drop hy))
                    have hdl : (xs.drop j').length ≤ k := by rw [List.length_drop, ← HN.out]; omega
                    have HP := Lib.hid (read_any r2 x h1 h2 (by omega) z wr HR7.out (by omega))
                    have ht := HT7.out
                    rw [hd] at ht
                    have HT8 := Lib.hid (ht.next h2 (by omega))
                    clear hx hd hzl hdl h3 ht
                    go_wp2_with fail
                    refine HP.out.mono ?_
                    rintro e w7 ⟨b, rfl, -, g1, g2⟩
                    have HR8 := Lib.hid g1; have HB8 := Lib.hid (HB7.out.trans (below_of_grow g2 HB7.out.size hrw2))
                    clear g1 g2 HP HR7 HB7 HT7
                    go_wp2_with fail
                    refine ⟨⟨j' + 1, _, by omega, by go_num, HR8.out, HT8.out, HB8.out⟩, ?_⟩
                    simp [intOf]; omega
                  · have hdn : xs.drop j' = [] := List.drop_of_length_le (by rw [← HN.out]; omega)
                    have ht := HT7.out
                    rw [hdn] at ht
                    obtain rfl := ht.done
                    have H7 := Lib.hid (err_any r2 _ wr HR7.out)
                    have h8 := rest_any r2 _ wr HR7.out
                    have e8 : bs (⟨[], 10⟩ : R).rest = ⟨#[]⟩ := rfl
                    rw [e8] at h8
                    have H8 := Lib.hid h8
                    clear hdn ht h8 e8 HT7
                    go_wp2_with fail
                    refine H7.out.mono ?_
                    rintro e w7 ⟨rfl, rfl⟩
                    go_wp2_with fail
                    refine H8.out.mono ?_
                    rintro e w7 ⟨rfl, rfl⟩
                    clear H7 H8
                    go_wp2_with (go_at_call 9; refine (HA.out _).mono ?_; rintro e w' ⟨rfl, hb⟩)
                    go_ret
                    exact ⟨rfl, HB7.out.trans (hb.mono HB7.out.size)⟩
theorem back (A : Option Addr) (xs : List It) (cap : Nat) (hl : xs.length ≤ maxLen) (s : ByteArray) (hs : s.size ≤ maxLen) (cut : Nat) (hc : cut < 65536) (w : World) (h : Items w w.heap.size A xs) : Calls Try.prog 6 #[.slice A xs.length cap, .string s, .int .u16 cut] w fun e w' => e = .returned (.bool true) ∧ Below w.heap.size w w' :=
  back_big A xs cap hl s hs cut hc w h
end Go.Proofs.Ythgpffmgbooncaa
