/- Take. Conditions: none. -/
import Derived.Test.YtnpjbddannkgfaaSpN
namespace Go.Proofs.Ytnpjbddannkgfaa
open Go.ChangeShapes Go.WideShapes Go.RowKit Go.Spans Go.Shelf
set_option maxRecDepth 100000
/-- What Take answers, hands out and leaves. -/
def takeE (xs : List Sp) (k : Int) : Int := if k < 1 then 2 else if (cnt xs : Int) < k then 7 else 0
def takeL (xs : List Sp) (k : Int) : List Nat := if k < 1 ∨ (cnt xs : Int) < k then [] else (elems xs).take k.toNat
def takeX (xs : List Sp) (k : Int) : List Sp := if k < 1 ∨ (cnt xs : Int) < k then xs else dropL ((elems xs).getD (k.toNat - 1) 0 + 1) xs
set_option maxHeartbeats 2000000 in
theorem take_c {w : World} {S n : Nat} {v : Value} {xs : List Sp} (h : St w S v n xs) (k : Int) :
    Calls Try.prog 51 #[.pointer (some ⟨S, 0, none⟩), .int .i64 k] w fun e w' => ∃ r v', e = .returned (.tuple #[r, .int .i64 (takeE xs k)]) ∧ To w w' S v v' n (takeX xs k) ∧ w'.ownsRow w.heap.size 3 1 r (takeL xs k).length (ints (takeL xs k)) := by
  have hM := isMade_st h
  have hC := count_c h
  by_cases h1 : k < 1
  · have e1 : takeE xs k = 2 := by simp [takeE, h1]
    have e2 : takeX xs k = xs := by simp [takeX, h1]
    have e3 : takeL xs k = [] := by simp [takeL, h1]
    rw [e1, e2, e3]
    have hst := To.stays h (Below.refl _ w)
    clear h e1 e2 e3 hC
    go_enter Try.func51, Try.ntmps51
    go_wp2_with (go_at_call 56; refine hM.mono ?_; clear hM; rintro e w' ⟨rfl, rfl⟩)
    go_ret2
    exact ⟨_, _, rfl, hst, rfl, .inl ⟨rfl, rfl⟩⟩
  · by_cases h2 : (cnt xs : Int) < k
    · have e1 : takeE xs k = 7 := by simp [takeE, h1, h2]
      have e2 : takeX xs k = xs := by simp [takeX, h2]
      have e3 : takeL xs k = [] := by simp [takeL, h2]
      rw [e1, e2, e3]
      have hst : ∀ W, Below w.heap.size w W → To w W S v v n xs := fun W hW => To.stays h hW
      clear h e1 e2 e3
      go_enter Try.func51, Try.ntmps51
      go_wp2_with (first
        | (go_at_call 56; refine hM.mono ?_; clear hM; rintro e w' ⟨rfl, rfl⟩)
        | (go_at_call 53; refine hC.mono ?_; clear hC; rintro e w1 ⟨rfl, hb1⟩))
      go_ret2
      exact ⟨_, _, rfl, hst _ hb1, rfl, .inl ⟨rfl, rfl⟩⟩
    · obtain ⟨q, rfl⟩ := Int.eq_ofNat_of_zero_le (a := k) (by omega)
      have hq1 : 1 ≤ q := by omega
      have hqc : q ≤ cnt xs := by omega
      have e1 : takeE xs (q : Int) = 0 := by simp only [takeE, if_neg h1, if_neg h2]
      have e2 : takeX xs (q : Int) = dropL ((elems xs).getD (q - 1) 0 + 1) xs := by simp only [takeX, h1, h2, or_self, if_false, Int.toNat_natCast]
      have e3 : takeL xs (q : Int) = (elems xs).take q := by simp only [takeL, h1, h2, or_self, if_false, Int.toNat_natCast]
      rw [e1, e2, e3]
      clear e1 e2 e3
      have hlen : ((elems xs).take q).length = q := by rw [List.length_take, elems_len]; omega
      have hne : xs ≠ [] := fun e => by subst e; simp [cnt] at hqc; omega
      have hgt : ((elems xs).take q)[q - 1]? = some ((elems xs).getD (q - 1) 0) := by
        rw [List.getElem?_take, if_pos (by omega), List.getD_eq_getElem?_getD, List.getElem?_eq_getElem (by rw [elems_len]; omega)]
        rfl
      have hlast : (elems xs).getD (q - 1) 0 < n := by
        have hm : (elems xs).getD (q - 1) 0 ∈ elems xs := by
          rw [List.getD_eq_getElem?_getD, List.getElem?_eq_getElem (by rw [elems_len]; omega)]
          exact List.getElem_mem _
        exact hasB_lt h.ok ((mem_elems h.ok).1 hm)
      have hhi := h.hi
      have hcn := cnt_le h.ok
      rw [hlen]
      have hF : ∀ W, Below w.heap.size w W → Calls Try.prog 65 #[.pointer (some ⟨S, 0, none⟩), .int .i64 q] W fun e w' => ∃ b cap, e = .returned (.slice (some ⟨b, 0, none⟩) q cap) ∧ w.heap.size ≤ b ∧ w'.ownsRow w.heap.size 3 1 (.slice (some ⟨b, 0, none⟩) q cap) q (ints ((elems xs).take q)) ∧ w'.cell? ⟨b, q - 1, none⟩ = some (.int .i64 ((elems xs).getD (q - 1) 0 : Nat)) ∧ Below w.heap.size w w' := fun W hW =>
        (first_c (h.below hW) q hq1 hqc).mono fun e w' ⟨r, he, hr, hb⟩ => by
          rcases hr.2 with ⟨_, h0⟩ | ⟨b, cap, cur, rfl, hbb, hbi, h4, h5, h6, h7⟩
          · omega
          · have hsz := hW.size
            refine ⟨b, cap, he, by omega, ⟨hr.1, .inr ⟨b, cap, cur, rfl, by omega, hbi, h4, h5, h6, h7⟩⟩, ?_, hW.trans (hb.mono hW.size)⟩
            rw [(show Is w' b 3 cur from hbi).cell]
            refine cur_get h7 ?_
            rw [ints, List.getElem?_map, hgt]
            rfl
      have hD : ∀ W, Below w.heap.size w W → Calls Try.prog 66 #[.pointer (some ⟨S, 0, none⟩), .int .i64 (((elems xs).getD (q - 1) 0 : Nat) + 1 : Int)] W fun e w' => (∃ r, e = .returned r) ∧ Kp W w' (S :: ob v) ∧ ∃ v', To w w' S v v' n (dropL ((elems xs).getD (q - 1) 0 + 1) xs) := fun W hW =>
        (drop_c (h.below hW) hne ((elems xs).getD (q - 1) 0 + 1) (by omega)).mono fun e w' ⟨he, v', ht⟩ => ⟨he, ht.kp, v', ht.st, (Kp.of_below hW _).trans ht.kp (fun y hy => .inl hy), fun g hg => by
          rcases ht.lies g hg with e | e
          · exact .inl e
          · exact .inr (Nat.le_trans hW.size e)⟩
      have hold : ∀ x ∈ S :: ob v, x < w.heap.size := fun x hx => by
        rcases List.mem_cons.1 hx with rfl | hx
        · exact h.one.lt
        · exact (h.row.lt x hx).2
      have hwr : IntKind.i64.wrap ((q : Int) - 1) = ((q - 1 : Nat) : Int) := by rw [wrap_small (by omega) (by omega)]; omega
      generalize hz : (elems xs).getD (q - 1) 0 = z at *
      have hwz : IntKind.i64.wrap ((z : Int) + 1) = (z : Int) + 1 := wrap_small (by omega) (by omega)
      have hc1 : ¬ ((q : Int) < 1) := by omega
      have hc2 : ¬ ((cnt xs : Int) < (q : Int)) := by omega
      have hq0 : ((q - 1 : Nat) : Int) < (q : Int) := by omega
      have hq2 : q - 1 < q := by omega
      clear h hgt hlen hz h1 h2 hne
      generalize dropL (z + 1) xs = ys at *
      generalize ints ((elems xs).take q) = L at *
      generalize cnt xs = c at *
      go_enter Try.func51, Try.ntmps51
      go_wp2_with (first
        | (go_at_call 56; refine hM.mono ?_; clear hM; rintro e w' ⟨rfl, rfl⟩)
        | (go_at_call 53; refine hC.mono ?_; clear hC; rintro e w1 ⟨rfl, hb1⟩)
        | (go_at_call 65; refine (hF _ hb1).mono ?_; clear hF; rintro e w2 ⟨b, cap, rfl, hbb, hown, hcell, hb2⟩)
        | (go_at_call 66; refine (hD _ hb2).mono ?_; clear hD; rintro e w3 ⟨⟨r, rfl⟩, hkp, v', hto⟩))
      go_ret2
      refine ⟨_, v', rfl, hto, ?_⟩
      rcases hown.2 with ⟨h0, _⟩ | ⟨b', cap', cur, h0, hbb', hbi, h4, h5, h6, h7⟩
      · cases h0
      · injection h0 with h0 _ h0'
        injection h0 with h0
        injection h0 with h0
        subst h0 h0'
        exact ⟨hown.1, .inr ⟨_, _, cur, rfl, hbb', hkp.is hbi (fun hm => by have := hold _ hm; omega), h4, h5, h6, h7⟩⟩
end Go.Proofs.Ytnpjbddannkgfaa
