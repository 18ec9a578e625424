/- The document: what a text is the key of. Conditions: texts of a thousand bytes at most. -/
import Derived.Test.YtnpgoahdemfkpaaDoorWalksQ
namespace Go.Proofs.YtnpgoahdemfkpaaDoor
open Go.ChangeShapes Go.WideShapes Go.RowKit Go.Path
set_option maxRecDepth 100000
set_option linter.unusedVariables false
set_option linter.unusedSimpArgs false
theorem rtake_m (w : World) : Calls Tryd.prog 27 #[.string ⟨#[109]⟩] w (GivesTake ⟨109, [], 0, 0⟩ w) := by
  go_enter Tryd.func27, Tryd.ntmps27
  go_wp2
  exact bodyPost_ret (v := .tuple #[.int .u8 109, .slice none 0 0, .int .i64 0, .int .i64 0]) (by simp [results, Tryd.results27, go_sem]) rfl ⟨none, 0, rfl, Own.nil _ _ _, Below.refl _ _⟩
theorem rtake_meta (k sB : ByteArray) (hk : 1 < k.size) (hk2 : k.size ≤ 1000) (e1 : ¬ k.toList = [109]) (e2 : (k.toList == [109]) = false) (h0 : (k[0].toNat : Int) = 109) (hs : k.extract 1 k.size = sB) (l : List B) (n : Nat) (b : Bool) (R : T) (w : World) (HN : Hid (n = l.length))
    (C : Hid (Calls Tryd.prog 44 #[.string sB] w fun e w' => ∃ A c, e = .returned (.slice A n c) ∧ Own w' w.heap.size A n c l ∧ Below w.heap.size w w'))
    (RR : Hid (∀ A c wx, Own wx w.heap.size A n c l → Calls Tryd.prog 38 #[.slice A n c] wx fun e w' => e = .returned (.bool b) ∧ wx = w'))
    (HR : Hid (R = if b = true then ⟨109, l, 0, 0⟩ else noT)) : Calls Tryd.prog 27 #[.string k] w (GivesTake R w) := by
  cases b
  all_goals
    go_enter Tryd.func27, Tryd.ntmps27
    go_wp2_with fail
    refine C.out.mono ?_; rintro e w1 ⟨A, c, rfl, o1, b1⟩
    have O1 := Lib.hid o1; have B1 := Lib.hid b1; clear o1 b1
    go_wp2_with fail
    refine (RR.out A c _ O1.out).mono ?_; rintro e w2 ⟨rfl, rfl⟩
    go_wp2
  · rw [HR.out]
    exact bodyPost_ret (v := .tuple #[.int .u8 0, .slice none 0 0, .int .i64 0, .int .i64 4]) (by simp [results, Tryd.results27, go_sem]) rfl (gives_no B1.out)
  · rw [HR.out]
    exact bodyPost_ret (v := .tuple #[.int .u8 109, .slice A n c, .int .i64 0, .int .i64 0]) (by simp [results, Tryd.results27, go_sem]) rfl ⟨A, c, by rw [HN.out]; rfl, by have := O1.out; rw [HN.out] at this; exact this, B1.out⟩
theorem rtake_none (k : ByteArray) (hk2 : k.size ≤ 1000) (e1 : ¬ k.toList = [109]) (e2 : (k.toList == [109]) = false) (w : World)
    (W : Hid (k.size ≤ 1 ∨ ∃ h : 1 < k.size, ¬ (k[0].toNat : Int) = 109 ∧ (k.size < 6 ∨ 6 ≤ k.size ∧ (¬ (k[0].toNat : Int) = 100 ∨ (k[0].toNat : Int) = 100 ∧
      ∃ p4 p3 : Nat, (k.size : Int) - 4 = (p4 : Int) ∧ (k.size : Int) - 3 = (p3 : Int) ∧ ∃ h4 : p4 < k.size, ∃ h3 : p3 < k.size, (¬ (k[p4].toNat : Int) = 0 ∨ (k[p4].toNat : Int) = 0 ∧ ¬ (k[p3].toNat : Int) = 0))))) :
    Calls Tryd.prog 27 #[.string k] w (GivesTake noT w) := by
  rcases W.out with h | ⟨h, h0, h | ⟨h6, h⟩⟩
  · clear W
    go_enter Tryd.func27, Tryd.ntmps27
    go_wp2
    exact bodyPost_ret (v := .tuple #[.int .u8 0, .slice none 0 0, .int .i64 0, .int .i64 4]) (by simp [results, Tryd.results27, go_sem]) rfl (gives_no (Below.refl _ _))
  · have q : ((k[0].toNat : Int) == 109) = false := by simpa using h0
    clear W
    go_enter Tryd.func27, Tryd.ntmps27
    go_wp2
    exact bodyPost_ret (v := .tuple #[.int .u8 0, .slice none 0 0, .int .i64 0, .int .i64 4]) (by simp [results, Tryd.results27, go_sem]) rfl (gives_no (Below.refl _ _))
  · have q : ((k[0].toNat : Int) == 109) = false := by simpa using h0
    clear W
    rcases h with h1 | ⟨h1, p4, p3, i4, i3, h4, h3, hb⟩
    · have q1 : ((k[0].toNat : Int) != 100) = true := by simpa using h1
      go_enter Tryd.func27, Tryd.ntmps27
      go_wp2
      exact bodyPost_ret (v := .tuple #[.int .u8 0, .slice none 0 0, .int .i64 0, .int .i64 4]) (by simp [results, Tryd.results27, go_sem]) rfl (gives_no (Below.refl _ _))
    · have q1 : ((k[0].toNat : Int) != 100) = false := by simpa using h1
      rcases hb with hb | ⟨hb, hb'⟩
      · have q2 : ((k[p4].toNat : Int) != 0) = true := by simpa using hb
        clear h0 h1
        go_enter Tryd.func27, Tryd.ntmps27
        go_wp2
        exact bodyPost_ret (v := .tuple #[.int .u8 0, .slice none 0 0, .int .i64 0, .int .i64 4]) (by simp [results, Tryd.results27, go_sem]) rfl (gives_no (Below.refl _ _))
      · have q2 : ((k[p4].toNat : Int) != 0) = false := by simpa using hb
        have q3 : ((k[p3].toNat : Int) != 0) = true := by simpa using hb'
        clear h0 h1
        go_enter Tryd.func27, Tryd.ntmps27
        go_wp2
        exact bodyPost_ret (v := .tuple #[.int .u8 0, .slice none 0 0, .int .i64 0, .int .i64 4]) (by simp [results, Tryd.results27, go_sem]) rfl (gives_no (Below.refl _ _))
set_option maxHeartbeats 2000000 in
theorem rtake_block (k sB : ByteArray) (hk6 : 6 ≤ k.size) (hk2 : k.size ≤ 1000) (e1 : ¬ k.toList = [109]) (e2 : (k.toList == [109]) = false) (h0 : (k[0].toNat : Int) = 100) (p4 p3 p2 p1 : Nat) (i4 : (k.size : Int) - 4 = (p4 : Int)) (i3 : (k.size : Int) - 3 = (p3 : Int)) (i2 : (k.size : Int) - 2 = (p2 : Int)) (i1 : (k.size : Int) - 1 = (p1 : Int))
    (g4 : p4 < k.size) (g3 : p3 < k.size) (g2 : p2 < k.size) (g1 : p1 < k.size) (g0 : 1 ≤ p4) (z4 : (k[p4].toNat : Int) = 0) (z3 : (k[p3].toNat : Int) = 0) (hs : k.extract 1 p4 = sB) (l : List B) (n i x y : Nat) (hx : k[p2].toNat = x) (hy : k[p1].toNat = y) (hx8 : x < 256) (hy8 : y < 256) (b : Bool) (R : T) (w : World) (HN : Hid (n = l.length)) (HIx : Hid (i = 256 * x + y))
    (C : Hid (Calls Tryd.prog 44 #[.string sB] w fun e w' => ∃ A c, e = .returned (.slice A n c) ∧ Own w' w.heap.size A n c l ∧ Below w.heap.size w w'))
    (RR : Hid (∀ A c wx, Own wx w.heap.size A n c l → Calls Tryd.prog 38 #[.slice A n c] wx fun e w' => e = .returned (.bool b) ∧ wx = w'))
    (HR : Hid (R = if b = false ∨ 31 < i then noT else ⟨100, l, i, 0⟩)) : Calls Tryd.prog 27 #[.string k] w (GivesTake R w) := by
  have q : ((k[0].toNat : Int) == 109) = false := by rw [h0]; rfl
  have q0 : ¬ (k[0].toNat : Int) = 109 := by rw [h0]; decide
  have q1 : ((k[0].toNat : Int) != 100) = false := by simpa using h0
  have q2 : ((k[p4].toNat : Int) != 0) = false := by simpa using z4
  have q3 : ((k[p3].toNat : Int) != 0) = false := by simpa using z3
  have j4 : (1 : Int) ≤ (p4 : Int) := by omega
  have j5 : (p4 : Int) ≤ (k.size : Int) := by omega
  have hh : (1 : Nat) < k.size := by omega
  go_enter Tryd.func27, Tryd.ntmps27
  go_wp2_with fail
  refine C.out.mono ?_; rintro e w1 ⟨A, c, rfl, o1, b1⟩
  have O1 := Lib.hid o1; have B1 := Lib.hid b1; clear o1 b1
  go_wp2
  go_quiet (fail)
  have BD := below_drewN w1 nq
  have O2 := Lib.hid (O1.out.kept BD)
  have B2 := Lib.hid (B1.out.trans (BD.mono B1.out.size))
  clear BD
  generalize w1.drewN nq = W at *
  cases b
  · go_wp2_with fail
    refine (RR.out A c _ O2.out).mono ?_; rintro e w2 ⟨rfl, rfl⟩
    go_wp2
    rw [HR.out]
    exact bodyPost_ret (v := .tuple #[.int .u8 0, .slice none 0 0, .int .i64 0, .int .i64 4]) (by simp [results, Tryd.results27, go_sem]) rfl (gives_no B2.out)
  · have HR2 := Lib.hid (show R = if 31 < 256 * x + y then noT else ⟨100, l, 256 * x + y, 0⟩ by rw [HR.out, HIx.out]; simp)
    by_cases h31 : 31 < 256 * x + y
    · have h31' : (31 : Int) < 256 * (x : Int) + (y : Int) := by omega
      go_wp2_with fail
      refine (RR.out A c _ O2.out).mono ?_; rintro e w2 ⟨rfl, rfl⟩
      go_wp2
      rw [HR2.out, if_pos h31]
      exact bodyPost_ret (v := .tuple #[.int .u8 0, .slice none 0 0, .int .i64 0, .int .i64 4]) (by simp [results, Tryd.results27, go_sem]) rfl (gives_no B2.out)
    · have h31' : ¬ (31 : Int) < 256 * (x : Int) + (y : Int) := by omega
      go_wp2_with fail
      refine (RR.out A c _ O2.out).mono ?_; rintro e w2 ⟨rfl, rfl⟩
      go_wp2
      rw [HR2.out, if_neg h31]
      refine bodyPost_ret (v := .tuple #[.int .u8 100, .slice A n c, .int .i64 (256 * (x : Int) + (y : Int)), .int .i64 0]) (by simp [results, Tryd.results27, go_sem]) rfl ⟨A, c, ?_, by have := O2.out; rw [HN.out] at this; exact this, B2.out⟩
      rw [HN.out]
      simp
theorem cut0_few (l : B) : (cut0 l).length ≤ l.length + 1 ∧ ∀ x ∈ cut0 l, x.length ≤ l.length := by
  refine ⟨cut0_len l, ?_⟩
  induction l with
  | nil => simp [cut0]
  | cons c t ih =>
    unfold cut0
    split
    · intro x hx
      rcases List.mem_cons.1 hx with rfl | hx
      · simp
      · have := ih x hx; simp; omega
    · split
      · simp
      · next h r e =>
        rw [e] at ih
        intro x hx
        rcases List.mem_cons.1 hx with rfl | hx
        · have := ih h (List.mem_cons_self ..); simp; omega
        · have := ih x (List.mem_cons_of_mem _ hx); simp; omega
theorem cut_right (s : ByteArray) (hs : s.size ≤ 1000) (base : Nat) (A : Option Addr) (c : Nat) (wx : World) (h : Own wx base A (cut0 s.data.toList).length c (cut0 s.data.toList)) :
    Calls Tryd.prog 38 #[.slice A (cut0 s.data.toList).length c] wx fun e w' => e = .returned (.bool (right (cut0 s.data.toList))) ∧ wx = w' := by
  have hz : s.data.toList.length = s.size := (Lib.size_eq s).symm
  obtain ⟨h1, h2⟩ := cut0_few s.data.toList
  exact (⟨h.rs, by omega, h.2.1, fun x hx => by have := h2 x hx; unfold maxLen; omega⟩ : In wx A _ c).rright
theorem rtake_any (k : ByteArray) (hk : k.size ≤ 1000) (w : World) : Calls Tryd.prog 27 #[.string k] w (GivesTake (takeD k.data.toList) w) := by
  have hz : k.data.toList.length = k.size := (Lib.size_eq k).symm
  by_cases hm : k.data.toList = [109]
  · have e : k = ⟨#[109]⟩ := by rw [← bs_of k, hm]; rfl
    rw [hm]
    subst e
    exact rtake_m w
  have e1 : ¬ k.toList = [109] := by rw [text_list]; exact hm
  have e2 : (k.toList == [109]) = false := by simpa using e1
  have hat : ∀ (j : Nat) (h : j < k.size), k.data.toList[j]? = some k[j] := fun j h => Lib.data_getElem? k j h
  have hgd : ∀ (j : Nat) (h : j < k.size), k.data.toList.getD j 0 = k[j] := fun j h => by rw [List.getD, hat j h]; rfl
  unfold takeD
  rw [if_neg hm]
  by_cases h2 : 1 < k.data.toList.length ∧ k.data.toList.head? = some 109
  · rw [if_pos h2]
    obtain ⟨h2, h3⟩ := h2
    have hk1 : 1 < k.size := by omega
    have h0 : (k[0]'(by omega)) = 109 := by
      have := hat 0 (by omega)
      rw [List.head?_eq_getElem?] at h3
      rw [h3] at this
      injection this with this
      exact this.symm
    have hs : k.extract 1 k.size = bs (k.data.toList.drop 1) := by rw [extract_bs, List.take_of_length_le (by simp)]
    have hC := rcut_any (bs (k.data.toList.drop 1)) (by rw [bs_size]; simp; omega) w
    have hRt := fun A c wx h => cut_right (bs (k.data.toList.drop 1)) (by rw [bs_size]; simp; omega) w.heap.size A c wx h
    unfold Gives at hC
    rw [bs_data] at hC hRt
    exact rtake_meta k _ hk1 hk e1 e2 (by rw [h0]; rfl) hs _ _ _ _ w (Lib.hid rfl) (Lib.hid hC) (Lib.hid hRt) (Lib.hid rfl)
  rw [if_neg h2]
  have h109 : ∀ h : 0 < k.size, 1 < k.size → ¬ (k[0].toNat : Int) = 109 := fun h h1 => by
    refine (u8_ne (n := 109) (by decide)).2 (fun e => h2 ⟨by omega, ?_⟩)
    rw [List.head?_eq_getElem?, hat 0 h, e]; rfl
  by_cases h3 : k.data.toList.length < 6 ∨ k.data.toList.head? ≠ some 100 ∨ k.data.toList[k.data.toList.length - 4]? ≠ some 0 ∨ k.data.toList[k.data.toList.length - 3]? ≠ some 0
  · rw [if_pos h3]
    refine rtake_none k hk e1 e2 w (Lib.hid ?_)
    by_cases hk1 : k.size ≤ 1
    · exact .inl hk1
    refine .inr ⟨by omega, h109 (by omega) (by omega), ?_⟩
    by_cases h6 : k.size < 6
    · exact .inl h6
    refine .inr ⟨by omega, ?_⟩
    by_cases h100 : (k[0]'(by omega)) = 100
    · refine .inr ⟨by rw [h100]; rfl, k.size - 4, k.size - 3, by omega, by omega, by omega, by omega, ?_⟩
      rw [hz] at h3
      rcases h3 with h3 | h3 | h3 | h3
      · omega
      · exact absurd (by rw [List.head?_eq_getElem?, hat 0 (by omega), h100]) h3
      · rw [hat (k.size - 4) (by omega)] at h3
        exact .inl ((u8_ne (n := 0) (by decide)).2 (fun e => h3 (by rw [e]; rfl)))
      · rw [hat (k.size - 3) (by omega)] at h3
        by_cases hb : (k[k.size - 4]'(by omega)) = 0
        · exact .inr ⟨by rw [hb]; rfl, (u8_ne (n := 0) (by decide)).2 (fun e => h3 (by rw [e]; rfl))⟩
        · exact .inl ((u8_ne (n := 0) (by decide)).2 hb)
    · exact .inl ((u8_ne (n := 100) (by decide)).2 h100)
  · rw [if_neg h3]
    simp only [not_or, Nat.not_lt, Classical.not_not] at h3
    obtain ⟨h6, h100, ha, hb⟩ := h3
    rw [hz] at h6 ha hb ⊢
    rw [List.head?_eq_getElem?, hat 0 (by omega)] at h100
    rw [hat (k.size - 4) (by omega)] at ha
    rw [hat (k.size - 3) (by omega)] at hb
    injection h100 with h100
    injection ha with ha
    injection hb with hb
    have hs : k.extract 1 (k.size - 4) = bs ((k.data.toList.drop 1).take (k.size - 5)) := by rw [extract_bs]; rfl
    have hC := rcut_any (bs ((k.data.toList.drop 1).take (k.size - 5))) (by rw [bs_size]; simp; omega) w
    have hRt := fun A c wx h => cut_right (bs ((k.data.toList.drop 1).take (k.size - 5))) (by rw [bs_size]; simp; omega) w.heap.size A c wx h
    unfold Gives at hC
    rw [bs_data] at hC hRt
    rw [hgd (k.size - 2) (by omega), hgd (k.size - 1) (by omega)]
    exact rtake_block k _ h6 hk e1 e2 (by rw [h100]; rfl) (k.size - 4) (k.size - 3) (k.size - 2) (k.size - 1) (by omega) (by omega) (by omega) (by omega) (by omega) (by omega) (by omega) (by omega) (by omega)
      (by rw [ha]; rfl) (by rw [hb]; rfl) hs _ _ _ _ _ rfl rfl (UInt8.toNat_lt _) (UInt8.toNat_lt _) _ _ w (Lib.hid rfl) (Lib.hid rfl) (Lib.hid hC) (Lib.hid hRt) (Lib.hid rfl)
end Go.Proofs.YtnpgoahdemfkpaaDoor
