/- What a text is the key of, in the program. Conditions: the listed families as the program's text lays them; texts of a thousand bytes at most. -/
import Derived.Test.YtnpgoahdemfkpaaDoorWalksP
namespace Go.Proofs.YtnpgoahdemfkpaaDoor
open Go.ChangeShapes Go.WideShapes Go.RowKit Go.Path
set_option maxRecDepth 100000
set_option linter.unusedVariables false
set_option linter.unusedSimpArgs false
theorem scan_few : ∀ (r : B) (n : Nat) (cur : B), (scan n cur r).2.1.length ≤ r.length + 1 ∧ ∀ x ∈ (scan n cur r).2.1, x.length ≤ cur.length + r.length
  | [], n, cur => by simp [scan]
  | c :: r, n, cur => by
    unfold scan
    split
    · simp
    · split
      · have := scan_few r n (cur ++ [c])
        simp at this ⊢
        exact ⟨by omega, fun x hx => by have := this.2 x hx; omega⟩
      · split
        · simp
        · have := scan_few r (n + 1) []
          simp at this ⊢
          exact ⟨by omega, fun x hx => by have := this.2 x hx; omega⟩
theorem parts_few (k : B) : (parts k).2.1.length ≤ k.length + 1 ∧ ∀ x ∈ (parts k).2.1, x.length ≤ k.length := by
  unfold parts
  split
  · simp
  · split
    · simp
    · have := scan_few (k.drop 1) 0 []
      simp at this ⊢
      exact ⟨by omega, fun x hx => by have := this.2 x hx; omega⟩
theorem scan_meta : ∀ (r : B) (n : Nat) (cur : B), (scan n cur r).1 = false → (scan n cur r).2.2 = []
  | [], n, cur, _ => rfl
  | c :: r, n, cur, h => by
    unfold scan at h ⊢
    split
    · rfl
    · next h1 =>
      rw [if_neg h1] at h
      split
      · next h2 =>
        rw [if_pos h2] at h
        exact scan_meta r n _ h
      · next h2 =>
        rw [if_neg h2] at h
        split
        · next h3 => rw [if_pos h3] at h; cases h
        · next h3 =>
          rw [if_neg h3] at h
          exact scan_meta r (n + 1) _ h
theorem parts_meta_no (k : B) (h : (parts k).1 = false) : (parts k).2.2 = [] := by
  unfold parts at h ⊢
  split
  · rfl
  · next h1 =>
    rw [if_neg h1] at h
    split
    · next h2 => rw [if_pos h2] at h; cases h
    · next h2 =>
      rw [if_neg h2] at h
      exact scan_meta _ _ _ h
/-- What Take hands back. -/
def GivesTake (t : T) (w : World) (e : Ending) (w' : World) : Prop := ∃ A c, e = .returned (.tuple #[.int .u8 (t.c : Nat), .slice A t.l.length c, .int .i64 (t.i : Nat), .int .i64 (t.e : Nat)]) ∧ Own w' w.heap.size A t.l.length c t.l ∧ Below w.heap.size w w'
theorem gives_no {w w' : World} (hb : Below w.heap.size w w') : GivesTake noT w (.returned (.tuple #[.int .u8 0, .slice none 0 0, .int .i64 0, .int .i64 4])) w' := ⟨none, 0, rfl, Own.nil _ _ _, hb⟩
set_option maxHeartbeats 2000000 in
theorem take_meta (k M : ByteArray) (l : List B) (n : Nat) (R : T) (w : World) (HL : Hid (Laid w)) (HN : Hid (n = l.length))
    (P : Hid (Calls Tryd.prog 43 #[.string k] w fun e w' => ∃ A c, e = .returned (.tuple #[.agg #[.string ⟨#[109]⟩, .string ⟨#[110]⟩], .slice A n c, .string ⟨#[]⟩]) ∧ Own w' w.heap.size A n c l ∧ Below w.heap.size w w'))
    (K : Hid (∀ A c wx, In wx A l c → Laid wx → Calls Tryd.prog 15 #[.slice A n c] wx fun e w' => e = .returned (.string M) ∧ Below wx.heap.size wx w'))
    (I : Hid (∀ A c wx, Own wx w.heap.size A n c l → In wx A l c))
    (D : Hid ((∃ h : 0 < k.size, (k.toList == M.toList) = true ∧ R = ⟨k[0].toNat, l, 0, 0⟩) ∨ (k.toList == M.toList) = false ∧ R = noT)) :
    Calls Tryd.prog 26 #[.string k] w (GivesTake R w) := by
  rcases D.out with ⟨hk0, he, hR⟩ | ⟨he, hR⟩
  all_goals
    have HR := Lib.hid hR
    clear hR D
    go_enter Tryd.func26, Tryd.ntmps26
    go_wp2_with fail
    refine P.out.mono ?_; rintro e w1 ⟨A, c, rfl, o1, b1⟩
    have L1 := HL.out.later b1
    have L2 := Lib.hid (L1.alloc (.cells #[.string ⟨#[109]⟩, .string ⟨#[110]⟩] 57))
    obtain ⟨⟨l1, l2⟩, ⟨l3, l4⟩, _⟩ := L2.out
    have O1 := Lib.hid (o1.alloc (.cells #[.string ⟨#[109]⟩, .string ⟨#[110]⟩] 57))
    have B1 := Lib.hid (b1.alloc b1.size (.cells #[.string ⟨#[109]⟩, .string ⟨#[110]⟩] 57))
    clear o1 b1 L1
    go_wp2_with fail
    refine (K.out A c _ (I.out _ _ _ O1.out) L2.out).mono ?_; rintro e w2 ⟨rfl, b2⟩
    have I2 := (Is.new w1 57 #[.string ⟨#[109]⟩, .string ⟨#[110]⟩]).kept b2
    obtain ⟨c0, c1⟩ := I2.cells
    obtain ⟨⟨m1, m2⟩, ⟨m3, m4⟩, _⟩ := L2.out.later b2
    have O2 := Lib.hid (O1.out.kept b2)
    have B2 := Lib.hid (B1.out.trans (b2.mono B1.out.size))
    clear b2 I2 l1 l2 l3 l4
    go_wp2
  · rw [HR.out]
    exact bodyPost_ret (v := .tuple #[.int .u8 k[0].toNat, .slice A n c, .int .i64 0, .int .i64 0]) (by simp [results, Tryd.results26, go_sem]) rfl ⟨A, c, by rw [HN.out]; rfl, by have := O2.out; rw [HN.out] at this; exact this, B2.out⟩
  · rw [HR.out]
    exact bodyPost_ret (v := .tuple #[.int .u8 0, .slice none 0 0, .int .i64 0, .int .i64 4]) (by simp [results, Tryd.results26, go_sem]) rfl (gives_no B2.out)
set_option maxHeartbeats 2000000 in
theorem take_block0 (k M X : ByteArray) (hX : ¬ (X.size : Int) = 2) (l : List B) (n : Nat) (R : T) (w : World) (HL : Hid (Laid w)) (HN : Hid (n = l.length))
    (P : Hid (Calls Tryd.prog 43 #[.string k] w fun e w' => ∃ A c, e = .returned (.tuple #[.agg #[.string ⟨#[100]⟩, .string ⟨#[101]⟩], .slice A n c, .string X]) ∧ Own w' w.heap.size A n c l ∧ Below w.heap.size w w'))
    (K : Hid (∀ A c wx, In wx A l c → Laid wx → Calls Tryd.prog 17 #[.slice A n c, .int .i64 0] wx fun e w' => e = .returned (.string M) ∧ Below wx.heap.size wx w'))
    (I : Hid (∀ A c wx, Own wx w.heap.size A n c l → In wx A l c))
    (D : Hid ((∃ h : 0 < k.size, (k.toList == M.toList) = true ∧ R = ⟨k[0].toNat, l, 0, 0⟩) ∨ (k.toList == M.toList) = false ∧ R = noT)) :
    Calls Tryd.prog 26 #[.string k] w (GivesTake R w) := by
  have hX' : ((X.size : Int) == 2) = false := by simpa using hX
  rcases D.out with ⟨hk0, he, hR⟩ | ⟨he, hR⟩
  all_goals
    have HR := Lib.hid hR
    clear hR D
    go_enter Tryd.func26, Tryd.ntmps26
    go_wp2_with fail
    refine P.out.mono ?_; rintro e w1 ⟨A, c, rfl, o1, b1⟩
    have L1 := HL.out.later b1
    have L2 := Lib.hid (L1.alloc (.cells #[.string ⟨#[100]⟩, .string ⟨#[101]⟩] 57))
    obtain ⟨⟨l1, l2⟩, ⟨l3, l4⟩, _⟩ := L2.out
    have O1 := Lib.hid (o1.alloc (.cells #[.string ⟨#[100]⟩, .string ⟨#[101]⟩] 57))
    have B1 := Lib.hid (b1.alloc b1.size (.cells #[.string ⟨#[100]⟩, .string ⟨#[101]⟩] 57))
    clear o1 b1 L1
    go_wp2_with fail
    refine (K.out A c _ (I.out _ _ _ O1.out) L2.out).mono ?_; rintro e w2 ⟨rfl, b2⟩
    have I2 := (Is.new w1 57 #[.string ⟨#[100]⟩, .string ⟨#[101]⟩]).kept b2
    obtain ⟨c0, c1⟩ := I2.cells
    obtain ⟨⟨m1, m2⟩, ⟨m3, m4⟩, _⟩ := L2.out.later b2
    have O2 := Lib.hid (O1.out.kept b2)
    have B2 := Lib.hid (B1.out.trans (b2.mono B1.out.size))
    clear b2 I2 l1 l2 l3 l4
    go_wp2
  · rw [HR.out]
    exact bodyPost_ret (v := .tuple #[.int .u8 k[0].toNat, .slice A n c, .int .i64 0, .int .i64 0]) (by simp [results, Tryd.results26, go_sem]) rfl ⟨A, c, by rw [HN.out]; rfl, by have := O2.out; rw [HN.out] at this; exact this, B2.out⟩
  · rw [HR.out]
    exact bodyPost_ret (v := .tuple #[.int .u8 0, .slice none 0 0, .int .i64 0, .int .i64 4]) (by simp [results, Tryd.results26, go_sem]) rfl (gives_no B2.out)
set_option maxHeartbeats 2000000 in
theorem take_block2 (k M X : ByteArray) (hX : X.size = 2) (i : Nat) (l : List B) (n : Nat) (R : T) (w : World) (HO : Hid (bits .or .i64 (wrap64 (wrap64 (X[0].toNat : Int) * 256)) (wrap64 (X[1].toNat : Int)) = (i : Int))) (HL : Hid (Laid w)) (HN : Hid (n = l.length))
    (P : Hid (Calls Tryd.prog 43 #[.string k] w fun e w' => ∃ A c, e = .returned (.tuple #[.agg #[.string ⟨#[100]⟩, .string ⟨#[101]⟩], .slice A n c, .string X]) ∧ Own w' w.heap.size A n c l ∧ Below w.heap.size w w'))
    (K : Hid (∀ A c wx, In wx A l c → Laid wx → Calls Tryd.prog 17 #[.slice A n c, .int .i64 i] wx fun e w' => e = .returned (.string M) ∧ Below wx.heap.size wx w'))
    (I : Hid (∀ A c wx, Own wx w.heap.size A n c l → In wx A l c))
    (D : Hid ((∃ h : 0 < k.size, (k.toList == M.toList) = true ∧ R = ⟨k[0].toNat, l, i, 0⟩) ∨ (k.toList == M.toList) = false ∧ R = noT)) :
    Calls Tryd.prog 26 #[.string k] w (GivesTake R w) := by
  have h0 : 0 < X.size := by omega
  have h1 : 1 < X.size := by omega
  have hXi : (X.size : Int) = 2 := by omega
  go_enter Tryd.func26, Tryd.ntmps26
  go_wp2_with fail
  refine P.out.mono ?_; rintro e w1 ⟨A, c, rfl, o1, b1⟩
  have L1 := HL.out.later b1
  have L2 := Lib.hid (L1.alloc (.cells #[.string ⟨#[100]⟩, .string ⟨#[101]⟩] 57))
  obtain ⟨⟨l1, l2⟩, ⟨l3, l4⟩, _⟩ := L2.out
  have O1 := Lib.hid (o1.alloc (.cells #[.string ⟨#[100]⟩, .string ⟨#[101]⟩] 57))
  have B1 := Lib.hid (b1.alloc b1.size (.cells #[.string ⟨#[100]⟩, .string ⟨#[101]⟩] 57))
  clear o1 b1 L1
  go_wp2
  go_quiet (fail)
  have BD := below_drewN (w1.alloc (.cells #[.string ⟨#[100]⟩, .string ⟨#[101]⟩] 57)) nq
  have IW := Lib.hid ((Is.new w1 57 #[.string ⟨#[100]⟩, .string ⟨#[101]⟩]).kept BD)
  have L3 := Lib.hid (L2.out.later BD)
  have O3 := Lib.hid (O1.out.kept BD)
  have B3 := Lib.hid (B1.out.trans (BD.mono B1.out.size))
  obtain ⟨k0, k1⟩ := IW.out.cells
  obtain ⟨⟨n1, n2⟩, ⟨n3, n4⟩, _⟩ := L3.out
  clear l1 l2 l3 l4 BD L2 O1 B1
  generalize (w1.alloc (.cells #[.string ⟨#[100]⟩, .string ⟨#[101]⟩] 57)).drewN nq = W at *
  rcases D.out with ⟨hk0, he, hR⟩ | ⟨he, hR⟩
  all_goals
    have HR := Lib.hid hR
    clear hR D
    go_wp2_with fail
    rw [HO.out]
    refine (K.out A c _ (I.out _ _ _ O3.out) L3.out).mono ?_; rintro e w2 ⟨rfl, b2⟩
    have I2 := IW.out.kept b2
    obtain ⟨c0, c1⟩ := I2.cells
    obtain ⟨⟨m1, m2⟩, ⟨m3, m4⟩, _⟩ := L3.out.later b2
    have O2 := Lib.hid (O3.out.kept b2)
    have B2 := Lib.hid (B3.out.trans (b2.mono B3.out.size))
    clear b2 I2 n1 n2 n3 n4 k0 k1
    go_wp2
  · rw [HR.out]
    exact bodyPost_ret (v := .tuple #[.int .u8 k[0].toNat, .slice A n c, .int .i64 i, .int .i64 0]) (by simp [results, Tryd.results26, go_sem]) rfl ⟨A, c, by rw [HN.out]; rfl, by have := O2.out; rw [HN.out] at this; exact this, B2.out⟩
  · rw [HR.out]
    exact bodyPost_ret (v := .tuple #[.int .u8 0, .slice none 0 0, .int .i64 0, .int .i64 4]) (by simp [results, Tryd.results26, go_sem]) rfl (gives_no B2.out)
theorem or8 (a b : Nat) (ha : a < 256) (hb : b < 256) : bits .or .i64 (wrap64 (wrap64 (a : Int) * 256)) (wrap64 (b : Int)) = ((256 * a + b : Nat) : Int) := by
  have e1 : wrap64 (a : Int) = a := by unfold wrap64; omega
  have e2 : wrap64 ((a : Int) * 256) = (a : Int) * 256 := by unfold wrap64; omega
  have e3 : wrap64 (b : Int) = b := by unfold wrap64; omega
  rw [e1, e2, e3]
  have := bits_join .i64 31 (by decide) (fun n h0 h1 => by rw [IntKind.wrap_i64]; omega) 8 ((a : Int) * 256) (b : Int) (by omega) (by omega) (by omega) (by omega) (by omega) (by omega)
  rw [this]
  omega
theorem num_lt (z : B) : num z < 65536 := by
  unfold num
  split
  · have := (z.getD 0 0).toNat_lt; have := (z.getD 1 0).toNat_lt; omega
  · omega
theorem take_any (k : ByteArray) (hk : k.size ≤ 1000) (w : World) (hL : Laid w) : Calls Tryd.prog 26 #[.string k] w (GivesTake (takeP k.data.toList) w) := by
  have hz : k.data.toList.length = k.size := (Lib.size_eq k).symm
  obtain ⟨K, hK⟩ : ∃ K, K = k.data.toList := ⟨_, rfl⟩
  have P := parts_any k hk w hL
  unfold GivesParts at P
  obtain ⟨hf1, hf2⟩ := parts_few k.data.toList
  have I := Lib.hid (fun A c wx (h : Own wx w.heap.size A (parts k.data.toList).2.1.length c (parts k.data.toList).2.1) => (⟨h.rs, by omega, h.2.1, fun x hx => by have := hf2 x hx; unfold maxLen; omega⟩ : In wx A (parts k.data.toList).2.1 c))
  have hno := parts_meta_no k.data.toList
  have hnum := num_lt (parts k.data.toList).2.2
  have hk0 : isK k.data.toList = true → 0 < k.size := fun h => by
    rcases Nat.eq_zero_or_pos k.size with e | e
    · have : k.data.toList = [] := List.eq_nil_of_length_eq_zero (by omega)
      rw [this] at h
      exact absurd h (by decide)
    · exact e
  have hc0 : ∀ h : 0 < k.size, (k.data.toList.getD 0 0) = k[0] := fun h => by
    rw [List.getD, Lib.data_getElem? k 0 h]; rfl
  have hT : takeP k.data.toList = if isK k.data.toList = true then ⟨(k.data.toList.getD 0 0).toNat, (parts k.data.toList).2.1, num (parts k.data.toList).2.2, 0⟩ else noT := rfl
  have hI : isK k.data.toList = bif (parts k.data.toList).1 then decide (k.data.toList = blockK (parts k.data.toList).2.1 (num (parts k.data.toList).2.2 : Nat)) else decide (k.data.toList = metaK (parts k.data.toList).2.1) := rfl
  have key : ∀ (M : B), isK k.data.toList = decide (k.data.toList = M) → Hid ((∃ h : 0 < k.size, (k.toList == (bs M).toList) = true ∧ takeP k.data.toList = ⟨k[0].toNat, (parts k.data.toList).2.1, num (parts k.data.toList).2.2, 0⟩) ∨ (k.toList == (bs M).toList) = false ∧ takeP k.data.toList = noT) := fun M hM => by
    refine Lib.hid ?_
    rw [hT]
    by_cases e : k.data.toList = M
    · have hi : isK k.data.toList = true := by rw [hM, decide_eq_true e]
      have h0 := hk0 hi
      refine .inl ⟨h0, same_text.2 (by rw [bs_data]; exact e), ?_⟩
      rw [if_pos hi, hc0 h0]
    · refine .inr ⟨other_text.2 (by rw [bs_data]; exact e), ?_⟩
      rw [if_neg (by rw [hM, decide_eq_false e]; decide)]
  cases hb : (parts k.data.toList).1
  · rw [hb] at P hI
    rw [hno hb] at P
    have hn0 : num (parts k.data.toList).2.2 = 0 := by rw [hno hb]; rfl
    have key' := key _ hI
    rw [hn0] at key'
    exact take_meta k _ _ _ _ w (Lib.hid hL) (Lib.hid rfl) (Lib.hid P) (Lib.hid fun A c wx h hl => meta_any A _ c wx h hl) I key'
  · rw [hb] at P hI
    have key' := key _ hI
    by_cases h2 : (parts k.data.toList).2.2.length = 2
    · obtain ⟨z0, z1, hzz⟩ : ∃ z0 z1, (parts k.data.toList).2.2 = [z0, z1] := by
        match h : (parts k.data.toList).2.2, h2 with
        | [a, b], _ => exact ⟨a, b, rfl⟩
      have hn2 : num (parts k.data.toList).2.2 = 256 * z0.toNat + z1.toNat := by rw [hzz]; rfl
      have hxs : (bs (parts k.data.toList).2.2).size = 2 := by rw [bs_size]; exact h2
      refine take_block2 k _ _ hxs (num (parts k.data.toList).2.2) _ _ _ w (Lib.hid ?_) (Lib.hid hL) (Lib.hid rfl) (Lib.hid P) (Lib.hid fun A c wx h hl => block_any A _ c _ (by omega) wx h hl) I key'
      rw [hn2]
      have e0 : (bs (parts k.data.toList).2.2)[0]'(by omega) = z0 := by
        rw [bs_at (parts k.data.toList).2.2 0 (by omega) rfl]; simp [hzz]
      have e1 : (bs (parts k.data.toList).2.2)[1]'(by omega) = z1 := by
        rw [bs_at (parts k.data.toList).2.2 1 (by omega) rfl]; simp [hzz]
      rw [e0, e1]
      exact or8 _ _ z0.toNat_lt z1.toNat_lt
    · have hn0 : num (parts k.data.toList).2.2 = 0 := if_neg h2
      rw [hn0] at key'
      exact take_block0 k _ _ (by rw [bs_size]; omega) _ _ _ w (Lib.hid hL) (Lib.hid rfl) (Lib.hid P) (Lib.hid fun A c wx h hl => block_any A _ c 0 (by omega) wx h hl) I key'
end Go.Proofs.YtnpgoahdemfkpaaDoor
