/- What steps, going on and sums give, in the program and in the document's answer: contracts over the translated program. Conditions: numbers of 32 bits, bytes; the program's table of four bits as it is laid. -/
import Derived.Test.YtmjgbafoemdlpaaDoorRows
import Derived.Test.YtmjgbafoemdlpaaDoorCrc
import Derived.WalkKit
import Derived.WalkLawsBesides
import Derived.Laws.BitsAllLaws
import Derived.Lib.Hide
namespace Go.Proofs.YtmjgbafoemdlpaaDoor
open Go.ChangeShapes Go.WideShapes Go.RowKit
theorem ret_i {k : IntKind} {a b : Int} (h : a = b) : Ending.returned (.int k a) = .returned (.int k b) := by rw [h]
def Tab4 (w : World) : Prop := ∀ k : Nat, k < 16 → w.cell? ⟨0, k, none⟩ = some (.int .u32 (Crc.tab.getD k 0 : Nat))
theorem step_core (c b x1 q1 i1 t1 x2 q2 i2 t2 x3 : Nat) (w : World)
    (h1 : bits .xor .u32 (c : Int) (b : Int) = (x1 : Int)) (h2 : (x1 : Int) / 16 = (q1 : Int)) (h3 : bits .and .u32 (x1 : Int) 15 = (i1 : Int)) (l1 : i1 < 16)
    (c1 : w.cell? ⟨0, i1, none⟩ = some (.int .u32 t1)) (h4 : bits .xor .u32 (q1 : Int) (t1 : Int) = (x2 : Int))
    (h5 : (x2 : Int) / 16 = (q2 : Int)) (h6 : bits .and .u32 (x2 : Int) 15 = (i2 : Int)) (l2 : i2 < 16)
    (c2 : w.cell? ⟨0, i2, none⟩ = some (.int .u32 t2)) (h7 : bits .xor .u32 (q2 : Int) (t2 : Int) = (x3 : Int)) (hb : b < 256) :
    Calls Tryd.prog 73 #[.int .u32 c, .int .u8 b] w fun e w' => e = .returned (.int .u32 x3) ∧ w = w' := by
  go_enter Tryd.func73, Tryd.ntmps73
  go_wp2
  go_ret
  exact ⟨rfl, rfl⟩
theorem step_any (c b : Nat) (hc : c < 4294967296) (hb : b < 256) (w : World) (ht : Tab4 w) :
    Calls Tryd.prog 73 #[.int .u32 c, .int .u8 b] w fun e w' => e = .returned (.int .u32 (Crc.step c b : Nat)) ∧ w = w' := by
  have k1 : c ^^^ b < 4294967296 := Crc.xor_lt32 hc (by omega)
  have k2 : (c ^^^ b) / 16 ^^^ Crc.tab.getD ((c ^^^ b) % 16) 0 < 4294967296 := Crc.xor_lt32 (by omega) (Crc.tab_lt _ (by omega))
  have and15 : ∀ x : Nat, x < 4294967296 → bits .and .u32 (x : Int) 15 = ((x % 16 : Nat) : Int) := fun x hx => by
    rw [show (15 : Int) = ((15 : Nat) : Int) from rfl, u32_and_nat x 15 hx (by omega), nat_mask4]
  have e : Crc.step c b = ((c ^^^ b) / 16 ^^^ Crc.tab.getD ((c ^^^ b) % 16) 0) / 16 ^^^ Crc.tab.getD (((c ^^^ b) / 16 ^^^ Crc.tab.getD ((c ^^^ b) % 16) 0) % 16) 0 := by
    unfold Crc.step
    rw [Crc.M_four, Crc.Ln4 (c ^^^ b), Crc.Ln4]
  rw [e]
  generalize hx : c ^^^ b = x at k1 k2 ⊢
  generalize hy : x / 16 ^^^ Crc.tab.getD (x % 16) 0 = y at k2 ⊢
  exact step_core c b x (x / 16) (x % 16) _ y (y / 16) (y % 16) _ _ w (by rw [u32_xor_nat c b hc (by omega), hx]) rfl (and15 _ k1) (by omega) (ht _ (by omega)) (by rw [u32_xor_nat _ _ (by omega) (Crc.tab_lt _ (by omega)), hy])
    rfl (and15 _ k2) (by omega) (ht _ (by omega)) (u32_xor_nat _ _ (by omega) (Crc.tab_lt _ (by omega))) hb
theorem turned_any (c : Nat) (hc : c < 4294967296) (w : World) :
    Calls Tryd.prog 74 #[.int .u32 c] w fun e w' => e = .returned (.int .u32 (Crc.T c : Nat)) ∧ w = w' := by
  have h1 : bits .xor .u32 (c : Int) 4294967295 = ((Crc.T c : Nat) : Int) := u32_xor_nat c 4294967295 hc (by omega)
  go_enter Tryd.func74, Tryd.ntmps74
  go_wp2
  go_ret
  exact ⟨rfl, rfl⟩
theorem L_odd {y : Nat} (hy : y < 4294967296) (h : ((y : Int) % 2 == 1) = true) : bits .xor .u32 ((y : Int) / 2) 2197175160 = ((Crc.L y : Nat) : Int) := by
  have h1 : y % 2 = 1 := by simp at h; omega
  unfold Crc.L
  rw [if_pos h1]
  exact u32_xor_nat (y / 2) 2197175160 (by omega) (by omega)
theorem L_even {y : Nat} (h : ((y : Int) % 2 == 1) = false) : ((y : Int) / 2) = ((Crc.L y : Nat) : Int) := by
  have h1 : ¬ y % 2 = 1 := by simp at h; omega
  unfold Crc.L
  rw [if_neg h1, Nat.xor_zero]
  rfl
theorem Ln_less {k y : Nat} (h : k < 8) : Crc.Ln (8 - (k + 1)) (Crc.L y) = Crc.Ln (8 - k) y := by
  have e : 8 - k = (8 - (k + 1)) + 1 := by omega
  rw [e]; rfl
theorem rstep_any (c b : Nat) (hc : c < 4294967296) (hb : b < 256) (w : World) :
    Calls Tryd.prog 75 #[.int .u32 c, .int .u8 b] w fun e w' => e = .returned (.int .u32 (Crc.step c b : Nat)) ∧ w = w' := by
  have h1 : bits .xor .u32 (c : Int) (b : Int) = ((c ^^^ b : Nat) : Int) := u32_xor_nat c b hc (by omega)
  have k1 : c ^^^ b < 4294967296 := Crc.xor_lt32 hc (by omega)
  obtain ⟨x, hx⟩ : ∃ x, x = c ^^^ b := ⟨_, rfl⟩
  have e : Crc.step c b = Crc.Ln 8 x := by rw [hx]; rfl
  rw [e]
  rw [← hx] at h1 k1
  have HX := Lib.hid hx; clear hx e
  go_enter Tryd.func75, Tryd.ntmps75
  go_wp2
  go_loop [0, 5, 6] (fun v i _ => ∃ k y : Nat, k ≤ 8 ∧ i = .int .i64 k ∧ v = .int .u32 y ∧ y < 4294967296 ∧ Crc.Ln (8 - k) y = Crc.Ln 8 x) (fun _ i _ => 8 - (intOf i).toNat)
  case atStart => exact ⟨0, x, by omega, rfl, rfl, k1, rfl⟩
  case round =>
    obtain ⟨k, y, hk, rfl, rfl, hy, hL⟩ := hrel
    have HL := Lib.hid hL; clear hL
    go_wp2
    · refine ⟨⟨k + 1, Crc.L y, by omega, rfl, ?_, Crc.L_lt hy, ?_⟩, by simp [intOf]; omega⟩
      · rename_i h; exact congrArg _ (L_odd hy h)
      · rw [← HL.out, Ln_less (by omega)]
    · refine ⟨⟨k + 1, Crc.L y, by omega, rfl, ?_, Crc.L_lt hy, ?_⟩, by simp [intOf]; omega⟩
      · rename_i h; exact congrArg _ (L_even h)
      · rw [← HL.out, Ln_less (by omega)]
    · go_ret
      have e : k = 8 := by omega
      subst e
      exact ⟨by rw [← HL.out]; rfl, rfl⟩
def bl (s : ByteArray) : List Nat := s.data.toList.map (·.toNat)
theorem bl_length (s : ByteArray) : (bl s).length = s.size := by
  show (s.data.toList.map _).length = s.data.size
  rw [List.length_map, Array.length_toList]
theorem bl_lt (s : ByteArray) : ∀ b ∈ bl s, b < 256 := by
  intro b hb
  simp only [bl, List.mem_map] at hb
  obtain ⟨x, _, rfl⟩ := hb
  exact x.toNat_lt
theorem byte_lt (b : UInt8) : b.toNat < 256 := b.toNat_lt
theorem bl_drop {s : ByteArray} {k : Nat} (h : k < s.size) : (bl s).drop k = s[k].toNat :: (bl s).drop (k + 1) := by
  rw [List.drop_eq_getElem_cons (by rw [bl_length]; exact h)]
  congr 1
  simp only [bl, List.getElem_map, Array.getElem_toList]
  rfl
theorem bl_end (s : ByteArray) : (bl s).drop s.size = [] := by rw [← bl_length]; exact List.drop_length
theorem S_round {s : ByteArray} {k y : Nat} (h : k < s.size) : Crc.S (Crc.step y s[k].toNat) ((bl s).drop (k + 1)) = Crc.S y ((bl s).drop k) := by
  rw [bl_drop h]; rfl
theorem T_max {c : Nat} (hc : c < 4294967296) : bits .xor .u32 IntKind.u32.max (c : Int) = ((Crc.T c : Nat) : Int) := by
  have := u32_xor_nat 4294967295 c (by omega) hc
  rw [Nat.xor_comm] at this
  exact this
set_option linter.unusedVariables false in
theorem upd_any (c : Nat) (s : ByteArray) (hc : c < 4294967296) (hs : s.size ≤ maxLen) (w : World) (ht : Tab4 w) :
    Calls Tryd.prog 54 #[.int .u32 c, .string s] w fun e w' => e = .returned (.int .u32 (Crc.upd c (bl s) : Nat)) ∧ w = w' := by
  unfold maxLen at hs
  have hsg : IntKind.u32.signed = false := rfl
  have hx := T_max hc
  have hT := Crc.T_lt hc
  go_enter Tryd.func54, Tryd.ntmps54
  go_wp2
  go_loop [0, 5, 10] (fun v _ i => ∃ k y : Nat, k ≤ s.size ∧ i = .int .i64 k ∧ v = .int .u32 y ∧ y < 4294967296 ∧ Crc.S y ((bl s).drop k) = Crc.S (Crc.T c) (bl s)) (fun _ _ i => s.size - (intOf i).toNat)
  case atStart => exact ⟨0, Crc.T c, by omega, rfl, rfl, hT, rfl⟩
  case round =>
    obtain ⟨k, y, hk, rfl, rfl, hy, hL⟩ := hrel
    have HL := Lib.hid hL; clear hL
    have hxy := T_max hy
    go_wp2_with (go_at_call 73; refine (step_any _ _ hy (byte_lt _) _ ht).mono ?_; rintro e w' ⟨rfl, rfl⟩)
    · have hlt : k < s.size := by assumption
      refine ⟨⟨k + 1, Crc.step y s[k].toNat, by omega, rfl, rfl, Crc.step_lt hy (byte_lt _), ?_⟩, by simp [intOf]; omega⟩
      rw [S_round hlt]; exact HL.out
    · go_ret
      have e : k = s.size := by omega
      have h2 := HL.out
      rw [e, bl_end] at h2
      have h3 : y = Crc.S (Crc.T c) (bl s) := h2
      exact ⟨by rw [h3]; rfl, rfl⟩
set_option linter.unusedVariables false in
theorem rupd_any (c : Nat) (s : ByteArray) (hc : c < 4294967296) (hs : s.size ≤ maxLen) (w : World) :
    Calls Tryd.prog 55 #[.int .u32 c, .string s] w fun e w' => e = .returned (.int .u32 (Crc.upd c (bl s) : Nat)) ∧ w = w' := by
  unfold maxLen at hs
  have hT := Crc.T_lt hc
  go_enter Tryd.func55, Tryd.ntmps55
  go_wp2_with (go_at_call 74; refine (turned_any _ hc _).mono ?_; rintro e w' ⟨rfl, rfl⟩)
  go_loop [0, 5] (fun v i => ∃ k y : Nat, k ≤ s.size ∧ i = .int .i64 k ∧ v = .int .u32 y ∧ y < 4294967296 ∧ Crc.S y ((bl s).drop k) = Crc.S (Crc.T c) (bl s)) (fun _ i => s.size - (intOf i).toNat)
  case atStart => exact ⟨0, Crc.T c, by omega, rfl, rfl, hT, rfl⟩
  case round =>
    obtain ⟨k, y, hk, rfl, rfl, hy, hL⟩ := hrel
    have HL := Lib.hid hL; clear hL
    go_wp2_with (first | (go_at_call 75; refine (rstep_any _ _ hy (byte_lt _) _).mono ?_; rintro e w' ⟨rfl, rfl⟩) | (go_at_call 74; refine (turned_any _ hy _).mono ?_; rintro e w' ⟨rfl, rfl⟩))
    · have hlt : k < s.size := by assumption
      refine ⟨⟨k + 1, Crc.step y s[k].toNat, by omega, rfl, rfl, Crc.step_lt hy (byte_lt _), ?_⟩, by simp [intOf]; omega⟩
      rw [S_round hlt]; exact HL.out
    · go_ret
      have e : k = s.size := by omega
      have h2 := HL.out
      rw [e, bl_end] at h2
      have h3 : y = Crc.S (Crc.T c) (bl s) := h2
      exact ⟨by rw [h3]; rfl, rfl⟩
theorem sum_any (s : ByteArray) (hs : s.size ≤ maxLen) (w : World) (ht : Tab4 w) :
    Calls Tryd.prog 30 #[.string s] w fun e w' => e = .returned (.int .u32 (Crc.upd 0 (bl s) : Nat)) ∧ w = w' := by
  go_enter Tryd.func30, Tryd.ntmps30
  go_wp2_with (go_at_call 54; refine (upd_any 0 _ (by omega) hs _ ht).mono ?_; rintro e w' ⟨rfl, rfl⟩)
  go_ret
  exact ⟨rfl, rfl⟩
theorem rsum_any (s : ByteArray) (hs : s.size ≤ maxLen) (w : World) :
    Calls Tryd.prog 32 #[.string s] w fun e w' => e = .returned (.int .u32 (Crc.upd 0 (bl s) : Nat)) ∧ w = w' := by
  go_enter Tryd.func32, Tryd.ntmps32
  go_wp2_with (go_at_call 55; refine (rupd_any 0 _ (by omega) hs _).mono ?_; rintro e w' ⟨rfl, rfl⟩)
  go_ret
  exact ⟨rfl, rfl⟩
end Go.Proofs.YtmjgbafoemdlpaaDoor
