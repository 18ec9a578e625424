/- The reader: what it holds, and what its methods make of that. Conditions: lengths below 2^40. -/
import Derived.Test.YtlidieffaaicaaaGreatCodD
import Derived.Laws.BitsAllLaws
namespace Go.Proofs.YtlidieffaaicaaaGreat
open Go.ChangeShapes Go.WideShapes Go.RowKit Go.Codec
set_option maxRecDepth 100000
/-- A reader: what is left, and its error. -/
structure R where
  rest : List UInt8
  er : Int
def Rd (w : World) (r : Nat) (x : R) : Prop := Is w r 138 #[.string (bs x.rest), .int .i64 x.er]
/-- The next n bytes, and what is left. -/
def R.take (x : R) (n : Nat) : List UInt8 := if n ≤ x.rest.length then x.rest.take n else []
def R.drop (x : R) (n : Nat) : R := if n ≤ x.rest.length then ⟨x.rest.drop n, x.er⟩ else ⟨[], 10⟩
/-- A text was read: x, and the reader is y then. -/
def Took (r : Nat) (x : List UInt8) (y : R) (w : World) (e : Ending) (w' : World) : Prop := e = .returned (.string (bs x)) ∧ Rd w' r y ∧ w.grownBy w' (some r)
/-- A number was read. -/
def Got (k : IntKind) (r : Nat) (n : Nat) (y : R) (w : World) (e : Ending) (w' : World) : Prop := e = .returned (.int k (n : Nat)) ∧ Rd w' r y ∧ w.grownBy w' (some r)
theorem rfail_any (r : Nat) (x : R) (w : World) (h : Rd w r x) :
    Calls Tryz.prog 108 #[.pointer (some ⟨r, 0, none⟩), .int .i64 10] w fun e w' => e = .returned (.tuple #[]) ∧ Rd w' r ⟨[], 10⟩ ∧ w.grownBy w' (some r) := by
  have c0 := h.cell 0; have c1 := h.cell 1
  simp at c0 c1
  have f0 := h.frozen 0; have f1 := h.frozen 1
  have hlt := h.lt
  have HW := Lib.hid h; clear h
  go_enter Tryz.func108, Tryz.ntmps108
  go_wp2
  go_end0
  refine ⟨rfl, ?_, grow_set (grow_set (World.grownBy.refl w _) 0 _) 1 _⟩
  have h1 := (Is.put (Is.put HW.out 0 (.string ⟨#[]⟩)) 1 (.int .i64 10))
  simp at h1
  exact h1
theorem fixed_core (r : Nat) (s : ByteArray) (er : Int) (n : Nat) (m : Int) (hm : m < 0 ∧ n = 0 ∨ m = n) (hn : n ≤ s.size) (w : World) (h : Is w r 138 #[.string s, .int .i64 er]) :
    Calls Tryz.prog 80 #[.pointer (some ⟨r, 0, none⟩), .int .i64 m] w fun e w' => e = .returned (.string (s.extract 0 n)) ∧ w.setCell ⟨r, 0, none⟩ (.string (s.extract n s.size)) = w' := by
  have c0 := h.cell 0; have c1 := h.cell 1
  simp at c0 c1
  have f0 := h.frozen 0
  have hlt := h.lt
  have HW := Lib.hid h; clear h
  rcases hm with ⟨hm, rfl⟩ | rfl
  · go_enter Tryz.func80, Tryz.ntmps80
    go_wp2
    go_ret
    exact ⟨by rw [ByteArray.extract_same]; rfl, by rw [ByteArray.extract_zero_size]⟩
  · go_enter Tryz.func80, Tryz.ntmps80
    go_wp2
    go_ret
    exact ⟨rfl, rfl⟩
theorem fixed_torn (r : Nat) (x : R) (n : Int) (hn : (x.rest.length : Int) < n) (hs : x.rest.length ≤ 1099511627776) (w : World) (h : Rd w r x) :
    Calls Tryz.prog 80 #[.pointer (some ⟨r, 0, none⟩), .int .i64 n] w (Took r [] ⟨[], 10⟩ w) := by
  have c0 := h.cell 0; have c1 := h.cell 1
  simp at c0 c1
  have hlt := h.lt
  have HF := Lib.hid (rfail_any r x w h)
  obtain ⟨s, hs'⟩ : ∃ s, s = bs x.rest := ⟨_, rfl⟩
  have hsz : s.size = x.rest.length := by rw [hs', bs_size]
  rw [← hs'] at c0
  rw [← hsz] at hn hs
  have HS := Lib.hid hs'; clear hs' h hsz
  go_enter Tryz.func80, Tryz.ntmps80
  go_wp2_with (go_at_call 108; refine HF.out.mono ?_; rintro e w' ⟨rfl, h1, h2⟩)
  go_ret
  exact ⟨rfl, h1, h2⟩
theorem fixed_any (r : Nat) (x : R) (n : Nat) (m : Int) (hm : m < 0 ∧ n = 0 ∨ m = n) (hs : x.rest.length ≤ 1099511627776) (w : World) (h : Rd w r x) :
    Calls Tryz.prog 80 #[.pointer (some ⟨r, 0, none⟩), .int .i64 m] w (Took r (x.take n) (x.drop n) w) := by
  unfold R.take R.drop
  by_cases hn : n ≤ x.rest.length
  · rw [if_pos hn, if_pos hn]
    refine (fixed_core r (bs x.rest) x.er n m hm (by rw [bs_size]; exact hn) w h).mono fun e w' ⟨he, hw⟩ => ⟨?_, ?_, ?_⟩
    · rw [he, bs_extract]; simp
    · rw [← hw, bs_extract, bs_size]
      have h1 := Is.put h 0 (.string (bs ((x.rest.drop n).take (x.rest.length - n))))
      rw [List.take_of_length_le (by simp)] at h1 ⊢
      exact h1
    · rw [← hw]; exact grow_set (World.grownBy.refl w _) 0 _
  · rw [if_neg hn, if_neg hn]
    exact fixed_torn r x m (by omega) hs w h
theorem err_any (r : Nat) (x : R) (w : World) (h : Rd w r x) : Calls Tryz.prog 82 #[.pointer (some ⟨r, 0, none⟩)] w fun e w' => e = .returned (.int .i64 x.er) ∧ w = w' := by
  have c0 := h.cell 0; have c1 := h.cell 1
  simp at c0 c1
  have hlt := h.lt
  have HW := Lib.hid h; clear h
  go_enter Tryz.func82, Tryz.ntmps82
  go_wp2
  go_ret
  exact ⟨rfl, rfl⟩
theorem rest_any (r : Nat) (x : R) (w : World) (h : Rd w r x) : Calls Tryz.prog 81 #[.pointer (some ⟨r, 0, none⟩)] w fun e w' => e = .returned (.string (bs x.rest)) ∧ w = w' := by
  have c0 := h.cell 0; have c1 := h.cell 1
  simp at c0 c1
  have hlt := h.lt
  have HW := Lib.hid h; clear h
  go_enter Tryz.func81, Tryz.ntmps81
  go_wp2
  go_ret
  exact ⟨rfl, rfl⟩
theorem new_any (s : ByteArray) (hs : s.size ≤ 1099511627776) (w : World) : Calls Tryz.prog 51 #[.string s] w fun e w' => ∃ r, e = .returned (.pointer (some ⟨r, 0, none⟩)) ∧ w.heap.size ≤ r ∧ Rd w' r ⟨s.data.toList, 0⟩ ∧ Below w.heap.size w w' := by
  have H := Lib.hid (clone s hs w)
  go_enter Tryz.func51, Tryz.ntmps51
  go_wp2_with (go_at_call 84; refine H.out.mono ?_; rintro e w' ⟨rfl, hb⟩; have HB := Lib.hid hb; clear hb)
  go_ret
  refine ⟨w'.heap.size, rfl, HB.out.size, ?_, HB.out.alloc HB.out.size _⟩
  have := Is.new w' 138 #[.string s, .int .i64 0]
  unfold Rd
  rw [list_bs]
  exact this
theorem take_snoc (s : ByteArray) (k : Nat) (h : k < s.size) : s.data.toList.take (k + 1) = s.data.toList.take k ++ [s[k]] := by
  rw [List.take_succ_eq_append_getElem (by simpa using h)]; rfl
/-- What one more byte of a text of at most W bytes makes of the number so far. -/
theorem or_bounds (s : ByteArray) (k W : Nat) (hk : k < s.size) (hs : s.size ≤ W) :
    val (s.data.toList.take k) * 256 ^ (s.size - k) < 256 ^ W ∧ s[k].toNat * 2 ^ (8 * (s.size - 1 - k)) < 256 ^ W ∧
    (val (s.data.toList.take k) * 256 ^ (s.size - k) ||| s[k].toNat * 2 ^ (8 * (s.size - 1 - k))) = val (s.data.toList.take (k + 1)) * 256 ^ (s.size - (k + 1)) := by
  have e : s.size - k = (s.size - 1 - k) + 1 := by omega
  have e2 : s.size - (k + 1) = s.size - 1 - k := by omega
  have hl : (s.data.toList.take k).length = k := by rw [List.length_take, ← Lib.size_eq]; omega
  have hv := val_lt (s.data.toList.take k)
  rw [hl] at hv
  have hp : ∀ n, 0 < 256 ^ n := fun n => Nat.pow_pos (by decide)
  refine ⟨?_, ?_, ?_⟩
  · have h1 : 256 ^ k * 256 ^ (s.size - k) = 256 ^ s.size := by rw [← Nat.pow_add]; congr 1; omega
    have h2 : 256 ^ s.size ≤ 256 ^ W := Nat.pow_le_pow_right (by decide) hs
    have h3 : val (s.data.toList.take k) * 256 ^ (s.size - k) < 256 ^ k * 256 ^ (s.size - k) := Nat.mul_lt_mul_of_pos_right hv (hp _)
    omega
  · rw [← pow_eight]
    have hb : s[k].toNat < 256 := s[k].toNat_lt
    have h1 : 256 * 256 ^ (s.size - 1 - k) = 256 ^ (s.size - 1 - k + 1) := by rw [Nat.pow_succ, Nat.mul_comm]
    have h2 : 256 ^ (s.size - 1 - k + 1) ≤ 256 ^ W := Nat.pow_le_pow_right (by decide) (by omega)
    have h3 : s[k].toNat * 256 ^ (s.size - 1 - k) < 256 * 256 ^ (s.size - 1 - k) := Nat.mul_lt_mul_of_pos_right hb (hp _)
    omega
  · rw [← pow_eight, e, e2, take_snoc s k hk]
    exact val_or _ _ _
theorem or_step64 (s : ByteArray) (k : Nat) (hk : k < s.size) (hs : s.size ≤ 8) :
    bits .or .u64 ((val (s.data.toList.take k) * 256 ^ (s.size - k) : Nat) : Int) (IntKind.u64.wrap ((s[k].toNat : Int) * 2 ^ (8 * (s.size - 1 - k)))) = ((val (s.data.toList.take (k + 1)) * 256 ^ (s.size - (k + 1)) : Nat) : Int) := by
  obtain ⟨h1, h2, h3⟩ := or_bounds s k 8 hk hs
  have e : (s[k].toNat : Int) * 2 ^ (8 * (s.size - 1 - k)) = ((s[k].toNat * 2 ^ (8 * (s.size - 1 - k)) : Nat) : Int) := by simp
  rw [e]
  rw [← h3]
  generalize s[k].toNat * 2 ^ (8 * (s.size - 1 - k)) = b at *
  generalize val (s.data.toList.take k) * 256 ^ (s.size - k) = m at *
  have hW : 256 ^ 8 = 18446744073709551616 := by decide
  rw [hW] at h1 h2
  have e2 : IntKind.u64.wrap (b : Int) = (b : Int) := by rw [IntKind.wrap_u64]; omega
  rw [e2, u64_or_nat m b h1 h2]
set_option maxHeartbeats 1000000 in
theorem get64_any (r : Nat) (x : R) (hs : x.rest.length ≤ 1099511627776) (w : World) (h : Rd w r x) : Calls Tryz.prog 85 #[.pointer (some ⟨r, 0, none⟩)] w (Got .u64 r (val (x.take 8)) (x.drop 8) w) := by
  have hf := fixed_any r x 8 8 (.inr rfl) hs w h
  have hxl : (x.take 8).length ≤ 8 := by unfold R.take; split <;> simp; omega
  generalize x.take 8 = y at *
  generalize x.drop 8 = z at *
  clear h
  obtain ⟨s, rfl⟩ : ∃ s : ByteArray, y = s.data.toList := ⟨bs y, (bs_list y).symm⟩
  unfold Took at hf
  rw [list_bs] at hf
  rw [← Lib.size_eq] at hxl
  have HF := Lib.hid hf; clear hf
  go_enter Tryz.func85, Tryz.ntmps85
  go_wp2_with (first | (go_at_call 112; refine (width64 _).mono ?_; rintro e w' ⟨rfl, rfl⟩) | (go_at_call 80; refine HF.out.mono ?_; rintro e w' ⟨rfl, h1, h2⟩; have HA := Lib.hid h1; have HB := Lib.hid h2; clear h1 h2))
  go_loopw [4, 12] (fun n i W => ∃ k : Nat, k ≤ s.size ∧ i = .int .i64 k ∧ n = .int .u64 (val (s.data.toList.take k) * 256 ^ (s.size - k) : Nat) ∧ Rd W r z ∧ w.grownBy W (some r)) (fun _ i _ => s.size - (intOf i).toNat)
  case atStart => exact ⟨0, by omega, rfl, by simp [val], HA.out, HB.out⟩
  case round =>
    obtain ⟨k, hk, rfl, rfl, h1, h2⟩ := hrel
    have H1 := Lib.hid h1; have H2 := Lib.hid h2; clear h1 h2 HA HB
    by_cases hlt : k < s.size
    · have ho := or_step64 s k hlt hxl
      generalize val (s.data.toList.take k) * 256 ^ (s.size - k) = m at *
      have HO := Lib.hid ho; clear ho
      have hwr : IntKind.u64.wrap (s[k].toNat : Int) = (s[k].toNat : Int) := by
        have := s[k].toNat_lt
        rw [IntKind.wrap_u64]; omega
      go_wp2
      go_quiet ((exact Calls.quiet_of_same ((behind s.size k hlt (by omega) _).mono fun _ _ hh => ⟨hh.1, hh.2.symm⟩)))
      rw [HO.out]
      clear hwr HO
      go_wp2
      refine ⟨⟨k + 1, by omega, by go_num, rfl, H1.out, ?_⟩, ?_⟩
      · exact ⟨H2.out.os, H2.out.tape, H2.out.output, H2.out.size, H2.out.block⟩
      · simp [intOf]; omega
    · obtain rfl : k = s.size := by omega
      go_wp2
      go_ret
      refine ⟨?_, H1.out, H2.out⟩
      show Ending.returned (.int .u64 _) = _
      rw [Lib.size_eq, List.take_length, Nat.sub_self, Nat.pow_zero, Nat.mul_one]
set_option maxHeartbeats 1000000 in
theorem or_step16 (s : ByteArray) (k : Nat) (hk : k < s.size) (hs : s.size ≤ 2) :
    bits .or .u16 ((val (s.data.toList.take k) * 256 ^ (s.size - k) : Nat) : Int) (IntKind.u16.wrap ((s[k].toNat : Int) * 2 ^ (8 * (s.size - 1 - k)))) = ((val (s.data.toList.take (k + 1)) * 256 ^ (s.size - (k + 1)) : Nat) : Int) := by
  obtain ⟨h1, h2, h3⟩ := or_bounds s k 2 hk hs
  have e : (s[k].toNat : Int) * 2 ^ (8 * (s.size - 1 - k)) = ((s[k].toNat * 2 ^ (8 * (s.size - 1 - k)) : Nat) : Int) := by simp
  rw [e]
  rw [← h3]
  generalize s[k].toNat * 2 ^ (8 * (s.size - 1 - k)) = b at *
  generalize val (s.data.toList.take k) * 256 ^ (s.size - k) = m at *
  have hW : 256 ^ 2 = 65536 := by decide
  rw [hW] at h1 h2
  have e2 : IntKind.u16.wrap (b : Int) = (b : Int) := by rw [IntKind.wrap_u16]; omega
  rw [e2, u16_or_nat m b h1 h2]
set_option maxHeartbeats 1000000 in
theorem get16_any (r : Nat) (x : R) (hs : x.rest.length ≤ 1099511627776) (w : World) (h : Rd w r x) : Calls Tryz.prog 86 #[.pointer (some ⟨r, 0, none⟩)] w (Got .u16 r (val (x.take 2)) (x.drop 2) w) := by
  have hf := fixed_any r x 2 2 (.inr rfl) hs w h
  have hxl : (x.take 2).length ≤ 2 := by unfold R.take; split <;> simp; omega
  generalize x.take 2 = y at *
  generalize x.drop 2 = z at *
  clear h
  obtain ⟨s, rfl⟩ : ∃ s : ByteArray, y = s.data.toList := ⟨bs y, (bs_list y).symm⟩
  unfold Took at hf
  rw [list_bs] at hf
  rw [← Lib.size_eq] at hxl
  have HF := Lib.hid hf; clear hf
  go_enter Tryz.func86, Tryz.ntmps86
  go_wp2_with (first | (go_at_call 114; refine (width16 _).mono ?_; rintro e w' ⟨rfl, rfl⟩) | (go_at_call 80; refine HF.out.mono ?_; rintro e w' ⟨rfl, h1, h2⟩; have HA := Lib.hid h1; have HB := Lib.hid h2; clear h1 h2))
  go_loopw [4, 12] (fun n i W => ∃ k : Nat, k ≤ s.size ∧ i = .int .i64 k ∧ n = .int .u16 (val (s.data.toList.take k) * 256 ^ (s.size - k) : Nat) ∧ Rd W r z ∧ w.grownBy W (some r)) (fun _ i _ => s.size - (intOf i).toNat)
  case atStart => exact ⟨0, by omega, rfl, by simp [val], HA.out, HB.out⟩
  case round =>
    obtain ⟨k, hk, rfl, rfl, h1, h2⟩ := hrel
    have H1 := Lib.hid h1; have H2 := Lib.hid h2; clear h1 h2 HA HB
    by_cases hlt : k < s.size
    · have ho := or_step16 s k hlt hxl
      generalize val (s.data.toList.take k) * 256 ^ (s.size - k) = m at *
      have HO := Lib.hid ho; clear ho
      have hwr : IntKind.u16.wrap (s[k].toNat : Int) = (s[k].toNat : Int) := by
        have := s[k].toNat_lt
        rw [IntKind.wrap_u16]; omega
      go_wp2
      go_quiet ((exact Calls.quiet_of_same ((behind s.size k hlt (by omega) _).mono fun _ _ hh => ⟨hh.1, hh.2.symm⟩)))
      rw [HO.out]
      clear hwr HO
      go_wp2
      refine ⟨⟨k + 1, by omega, by go_num, rfl, H1.out, ?_⟩, ?_⟩
      · exact ⟨H2.out.os, H2.out.tape, H2.out.output, H2.out.size, H2.out.block⟩
      · simp [intOf]; omega
    · obtain rfl : k = s.size := by omega
      go_wp2
      go_ret
      refine ⟨?_, H1.out, H2.out⟩
      show Ending.returned (.int .u16 _) = _
      rw [Lib.size_eq, List.take_length, Nat.sub_self, Nat.pow_zero, Nat.mul_one]
theorem or_step32 (s : ByteArray) (k : Nat) (hk : k < s.size) (hs : s.size ≤ 4) :
    bits .or .u32 ((val (s.data.toList.take k) * 256 ^ (s.size - k) : Nat) : Int) (IntKind.u32.wrap ((s[k].toNat : Int) * 2 ^ (8 * (s.size - 1 - k)))) = ((val (s.data.toList.take (k + 1)) * 256 ^ (s.size - (k + 1)) : Nat) : Int) := by
  obtain ⟨h1, h2, h3⟩ := or_bounds s k 4 hk hs
  have e : (s[k].toNat : Int) * 2 ^ (8 * (s.size - 1 - k)) = ((s[k].toNat * 2 ^ (8 * (s.size - 1 - k)) : Nat) : Int) := by simp
  rw [e]
  rw [← h3]
  generalize s[k].toNat * 2 ^ (8 * (s.size - 1 - k)) = b at *
  generalize val (s.data.toList.take k) * 256 ^ (s.size - k) = m at *
  have hW : 256 ^ 4 = 4294967296 := by decide
  rw [hW] at h1 h2
  have e2 : IntKind.u32.wrap (b : Int) = (b : Int) := by rw [IntKind.wrap_u32]; omega
  rw [e2, u32_or_nat m b h1 h2]
set_option maxHeartbeats 1000000 in
theorem get32_any (r : Nat) (x : R) (hs : x.rest.length ≤ 1099511627776) (w : World) (h : Rd w r x) : Calls Tryz.prog 107 #[.pointer (some ⟨r, 0, none⟩)] w (Got .u32 r (val (x.take 4)) (x.drop 4) w) := by
  have hf := fixed_any r x 4 4 (.inr rfl) hs w h
  have hxl : (x.take 4).length ≤ 4 := by unfold R.take; split <;> simp; omega
  generalize x.take 4 = y at *
  generalize x.drop 4 = z at *
  clear h
  obtain ⟨s, rfl⟩ : ∃ s : ByteArray, y = s.data.toList := ⟨bs y, (bs_list y).symm⟩
  unfold Took at hf
  rw [list_bs] at hf
  rw [← Lib.size_eq] at hxl
  have HF := Lib.hid hf; clear hf
  go_enter Tryz.func107, Tryz.ntmps107
  go_wp2_with (first | (go_at_call 132; refine (width32 _).mono ?_; rintro e w' ⟨rfl, rfl⟩) | (go_at_call 80; refine HF.out.mono ?_; rintro e w' ⟨rfl, h1, h2⟩; have HA := Lib.hid h1; have HB := Lib.hid h2; clear h1 h2))
  go_loopw [4, 12] (fun n i W => ∃ k : Nat, k ≤ s.size ∧ i = .int .i64 k ∧ n = .int .u32 (val (s.data.toList.take k) * 256 ^ (s.size - k) : Nat) ∧ Rd W r z ∧ w.grownBy W (some r)) (fun _ i _ => s.size - (intOf i).toNat)
  case atStart => exact ⟨0, by omega, rfl, by simp [val], HA.out, HB.out⟩
  case round =>
    obtain ⟨k, hk, rfl, rfl, h1, h2⟩ := hrel
    have H1 := Lib.hid h1; have H2 := Lib.hid h2; clear h1 h2 HA HB
    by_cases hlt : k < s.size
    · have ho := or_step32 s k hlt hxl
      generalize val (s.data.toList.take k) * 256 ^ (s.size - k) = m at *
      have HO := Lib.hid ho; clear ho
      have hwr : IntKind.u32.wrap (s[k].toNat : Int) = (s[k].toNat : Int) := by
        have := s[k].toNat_lt
        rw [IntKind.wrap_u32]; omega
      go_wp2
      go_quiet ((exact Calls.quiet_of_same ((behind s.size k hlt (by omega) _).mono fun _ _ hh => ⟨hh.1, hh.2.symm⟩)))
      have ho := HO.out
      rw [IntKind.wrap_u32] at ho
      rw [ho]
      clear ho
      clear hwr HO
      go_wp2
      refine ⟨⟨k + 1, by omega, by go_num, rfl, H1.out, ?_⟩, ?_⟩
      · exact ⟨H2.out.os, H2.out.tape, H2.out.output, H2.out.size, H2.out.block⟩
      · simp [intOf]; omega
    · obtain rfl : k = s.size := by omega
      go_wp2
      go_ret
      refine ⟨?_, H1.out, H2.out⟩
      show Ending.returned (.int .u32 _) = _
      rw [Lib.size_eq, List.take_length, Nat.sub_self, Nat.pow_zero, Nat.mul_one]
end Go.Proofs.YtlidieffaaicaaaGreat
