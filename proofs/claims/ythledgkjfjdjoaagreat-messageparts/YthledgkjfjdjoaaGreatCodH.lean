/- The document's reader. Conditions: lengths below 2^40. -/
import Derived.Test.YthledgkjfjdjoaaGreatCodG
namespace Go.Proofs.YthledgkjfjdjoaaGreat
open Go.ChangeShapes Go.WideShapes Go.RowKit Go.Codec
set_option maxRecDepth 100000
/-- The document's reader: what it holds. -/
def RR (w : World) (q : Nat) (x : R) : Prop := ∃ (S : ByteArray) (p : Nat) (torn : Bool), Is w q 74 #[.string S, .int .i64 p, .bool torn] ∧ p ≤ S.size ∧ S.size ≤ 1099511627776 ∧ (torn = true → x = ⟨[], 10⟩) ∧ (torn = false → x = ⟨S.data.toList.drop p, 0⟩)
theorem RR.is {w : World} {a : Nat} {x : R} (h : RR w a x) : ∃ cs, Is w a 74 cs := by
  obtain ⟨_, _, _, h, _⟩ := h
  exact ⟨_, h⟩
theorem RR.lt {w : World} {a : Nat} {x : R} (h : RR w a x) : a < w.heap.size := by
  obtain ⟨_, h⟩ := h.is
  exact h.lt
theorem RR.kept {w w' : World} {a : Nat} {x : R} {row : Option Nat} (h : RR w a x) (hb : w.grownBy w' row) (hr : some a ≠ row) : RR w' a x := by
  obtain ⟨S, p, t, h, h2⟩ := h
  exact ⟨S, p, t, h.kept hb hr, h2⟩
theorem RR.below {w w' : World} {a : Nat} {x : R} (h : RR w a x) (hb : Below w.heap.size w w') : RR w' a x := h.kept (grow_below hb none) (by simp)
def RTook (q : Nat) (x : List UInt8) (y : R) (w : World) (e : Ending) (w' : World) : Prop := e = .returned (.string (bs x)) ∧ RR w' q y ∧ w.grownBy w' (some q)
def RGot (q : Nat) (n : Nat) (y : R) (w : World) (e : Ending) (w' : World) : Prop := e = .returned (.int .u64 (n : Nat)) ∧ RR w' q y ∧ w.grownBy w' (some q)
theorem take_zero (x : R) : x.take 0 = [] := by simp [R.take]
theorem drop_zero (x : R) : x.drop 0 = x := by simp [R.drop]
theorem grow_drew {a b : World} {r : Option Nat} (h : a.grownBy b r) (n : Nat) : a.grownBy (b.drewN n) r := ⟨h.os, h.tape, h.output, h.size, h.block⟩
theorem rfix_small (q : Nat) (x : R) (n : Int) (hn : n ≤ 0) (w : World) (h : RR w q x) : Calls Tryz.prog 74 #[.pointer (some ⟨q, 0, none⟩), .int .i64 n] w (RTook q [] x w) := by
  have HR := Lib.hid h
  obtain ⟨S, p, torn, h0, -⟩ := h
  have c0 := h0.cell 0; have c1 := h0.cell 1; have c2 := h0.cell 2
  simp at c0 c1 c2
  have hlt := h0.lt
  clear h0
  cases torn
  · go_enter Tryz.func74, Tryz.ntmps74
    go_wp2
    go_ret
    exact ⟨rfl, HR.out, World.grownBy.refl _ _⟩
  · go_enter Tryz.func74, Tryz.ntmps74
    go_wp2
    go_ret
    exact ⟨rfl, HR.out, World.grownBy.refl _ _⟩
theorem rfix_torn (q : Nat) (S : ByteArray) (p : Nat) (n : Int) (hp : p ≤ S.size) (hS : S.size ≤ 1099511627776) (w : World) (h : Is w q 74 #[.string S, .int .i64 p, .bool true]) : Calls Tryz.prog 74 #[.pointer (some ⟨q, 0, none⟩), .int .i64 n] w (RTook q [] ⟨[], 10⟩ w) := by
  have HR := Lib.hid h
  have c0 := h.cell 0; have c1 := h.cell 1; have c2 := h.cell 2
  simp at c0 c1 c2
  have hlt := h.lt
  clear h
  go_enter Tryz.func74, Tryz.ntmps74
  go_wp2
  go_ret
  exact ⟨rfl, ⟨S, p, true, HR.out, hp, hS, fun _ => rfl, fun e => by cases e⟩, World.grownBy.refl _ _⟩
theorem rfix_short (q : Nat) (S : ByteArray) (p : Nat) (n : Int) (hn : 0 < n) (hp : p ≤ S.size) (hS : S.size ≤ 1099511627776) (hl : (S.size : Int) - p < n) (w : World) (h : Is w q 74 #[.string S, .int .i64 p, .bool false]) : Calls Tryz.prog 74 #[.pointer (some ⟨q, 0, none⟩), .int .i64 n] w (RTook q [] ⟨[], 10⟩ w) := by
  have HR := Lib.hid h
  have c0 := h.cell 0; have c1 := h.cell 1; have c2 := h.cell 2
  simp at c0 c1 c2
  have f2 := h.frozen 2
  have hlt := h.lt
  clear h
  go_enter Tryz.func74, Tryz.ntmps74
  go_wp2
  go_quiet (fail)
  go_wp2
  go_ret
  refine ⟨rfl, ⟨S, p, true, ?_, hp, hS, fun _ => rfl, fun e => by cases e⟩, grow_set (grow_drew (World.grownBy.refl w _) _) 2 _⟩
  have h1 : Is (w.drewN nq) q 74 #[.string S, .int .i64 p, .bool false] := HR.out
  exact h1.put 2 (.bool true)
theorem rfix_long (q : Nat) (S : ByteArray) (p n m : Nat) (hn : 0 < n) (hS : S.size ≤ 1099511627776) (hl : m ≤ S.size) (hm : p + n = m) (w : World) (h : Is w q 74 #[.string S, .int .i64 p, .bool false]) : Calls Tryz.prog 74 #[.pointer (some ⟨q, 0, none⟩), .int .i64 n] w fun e w' => e = .returned (.string (S.extract p m)) ∧ ∃ j k, w' = ((w.drewN j).setCell ⟨q, 1, none⟩ (.int .i64 m)).drewN k := by
  have c0 := h.cell 0; have c1 := h.cell 1; have c2 := h.cell 2
  simp at c0 c1 c2
  have f1 := h.frozen 1
  have hlt := h.lt
  clear h
  have hpm : p ≤ m := by omega
  have hps : p ≤ S.size := by omega
  have e1 : (p : Int) + (n : Int) = (m : Int) := by omega
  have e2 : (m : Int) - (n : Int) = (p : Int) := by omega
  have hw1 : IntKind.i64.wrap (p : Int) = (p : Int) := IntWalk.i64_in _ ⟨by omega, by omega⟩
  have hw2 : IntKind.i64.wrap (m : Int) = (m : Int) := IntWalk.i64_in _ ⟨by omega, by omega⟩
  clear hm
  have E1 := Lib.hid e1; have E2 := Lib.hid e2; have W1 := Lib.hid hw1; have W2 := Lib.hid hw2
  clear e1 e2 hw1 hw2
  have hd : decide ((S.size : Int) - (p : Int) < (n : Int)) = false := by have := E1.out; simp; omega
  go_enter Tryz.func74, Tryz.ntmps74
  go_wp2
  go_quiet (fail)
  clear hd
  have e1 := E1.out; have hw2 := W2.out
  go_wp2
  clear e1
  have e2 := E2.out; have hw1 := W1.out
  go_quiet (fail)
  clear e2 hw1 hw2
  go_wp2
  go_ret
  exact ⟨rfl, _, _, rfl⟩
theorem rfix_any (q : Nat) (x : R) (n : Nat) (m : Int) (hm : m < 0 ∧ n = 0 ∨ m = n) (w : World) (h : RR w q x) : Calls Tryz.prog 74 #[.pointer (some ⟨q, 0, none⟩), .int .i64 m] w (RTook q (x.take n) (x.drop n) w) := by
  by_cases h0 : m ≤ 0
  · have : n = 0 := by omega
    subst this
    rw [take_zero, drop_zero]
    exact rfix_small q x m h0 w h
  · obtain rfl : m = n := by omega
    obtain ⟨S, p, torn, hi, hp, hS, ht, hf⟩ := h
    cases torn with
    | true =>
      rw [ht rfl]
      have e1 : (⟨[], 10⟩ : R).take n = [] := by simp [R.take]
      have e2 : (⟨[], 10⟩ : R).drop n = ⟨[], 10⟩ := by simp [R.drop]
      rw [e1, e2]
      exact rfix_torn q S p n hp hS w hi
    | false =>
      rw [hf rfl]
      unfold R.take R.drop
      simp only [List.length_drop]
      rw [← Lib.size_eq]
      by_cases hl : n ≤ S.size - p
      · rw [if_pos hl, if_pos hl]
        refine (rfix_long q S p n (p + n) (by omega) hS (by omega) rfl w hi).mono fun e w' ⟨he, j, k, hw⟩ => ⟨?_, ?_, ?_⟩
        · rw [he, Lib.extract_eq, Nat.add_sub_cancel_left]; rfl
        · rw [hw]
          refine ⟨S, p + n, false, ?_, by omega, hS, (fun e => by cases e), fun _ => ?_⟩
          · have h1 : Is (w.drewN j) q 74 #[.string S, .int .i64 p, .bool false] := hi
            exact h1.put 1 (.int .i64 (p + n : Nat))
          · rw [List.drop_drop]
        · rw [hw]
          exact grow_drew (grow_set (grow_drew (World.grownBy.refl w _) _) 1 _) _
      · rw [if_neg hl, if_neg hl]
        exact rfix_short q S p n (by omega) hp hS (by omega) w hi
theorem rrest_any (q : Nat) (x : R) (w : World) (h : RR w q x) : Calls Tryz.prog 46 #[.pointer (some ⟨q, 0, none⟩)] w fun e w' => e = .returned (.string (bs x.rest)) ∧ ∃ j, w' = w.drewN j := by
  obtain ⟨S, p, torn, h0, hp, hS, ht, hf⟩ := h
  have c0 := h0.cell 0; have c1 := h0.cell 1; have c2 := h0.cell 2
  simp at c0 c1 c2
  have hlt := h0.lt
  clear h0
  cases torn
  · have e := hf rfl
    clear hf ht
    subst e
    have HE := Lib.hid (Lib.extract_eq S p S.size)
    go_enter Tryz.func46, Tryz.ntmps46
    go_wp2
    go_quiet (fail)
    go_wp2
    go_ret
    refine ⟨?_, _, rfl⟩
    show Ending.returned (.string _) = _
    rw [HE.out, List.take_of_length_le (by rw [List.length_drop, ← Lib.size_eq]; omega)]
    rfl
  · have e := ht rfl
    clear hf ht
    subst e
    go_enter Tryz.func46, Tryz.ntmps46
    go_wp2
    go_ret
    exact ⟨rfl, 0, rfl⟩
theorem val_take_lt (s : ByteArray) (k : Nat) (hk : k ≤ 8) : val (s.data.toList.take k) < 18446744073709551616 := by
  have h1 := val_lt (s.data.toList.take k)
  have h2 : 256 ^ (s.data.toList.take k).length ≤ 256 ^ 8 := Nat.pow_le_pow_right (by decide) (by have := List.length_take_le k s.data.toList; omega)
  have h3 : 256 ^ 8 = 18446744073709551616 := by decide
  omega
theorem rrnum_any (q : Nat) (x : R) (width : Nat) (hw : width ≤ 8) (w : World) (h : RR w q x) : Calls Tryz.prog 73 #[.pointer (some ⟨q, 0, none⟩), .int .i64 width] w (RGot q (val (x.take width)) (x.drop width) w) := by
  have hf := rfix_any q x width width (.inr rfl) w h
  have hxl : (x.take width).length ≤ 8 := by have := take_len x width; omega
  generalize x.take width = y at *
  generalize x.drop width = z at *
  clear h
  obtain ⟨s, rfl⟩ : ∃ s : ByteArray, y = s.data.toList := ⟨bs y, (bs_list y).symm⟩
  unfold RTook at hf
  rw [list_bs] at hf
  rw [← Lib.size_eq] at hxl
  have HF := Lib.hid hf; clear hf
  go_enter Tryz.func73, Tryz.ntmps73
  go_wp2_with (go_at_call 74; refine HF.out.mono ?_; rintro e w' ⟨rfl, h1, h2⟩; have HA := Lib.hid h1; have HB := Lib.hid h2; clear h1 h2)
  go_loop [6, 7] (fun n i => ∃ k : Nat, k ≤ s.size ∧ i = .int .i64 k ∧ n = .int .u64 (val (s.data.toList.take k) : Nat)) (fun _ i => s.size - (intOf i).toNat)
  case atStart => exact ⟨0, by omega, rfl, by simp [val]⟩
  case round =>
    obtain ⟨k, hk, rfl, rfl⟩ := hrel
    by_cases hlt : k < s.size
    · have hv := val_take_lt s (k + 1) (by omega)
      have he := val_snoc (s.data.toList.take k) s[k]
      rw [← take_snoc s k hlt] at he
      rw [he] at hv
      have HE := Lib.hid he; clear he
      have hb : s[k].toNat < 256 := s[k].toNat_lt
      generalize val (s.data.toList.take k) = m at *
      go_wp2
      refine ⟨⟨k + 1, by omega, by go_num, ?_⟩, ?_⟩
      · rw [HE.out]; simp
      · simp [intOf]; omega
    · obtain rfl : k = s.size := by omega
      go_wp2
      go_ret
      refine ⟨?_, HA.out, HB.out⟩
      show Ending.returned (.int .u64 _) = _
      rw [Lib.size_eq, List.take_length]
theorem rrtext_any (q : Nat) (x : R) (w : World) (h : RR w q x) : Calls Tryz.prog 45 #[.pointer (some ⟨q, 0, none⟩)] w (RTook q x.text x.behind w) := by
  have hn : val (x.take 2) < 65536 := by
    have h1 := val_lt (x.take 2)
    have h2 : 256 ^ (x.take 2).length ≤ 256 ^ 2 := Nat.pow_le_pow_right (by decide) (take_len x 2)
    omega
  have H1 := Lib.hid (rrnum_any q x 2 (by omega) w h)
  have H2 := Lib.hid (fun w' h' => rfix_any q (x.drop 2) (val (x.take 2)) (val (x.take 2) : Nat) (.inr rfl) w' h')
  clear h
  unfold R.text R.behind
  generalize val (x.take 2) = n at *
  generalize x.drop 2 = y at *
  go_enter Tryz.func45, Tryz.ntmps45
  go_wp2_with (first | (go_at_call 73; refine H1.out.mono ?_; rintro e w' ⟨rfl, h1, h2⟩; have HA := Lib.hid h1; have HB := Lib.hid h2; clear h1 h2) | (go_at_call 74; refine (H2.out _ HA.out).mono ?_; rintro e w'' ⟨rfl, h1, h2⟩))
  go_ret
  exact ⟨rfl, h1, grow_trans HB.out h2⟩
end Go.Proofs.YthledgkjfjdjoaaGreat
