/- The reader's methods; writers and readers that are none. Conditions: lengths below 2^40. -/
import Derived.Test.YtlidieffaaicaaaGreatCodE
namespace Go.Proofs.YtlidieffaaicaaaGreat
open Go.ChangeShapes Go.WideShapes Go.RowKit Go.Codec
set_option maxRecDepth 100000
theorem ru16_any (r : Nat) (x : R) (hs : x.rest.length ≤ 1099511627776) (w : World) (h : Rd w r x) : Calls Tryz.prog 53 #[.pointer (some ⟨r, 0, none⟩)] w (Got .u16 r (val (x.take 2)) (x.drop 2) w) := by
  have H := Lib.hid (get16_any r x hs w h); clear h
  go_enter Tryz.func53, Tryz.ntmps53
  go_wp2_with (go_at_call 86; refine H.out.mono ?_; rintro e w' ⟨rfl, h1, h2⟩)
  go_ret
  exact ⟨rfl, h1, h2⟩
theorem ru32_any (r : Nat) (x : R) (hs : x.rest.length ≤ 1099511627776) (w : World) (h : Rd w r x) : Calls Tryz.prog 78 #[.pointer (some ⟨r, 0, none⟩)] w (Got .u32 r (val (x.take 4)) (x.drop 4) w) := by
  have H := Lib.hid (get32_any r x hs w h); clear h
  go_enter Tryz.func78, Tryz.ntmps78
  go_wp2_with (go_at_call 107; refine H.out.mono ?_; rintro e w' ⟨rfl, h1, h2⟩)
  go_ret
  exact ⟨rfl, h1, h2⟩
theorem ru64_any (r : Nat) (x : R) (hs : x.rest.length ≤ 1099511627776) (w : World) (h : Rd w r x) : Calls Tryz.prog 52 #[.pointer (some ⟨r, 0, none⟩)] w (Got .u64 r (val (x.take 8)) (x.drop 8) w) := by
  have H := Lib.hid (get64_any r x hs w h); clear h
  go_enter Tryz.func52, Tryz.ntmps52
  go_wp2_with (go_at_call 85; refine H.out.mono ?_; rintro e w' ⟨rfl, h1, h2⟩)
  go_ret
  exact ⟨rfl, h1, h2⟩
theorem take_len (x : R) (n : Nat) : (x.take n).length ≤ n := by unfold R.take; split <;> simp; omega
theorem drop_len (x : R) (n : Nat) : (x.drop n).rest.length ≤ x.rest.length := by unfold R.drop; split <;> simp
/-- A text that is read. -/
def R.text (x : R) : List UInt8 := (x.drop 2).take (val (x.take 2))
def R.behind (x : R) : R := (x.drop 2).drop (val (x.take 2))
theorem rtext_any (r : Nat) (x : R) (hs : x.rest.length ≤ 1099511627776) (w : World) (h : Rd w r x) : Calls Tryz.prog 79 #[.pointer (some ⟨r, 0, none⟩)] w (Took r x.text x.behind w) := by
  have hn : val (x.take 2) < 65536 := by
    have h1 := val_lt (x.take 2)
    have h2 : 256 ^ (x.take 2).length ≤ 256 ^ 2 := Nat.pow_le_pow_right (by decide) (take_len x 2)
    omega
  have hd := drop_len x 2
  have H1 := Lib.hid (ru16_any r x hs w h)
  have H2 := Lib.hid (fun w' h' => fixed_any r (x.drop 2) (val (x.take 2)) (val (x.take 2) : Nat) (.inr rfl) (by omega) w' h')
  clear h hd
  unfold R.text R.behind
  generalize val (x.take 2) = n at *
  generalize x.drop 2 = y at *
  go_enter Tryz.func79, Tryz.ntmps79
  go_wp2_with (first | (go_at_call 53; refine H1.out.mono ?_; rintro e w' ⟨rfl, h1, h2⟩; have HA := Lib.hid h1; have HB := Lib.hid h2; clear h1 h2) | (go_at_call 80; refine (H2.out _ HA.out).mono ?_; rintro e w'' ⟨rfl, h1, h2⟩))
  go_ret
  exact ⟨rfl, h1, grow_trans HB.out h2⟩
end Go.Proofs.YtlidieffaaicaaaGreat
