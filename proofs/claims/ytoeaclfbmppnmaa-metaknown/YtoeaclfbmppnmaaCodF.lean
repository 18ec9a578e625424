/- The reader's methods; writers and readers that are none. Conditions: lengths below 2^40. -/
import Derived.Test.YtoeaclfbmppnmaaCodE
namespace Go.Proofs.Ytoeaclfbmppnmaa
open Go.ChangeShapes Go.WideShapes Go.RowKit Go.Codec
set_option maxRecDepth 100000
theorem ru8_any (r : Nat) (x : R) (hs : x.rest.length ≤ 1099511627776) (w : World) (h : Rd w r x) : Calls Try.prog 34 #[.pointer (some ⟨r, 0, none⟩)] w (Got .u8 r (val (x.take 1)) (x.drop 1) w) := by
  have H := Lib.hid (get8_any r x hs w h); clear h
  go_enter Try.func34, Try.ntmps34
  go_wp2_with (go_at_call 52; refine H.out.mono ?_; rintro e w' ⟨rfl, h1, h2⟩)
  go_ret
  exact ⟨rfl, h1, h2⟩
theorem ru32_any (r : Nat) (x : R) (hs : x.rest.length ≤ 1099511627776) (w : World) (h : Rd w r x) : Calls Try.prog 35 #[.pointer (some ⟨r, 0, none⟩)] w (Got .u32 r (val (x.take 4)) (x.drop 4) w) := by
  have H := Lib.hid (get32_any r x hs w h); clear h
  go_enter Try.func35, Try.ntmps35
  go_wp2_with (go_at_call 53; refine H.out.mono ?_; rintro e w' ⟨rfl, h1, h2⟩)
  go_ret
  exact ⟨rfl, h1, h2⟩
theorem ru64_any (r : Nat) (x : R) (hs : x.rest.length ≤ 1099511627776) (w : World) (h : Rd w r x) : Calls Try.prog 36 #[.pointer (some ⟨r, 0, none⟩)] w (Got .u64 r (val (x.take 8)) (x.drop 8) w) := by
  have H := Lib.hid (get64_any r x hs w h); clear h
  go_enter Try.func36, Try.ntmps36
  go_wp2_with (go_at_call 54; refine H.out.mono ?_; rintro e w' ⟨rfl, h1, h2⟩)
  go_ret
  exact ⟨rfl, h1, h2⟩
theorem take_len (x : R) (n : Nat) : (x.take n).length ≤ n := by unfold R.take; split <;> simp; omega
theorem drop_len (x : R) (n : Nat) : (x.drop n).rest.length ≤ x.rest.length := by unfold R.drop; split <;> simp
end Go.Proofs.Ytoeaclfbmppnmaa
