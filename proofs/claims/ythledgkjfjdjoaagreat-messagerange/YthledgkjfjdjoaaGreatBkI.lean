/- The patch of a text, by the program. Conditions: lengths below 2^40. -/
import Derived.Test.YthledgkjfjdjoaaGreatBkH
namespace Go.Proofs.YthledgkjfjdjoaaGreat.Bk
open Go.ChangeShapes Go.WideShapes Go.RowKit Go.Codec Go.Blk
set_option maxRecDepth 100000
/-- What comes of a text, as values. -/
def pvT (p : Pt) : Value := .tuple #[.agg #[.bool p.c, .int .i64 (p.a : Nat), .int .i64 (p.n : Nat), .string (bs p.s)], .int .i64 (p.e : Nat)]
theorem not_empty {l : List UInt8} (h : l ≠ []) : (bs l).toList.isEmpty = false := by rw [empty_is, bs_list]; simpa using h
theorem val1 (b : UInt8) : val [b] = b.toNat := by simp [val]
theorem val2 (b c : UInt8) : val [b, c] = b.toNat * 256 + c.toNat := by simp [val]
theorem r_one (b : UInt8) (l : List UInt8) : R.take ⟨b :: l, 0⟩ 1 = [b] ∧ R.drop ⟨b :: l, 0⟩ 1 = ⟨l, 0⟩ := by simp [R.take, R.drop]
theorem r_two (b c : UInt8) (l : List UInt8) : R.take ⟨b :: c :: l, 0⟩ 2 = [b, c] ∧ R.drop ⟨b :: c :: l, 0⟩ 2 = ⟨l, 0⟩ := by simp [R.take, R.drop]
theorem tk_one_torn {b : UInt8} {l : List UInt8} (hb : b.toNat = 1) (h : l.length < 3 ∨ l.length < 3 + size2 (b :: l)) : tk (b :: l) = .no 10 := by
  unfold tk
  rw [if_neg (by simp), if_pos (by simpa [byte] using hb), if_pos (by simp only [List.length_cons]; omega)]
theorem tk_one {b b1 b2 b3 : UInt8} {l : List UInt8} (hb : b.toNat = 1) (h : l.length = b2.toNat * 256 + b3.toNat) : tk (b :: b1 :: b2 :: b3 :: l) = if may false b1.toNat 0 l = false then .no 4 else ⟨false, b1.toNat, 0, l, 0⟩ := by
  have hz : size2 (b :: b1 :: b2 :: b3 :: l) = b2.toNat * 256 + b3.toNat := rfl
  have h1 : byte (b :: b1 :: b2 :: b3 :: l) 1 = b1 := rfl
  have hd : (b :: b1 :: b2 :: b3 :: l).drop 4 = l := rfl
  unfold tk
  rw [if_neg (by simp), if_pos (by simpa [byte] using hb), hz, h1, hd, if_neg (by simp only [List.length_cons]; omega)]
  cases hm : may false b1.toNat 0 l
  · rw [if_pos (.inr rfl), if_pos rfl]
  · rw [if_neg (by simp only [List.length_cons]; rintro (e | e); omega; simp at e), if_neg (by simp)]
theorem tk_one_long {b b1 b2 b3 : UInt8} {l : List UInt8} (hb : b.toNat = 1) (h : b2.toNat * 256 + b3.toNat < l.length) : tk (b :: b1 :: b2 :: b3 :: l) = .no 4 := by
  have hz : size2 (b :: b1 :: b2 :: b3 :: l) = b2.toNat * 256 + b3.toNat := rfl
  unfold tk
  rw [if_neg (by simp), if_pos (by simpa [byte] using hb), hz, if_neg (by simp only [List.length_cons]; omega), if_pos (by left; simp only [List.length_cons]; omega)]
theorem tk_two {b b1 : UInt8} (hb : b.toNat = 2) : tk [b, b1] = if may true 0 b1.toNat [] = false then .no 4 else ⟨true, 0, b1.toNat, [], 0⟩ := by
  have h1 : byte [b, b1] 1 = b1 := rfl
  unfold tk
  rw [if_neg (by simp), if_neg (by simp [byte, hb]), if_pos (by simpa [byte] using hb), if_neg (by simp), h1]
  cases hm : may true 0 b1.toNat []
  · rw [if_pos (.inr rfl), if_pos rfl]
  · rw [if_neg (by simp), if_neg (by simp)]
theorem tk_two_long {b b1 b2 : UInt8} {l : List UInt8} (hb : b.toNat = 2) : tk (b :: b1 :: b2 :: l) = .no 4 := by
  unfold tk
  rw [if_neg (by simp), if_neg (by simp [byte, hb]), if_pos (by simpa [byte] using hb), if_neg (by simp), if_pos (by left; simp)]
theorem tk_two_torn {b : UInt8} (hb : b.toNat = 2) : tk [b] = .no 10 := by
  unfold tk
  rw [if_neg (by simp), if_neg (by simp [byte, hb]), if_pos (by simpa [byte] using hb), if_pos (by simp)]
theorem tk_other {b : UInt8} {l : List UInt8} (h1 : ¬ b.toNat = 1) (h2 : ¬ b.toNat = 2) : tk (b :: l) = .no 4 := by
  unfold tk
  rw [if_neg (by simp), if_neg (by simpa [byte] using h1), if_neg (by simpa [byte] using h2)]
theorem take_any (s : ByteArray) (hs : s.size ≤ 1099511627776) (w : World) : Calls Tryz.prog 108 #[.string s] w fun e w' => e = .returned (pvT (tk s.data.toList)) ∧ Below w.heap.size w w' := by
  obtain ⟨l, hl⟩ : ∃ l, s.data.toList = l := ⟨_, rfl⟩
  have hlen : l.length ≤ 1099511627776 := by rw [← hl, ← Lib.size_eq]; exact hs
  have G : ∀ x : R, x.rest.length ≤ 1099511627776 → ∀ r wx, Rd wx r x → Calls Tryz.prog 41 #[.pointer (some ⟨r, 0, none⟩)] wx (Got .u8 r (val (x.take 1)) (x.drop 1) wx) := fun x hx r wx h => ru8_any r x hx wx h
  have T : ∀ x : R, x.rest.length ≤ 1099511627776 → ∀ r wx, Rd wx r x → Calls Tryz.prog 42 #[.pointer (some ⟨r, 0, none⟩)] wx (Took r x.text x.behind wx) := fun x hx r wx h => rtext_any r x hx wx h
  have g0 := G ⟨s.data.toList, 0⟩ (by rw [hl]; exact hlen)
  rcases l with _ | ⟨b, l⟩
  · rw [show val (R.take ⟨s.data.toList, 0⟩ 1) = 0 by rw [hl]; rfl, show R.drop ⟨s.data.toList, 0⟩ 1 = ⟨[], 10⟩ by rw [hl]; rfl] at g0
    rw [hl]
    exact take_0E s hs 0 _ (by decide) (by decide) g0 rfl w
  · have hlen' : l.length ≤ 1099511627776 := by simp only [List.length_cons] at hlen; omega
    rw [show val (R.take ⟨s.data.toList, 0⟩ 1) = b.toNat by rw [hl, (r_one b l).1, val1], show R.drop ⟨s.data.toList, 0⟩ 1 = ⟨l, 0⟩ by rw [hl, (r_one b l).2]] at g0
    rw [hl]
    by_cases h1 : b.toNat = 1
    · rw [h1] at g0
      rcases l with _ | ⟨b1, l⟩
      · rw [tk_one_torn h1 (by simp)]
        exact take_1E s hs _ g0 0 (by decide) ⟨[], 10⟩ (G ⟨[], 0⟩ (by simp)) [] _ rfl ⟨[], 10⟩ (T ⟨[], 10⟩ (by simp)) rfl w
      · have g1 := G ⟨b1 :: l, 0⟩ hlen'
        rw [(r_one b1 l).1, (r_one b1 l).2, val1] at g1
        have hlen2 : l.length ≤ 1099511627776 := by simp only [List.length_cons] at hlen'; omega
        have g2 := T ⟨l, 0⟩ hlen2
        rcases l with _ | ⟨b2, _ | ⟨b3, l⟩⟩
        · rw [tk_one_torn h1 (by simp)]
          exact take_1E s hs _ g0 _ b1.toNat_lt _ g1 [] _ rfl ⟨[], 10⟩ g2 rfl w
        · rw [tk_one_torn h1 (by simp)]
          exact take_1E s hs _ g0 _ b1.toNat_lt _ g1 [] _ rfl ⟨[], 10⟩ g2 rfl w
        · have et : R.text ⟨b2 :: b3 :: l, 0⟩ = R.take ⟨l, 0⟩ (b2.toNat * 256 + b3.toNat) := by unfold R.text; rw [(r_two b2 b3 l).1, (r_two b2 b3 l).2, val2]
          have eb : R.behind ⟨b2 :: b3 :: l, 0⟩ = R.drop ⟨l, 0⟩ (b2.toNat * 256 + b3.toNat) := by unfold R.behind; rw [(r_two b2 b3 l).1, (r_two b2 b3 l).2, val2]
          rw [et, eb] at g2
          rcases Nat.lt_trichotomy l.length (b2.toNat * 256 + b3.toNat) with hc | hc | hc
          · rw [tk_one_torn h1 (.inr (by have : size2 (b :: b1 :: b2 :: b3 :: l) = b2.toNat * 256 + b3.toNat := rfl; rw [this]; simp only [List.length_cons]; omega))]
            have e1 : R.drop ⟨l, 0⟩ (b2.toNat * 256 + b3.toNat) = ⟨[], 10⟩ := by unfold R.drop; exact if_neg (by simp only; omega)
            rw [e1] at g2
            exact take_1E s hs _ g0 _ b1.toNat_lt _ g1 _ _ rfl ⟨[], 10⟩ g2 rfl w
          · rw [tk_one h1 hc]
            have e1 : R.drop ⟨l, 0⟩ (b2.toNat * 256 + b3.toNat) = ⟨[], 0⟩ := by unfold R.drop; rw [if_pos (by simp only; omega), ← hc]; simp
            have e2 : R.take ⟨l, 0⟩ (b2.toNat * 256 + b3.toNat) = l := by unfold R.take; rw [if_pos (by simp only; omega), ← hc]; simp
            rw [e1, e2] at g2
            have M := mayBe_any false b1.toNat 0 (bs l) (by rw [bs_size]; simp only [List.length_cons] at hlen2; omega)
            rw [bs_list] at M
            cases hm : may false b1.toNat 0 l with
            | false =>
              rw [hm] at M
              exact take_1N s hs _ g0 _ b1.toNat_lt _ g1 _ _ rfl ⟨[], 0⟩ g2 rfl rfl M w
            | true =>
              rw [hm] at M
              exact take_1Y s hs _ g0 _ b1.toNat_lt _ g1 _ _ rfl ⟨[], 0⟩ g2 rfl rfl M w
          · rw [tk_one_long h1 hc]
            have e1 : R.drop ⟨l, 0⟩ (b2.toNat * 256 + b3.toNat) = ⟨l.drop (b2.toNat * 256 + b3.toNat), 0⟩ := by unfold R.drop; exact if_pos (by simp only; omega)
            rw [e1] at g2
            exact take_1L s hs _ g0 _ b1.toNat_lt _ g1 _ _ rfl _ g2 rfl (not_empty (by intro e; have := congrArg List.length e; simp at this; omega)) w
    by_cases h2 : b.toNat = 2
    · rw [h2] at g0
      rcases l with _ | ⟨b1, l⟩
      · rw [tk_two_torn h2]
        exact take_2E s hs _ g0 0 (by decide) ⟨[], 10⟩ (G ⟨[], 0⟩ (by simp)) rfl w
      · have g1 := G ⟨b1 :: l, 0⟩ hlen'
        rw [(r_one b1 l).1, (r_one b1 l).2, val1] at g1
        rcases l with _ | ⟨b2, l⟩
        · rw [tk_two h2]
          have M := mayBe_any true 0 b1.toNat ⟨#[]⟩ (by decide)
          have e0 : (⟨#[]⟩ : ByteArray).data.toList = [] := rfl
          rw [e0] at M
          cases hm : may true 0 b1.toNat [] with
          | false =>
            rw [hm] at M
            exact take_2N s hs _ g0 _ b1.toNat_lt _ g1 rfl rfl M w
          | true =>
            rw [hm] at M
            exact take_2Y s hs _ g0 _ b1.toNat_lt _ g1 rfl rfl M w
        · rw [tk_two_long h2]
          exact take_2L s hs _ g0 _ b1.toNat_lt _ g1 rfl (not_empty (by simp)) w
    · rw [tk_other h1 h2]
      have hv1 : ((b.toNat : Int) == 1) = false := beq_eq_false_iff_ne.2 (by omega)
      have hv2 : ((b.toNat : Int) == 2) = false := beq_eq_false_iff_ne.2 (by omega)
      by_cases hn : l = []
      · subst hn
        have M := mayBe_any false 0 0 ⟨#[]⟩ (by decide)
        have e0 : (⟨#[]⟩ : ByteArray).data.toList = [] := rfl
        rw [e0, show may false 0 0 [] = false from rfl] at M
        exact take_0N s hs _ _ hv1 hv2 g0 rfl rfl M w
      · exact take_0L s hs _ _ hv1 hv2 g0 rfl (not_empty hn) w
end Go.Proofs.YthledgkjfjdjoaaGreat.Bk
