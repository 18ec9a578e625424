/- Plain mathematics of bits that are turned in a sealed text: no program. Conditions: none. -/
import Derived.Test.YtmjgbafoemdlpaaDoorSeal
namespace Go.Seal
open Go.Codec
theorem flip_first (b : Nat) (bs : List Nat) (j : Nat) (h : j < 8) : Crc.flip (b :: bs) j = (b ^^^ 2 ^ j) :: bs := by
  unfold Crc.flip
  rw [show j / 8 = 0 by omega, show j % 8 = j by omega]; rfl
theorem flip_next (b : Nat) (bs : List Nat) (j : Nat) (h : 8 ≤ j) : Crc.flip (b :: bs) j = b :: Crc.flip bs (j - 8) := by
  unfold Crc.flip
  rw [show j / 8 = (j - 8) / 8 + 1 by omega, show j % 8 = (j - 8) % 8 by omega]; rfl
theorem flip_left (a b : List Nat) : ∀ j, j < 8 * a.length → Crc.flip (a ++ b) j = Crc.flip a j ++ b := by
  induction a with
  | nil => intro j h; simp at h
  | cons x a ih =>
    intro j h
    rw [List.length_cons] at h
    by_cases h8 : j < 8
    · rw [List.cons_append, flip_first _ _ _ h8, flip_first _ _ _ h8]; rfl
    · rw [List.cons_append, flip_next _ _ _ (by omega), flip_next _ _ _ (by omega), ih _ (by omega)]; rfl
theorem flip_right (a b : List Nat) : ∀ j, 8 * a.length ≤ j → Crc.flip (a ++ b) j = a ++ Crc.flip b (j - 8 * a.length) := by
  induction a with
  | nil => intro j _; simp
  | cons x a ih =>
    intro j h
    rw [List.length_cons] at h ⊢
    rw [List.cons_append, flip_next _ _ _ (by omega), ih _ (by omega), show j - 8 - 8 * a.length = j - 8 * (a.length + 1) by omega]; rfl
theorem flips_left (a b : List Nat) (f x : Nat) : ∀ k, f + k ≤ 8 * a.length → Crc.flips (a ++ b) f x k = Crc.flips a f x k ++ b
  | 0, _ => rfl
  | k + 1, h => by
    have ih := flips_left a b f x k (by omega)
    unfold Crc.flips
    rw [ih]
    split
    · exact flip_left _ _ _ (by rw [Crc.flips_length]; omega)
    · rfl
theorem flips_right (a b : List Nat) (f x : Nat) (h : 8 * a.length ≤ f) : ∀ k, Crc.flips (a ++ b) f x k = a ++ Crc.flips b (f - 8 * a.length) x k
  | 0 => rfl
  | k + 1 => by
    have ih := flips_right a b f x h k
    unfold Crc.flips
    rw [ih]
    split
    · rw [flip_right _ _ _ (by omega), show f + k - 8 * a.length = f - 8 * a.length + k by omega]
    · rfl
theorem nats_inj {a b : List UInt8} (h : a.map (·.toNat) = b.map (·.toNat)) : a = b :=
  (List.map_inj_right (fun _ _ h => UInt8.toNat_inj.1 h)).1 h
theorem val_inj' {a b : List UInt8} (h : a.length = b.length) (hv : val a = val b) : a = b := by
  rw [← be_val a, ← be_val b, h, hv]
/-- Bits that were turned within the text are told. -/
theorem spoilt_text (l t m : List UInt8) (f x k : Nat) (hl : l.length ≤ 65535) (hk : k ≤ 32) (h16 : 16 ≤ f) (hE : f + k ≤ 16 + 8 * l.length) (ht : t.map (·.toNat) = Crc.flips ((body l).map (·.toNat)) f x k) (hne : t ≠ body l) : opn (t ++ m) = ([], [], 9) := by
  have hb : (be 2 l.length).length = 2 := be_length _ _
  have hh := head_length l
  have e1 : (body l).map (·.toNat) = (head l).map (·.toNat) ++ (be 4 (sum (head l))).map (·.toNat) := by unfold body; rw [List.map_append]
  rw [e1, flips_left _ _ _ _ _ (by rw [List.length_map, hh]; omega)] at ht
  obtain ⟨t1, t2, rfl, h1, h2⟩ := List.map_eq_append_iff.1 ht
  have e2 : t2 = be 4 (sum (head l)) := nats_inj h2
  subst e2
  have e3 : (head l).map (·.toNat) = (be 2 l.length).map (·.toNat) ++ l.map (·.toNat) := by unfold head; rw [List.map_append]
  have h1' := h1
  rw [e3, flips_right _ _ _ _ (by rw [List.length_map, hb]; omega)] at h1'
  obtain ⟨a1, a2, rfl, h3, h4⟩ := List.map_eq_append_iff.1 h1'
  have e4 : a1 = be 2 l.length := nats_inj h3
  subst e4
  have la : a2.length = l.length := by
    have := congrArg List.length h4
    rw [List.length_map, Crc.flips_length, List.length_map] at this
    exact this
  refine open_other l.length a2 (be 4 (sum (head l))) m hl la (be_length _ _) ?_
  rw [be4_val (sum_lt _)]
  intro hs
  apply hne
  unfold sum at hs
  rw [h1] at hs
  have := (Crc.upd_flips ((head l).map (·.toNat)) 0 f x k hk (by rw [List.length_map, hh]; omega)).1 hs
  rw [this] at h1
  have e5 := nats_inj h1
  rw [e5]; rfl
/-- Bits that were turned within the sum are told. -/
theorem spoilt_sum (l t m : List UInt8) (f x k : Nat) (hl : l.length ≤ 65535) (hF : 16 + 8 * l.length ≤ f) (ht : t.map (·.toNat) = Crc.flips ((body l).map (·.toNat)) f x k) (hne : t ≠ body l) : opn (t ++ m) = ([], [], 9) := by
  have hh := head_length l
  have e1 : (body l).map (·.toNat) = (head l).map (·.toNat) ++ (be 4 (sum (head l))).map (·.toNat) := by unfold body; rw [List.map_append]
  rw [e1, flips_right _ _ _ _ (by rw [List.length_map, hh]; omega)] at ht
  obtain ⟨t1, t2, rfl, h1, h2⟩ := List.map_eq_append_iff.1 ht
  have e2 : t1 = head l := nats_inj h1
  subst e2
  have l2 : t2.length = 4 := by
    have := congrArg List.length h2
    rw [List.length_map, Crc.flips_length, List.length_map, be_length] at this
    exact this
  refine open_other l.length l t2 m hl rfl l2 ?_
  intro hs
  apply hne
  have hv : val t2 = val (be 4 (sum (head l))) := by rw [be4_val (sum_lt _)]; exact hs.symm
  have e3 := val_inj' (by rw [l2, be_length]) hv
  rw [e3]; rfl
end Go.Seal
