/- Plain mathematics of sealed and stamped texts: no program. Conditions: none. -/
import Derived.Test.YtlidieffaaicaaaGreatCrc
import Derived.Test.YtlidieffaaicaaaGreatCodec
namespace Go.Seal
open Go.Codec
/-- The sum of a text. -/
def sum (l : List UInt8) : Nat := Crc.upd 0 (l.map (·.toNat))
theorem sum_lt (l : List UInt8) : sum l < 4294967296 := by
  refine Crc.upd_lt (by omega) ?_
  intro b hb
  simp only [List.mem_map] at hb
  obtain ⟨x, _, rfl⟩ := hb
  exact x.toNat_lt
def head (l : List UInt8) : List UInt8 := be 2 l.length ++ l
def body (l : List UInt8) : List UInt8 := head l ++ be 4 (sum (head l))
/-- A text, sealed. -/
def sealL (l : List UInt8) : List UInt8 × Int := if 65535 < l.length then ([], 3) else (body l, 0)
/-- What bytes are that may be sealed. -/
def opn (l : List UInt8) : List UInt8 × List UInt8 × Int :=
  if l.length < 6 ∨ l.length - 6 < val (l.take 2) then ([], [], 10)
  else if sum (l.take (2 + val (l.take 2))) = val ((l.drop (2 + val (l.take 2))).take 4) then ((l.drop 2).take (val (l.take 2)), l.drop (6 + val (l.take 2)), 0)
  else ([], [], 9)
def fill (k n : Nat) : Nat := if k % n = 0 then 0 else n - k % n
def noughts (n : Nat) : List UInt8 := List.replicate n 0
/-- Bytes, filled up. -/
def pad (l : List UInt8) (n : Int) : List UInt8 × Int := if n < 1 ∨ 65536 < n then ([], 2) else (l ++ noughts (fill l.length n.toNat), 0)
def sheet (g i : Nat) (l : List UInt8) (n : Nat) : List UInt8 := be 8 g ++ (be 4 i ++ (be 2 l.length ++ (l ++ (noughts n ++ (be 4 i ++ be 8 g)))))
/-- A text, stamped, in n bytes. -/
def stamp (g i : Nat) (l : List UInt8) (n : Int) : List UInt8 × Int :=
  if n < 26 ∨ 65536 < n then ([], 2) else if n - 26 < l.length then ([], 3) else (sheet g i l (n.toNat - 26 - l.length), 0)
/-- Are bytes a stamped text? -/
def Good (l : List UInt8) : Prop :=
  l.take 8 = l.drop (l.length - 8) ∧ (l.drop 8).take 4 = (l.drop (l.length - 12)).take 4 ∧ val ((l.drop 12).take 2) ≤ l.length - 26 ∧
    (l.drop (14 + val ((l.drop 12).take 2))).take (l.length - 26 - val ((l.drop 12).take 2)) = noughts (l.length - 26 - val ((l.drop 12).take 2))
open Classical in
noncomputable def unstamp (l : List UInt8) : Nat × Nat × List UInt8 × Int :=
  if l.length < 26 then (0, 0, [], 10) else if 65536 < l.length then (0, 0, [], 4)
  else if Good l then (val (l.take 8), val ((l.drop 8).take 4), (l.drop 14).take (val ((l.drop 12).take 2)), 0) else (0, 0, [], 4)
theorem noughts_length (n : Nat) : (noughts n).length = n := by simp [noughts]
theorem head_length (l : List UInt8) : (head l).length = l.length + 2 := by simp [head, be_length]; omega
theorem body_length (l : List UInt8) : (body l).length = l.length + 6 := by simp [body, head_length, be_length]
theorem sheet_length (g i : Nat) (l : List UInt8) (n : Nat) : (sheet g i l n).length = 26 + l.length + n := by simp [sheet, be_length, noughts_length]; omega
theorem be2_val {n : Nat} (h : n ≤ 65535) : val (be 2 n) = n := by rw [val_be]; omega
theorem be4_val {n : Nat} (h : n < 4294967296) : val (be 4 n) = n := by rw [val_be]; omega
theorem be8_val {n : Nat} (h : n < 18446744073709551616) : val (be 8 n) = n := by rw [val_be]; omega
theorem take_left {a b : List UInt8} {n : Nat} (h : a.length = n) : (a ++ b).take n = a := by rw [← h]; simp
theorem drop_left {a b : List UInt8} {n : Nat} (h : a.length = n) : (a ++ b).drop n = b := by rw [← h]; simp
theorem drop_more {a b : List UInt8} {n m : Nat} (h : a.length = n) : (a ++ b).drop (n + m) = b.drop m := by rw [← h, ← List.drop_drop]; simp
theorem take_of_append {a b : List UInt8} {n : Nat} (h : n ≤ a.length) : (a ++ b).take n = a.take n := by rw [List.take_append_of_le_length h]
theorem take2_body (l m : List UInt8) : (body l ++ m).take 2 = be 2 l.length := by
  unfold body head
  rw [List.append_assoc, List.append_assoc]
  exact take_left (be_length _ _)
/-- A sealed text is told, and what stands behind it. -/
theorem open_body (l m : List UInt8) (h : l.length ≤ 65535) : opn (body l ++ m) = (l, m, 0) := by
  have e1 := take2_body l m
  have e2 : val ((body l ++ m).take 2) = l.length := by rw [e1, be2_val h]
  unfold opn
  rw [e2]
  have hl : (body l ++ m).length = l.length + 6 + m.length := by rw [List.length_append, body_length]
  rw [if_neg (by rw [hl]; omega)]
  have e3 : (body l ++ m).take (2 + l.length) = head l := by
    unfold body
    rw [List.append_assoc]
    exact take_left (by rw [head_length]; omega)
  have e4 : (body l ++ m).drop (2 + l.length) = be 4 (sum (head l)) ++ m := by
    unfold body
    rw [List.append_assoc]
    exact drop_left (by rw [head_length]; omega)
  have e5 : ((body l ++ m).drop (2 + l.length)).take 4 = be 4 (sum (head l)) := by rw [e4]; exact take_left (be_length _ _)
  have e6 : (body l ++ m).drop (6 + l.length) = m := drop_left (by rw [body_length]; omega)
  have e7 : ((body l ++ m).drop 2).take l.length = l := by
    unfold body head
    rw [List.append_assoc, List.append_assoc, drop_left (be_length _ _)]
    exact take_left rfl
  rw [e3, e5, be4_val (sum_lt _), if_pos rfl, e6, e7]
/-- A beginning of a sealed text is torn. -/
theorem open_cut (l : List UInt8) (h : l.length ≤ 65535) (k : Nat) (hk : k < (body l).length) : opn ((body l).take k) = ([], [], 10) := by
  rw [body_length] at hk
  have hl : ((body l).take k).length = k := by rw [List.length_take, body_length]; omega
  unfold opn
  rw [if_pos]
  rw [hl]
  by_cases h6 : k < 6
  · exact .inl h6
  · right
    have e : ((body l).take k).take 2 = be 2 l.length := by
      rw [List.take_take, Nat.min_eq_left (by omega)]
      have := take2_body l []
      rwa [List.append_nil] at this
    rw [e, be2_val h]
    omega
/-- Other bytes of the same length behind the same two, and a sum that is another one. -/
theorem open_other (n : Nat) (t c m : List UInt8) (h : n ≤ 65535) (ht : t.length = n) (hc : c.length = 4) (hne : sum (be 2 n ++ t) ≠ val c) : opn (be 2 n ++ t ++ c ++ m) = ([], [], 9) := by
  have hb : (be 2 n).length = 2 := be_length _ _
  have e1 : (be 2 n ++ t ++ c ++ m).take 2 = be 2 n := by
    rw [List.append_assoc, List.append_assoc]
    exact take_left hb
  have e2 : (be 2 n ++ t ++ c ++ m).take (2 + n) = be 2 n ++ t := by
    rw [List.append_assoc]
    exact take_left (by rw [List.length_append, hb, ht])
  have e3 : (be 2 n ++ t ++ c ++ m).drop (2 + n) = c ++ m := by
    rw [List.append_assoc]
    exact drop_left (by rw [List.length_append, hb, ht])
  unfold opn
  rw [e1, be2_val h, e2, e3, take_left hc, if_neg (by simp [hb, ht, hc]; omega), if_neg hne]
theorem sheet_take8 (g i : Nat) (l : List UInt8) (n : Nat) : (sheet g i l n).take 8 = be 8 g := take_left (be_length _ _)
theorem sheet_drop8 (g i : Nat) (l : List UInt8) (n : Nat) : ((sheet g i l n).drop 8).take 4 = be 4 i := by
  unfold sheet
  rw [drop_left (be_length _ _)]
  exact take_left (be_length _ _)
theorem sheet_drop12 (g i : Nat) (l : List UInt8) (n : Nat) : (sheet g i l n).drop 12 = be 2 l.length ++ (l ++ (noughts n ++ (be 4 i ++ be 8 g))) := by
  unfold sheet
  rw [← List.append_assoc]
  exact drop_left (by simp [be_length])
theorem sheet_drop14 (g i : Nat) (l : List UInt8) (n : Nat) : (sheet g i l n).drop 14 = l ++ (noughts n ++ (be 4 i ++ be 8 g)) := by
  rw [show 14 = 12 + 2 from rfl, ← List.drop_drop, sheet_drop12]
  exact drop_left (be_length _ _)
theorem sheet_drop14l (g i : Nat) (l : List UInt8) (n : Nat) : (sheet g i l n).drop (14 + l.length) = noughts n ++ (be 4 i ++ be 8 g) := by
  rw [← List.drop_drop, sheet_drop14]
  exact drop_left rfl
theorem sheet_last12 (g i : Nat) (l : List UInt8) (n : Nat) : (sheet g i l n).drop ((sheet g i l n).length - 12) = be 4 i ++ be 8 g := by
  rw [sheet_length, show 26 + l.length + n - 12 = 14 + l.length + n by omega, ← List.drop_drop, sheet_drop14l]
  exact drop_left (noughts_length _)
theorem sheet_last8 (g i : Nat) (l : List UInt8) (n : Nat) : (sheet g i l n).drop ((sheet g i l n).length - 8) = be 8 g := by
  have h := sheet_last12 g i l n
  have e : (sheet g i l n).length - 8 = (sheet g i l n).length - 12 + 4 := by rw [sheet_length]; omega
  rw [e, ← List.drop_drop, h]
  exact drop_left (be_length _ _)
theorem good_sheet (g i : Nat) (l : List UInt8) (n : Nat) (hl : l.length ≤ 65535) : Good (sheet g i l n) := by
  unfold Good
  have e : val (((sheet g i l n).drop 12).take 2) = l.length := by
    rw [sheet_drop12, take_left (be_length _ _), be2_val hl]
  rw [e, sheet_take8, sheet_last8, sheet_drop8, sheet_last12, take_left (be_length _ _), sheet_length, sheet_drop14l]
  refine ⟨rfl, rfl, by omega, ?_⟩
  rw [show 26 + l.length + n - 26 - l.length = n by omega]
  exact take_left (noughts_length _)
theorem unstamp_sheet (g i : Nat) (l : List UInt8) (n : Nat) (hn : 26 + l.length + n ≤ 65536) (hg : g < 18446744073709551616) (hi : i < 4294967296) : unstamp (sheet g i l n) = (g, i, l, 0) := by
  unfold unstamp
  rw [if_neg (by rw [sheet_length]; omega), if_neg (by rw [sheet_length]; omega), if_pos (good_sheet g i l n (by omega))]
  have e : val (((sheet g i l n).drop 12).take 2) = l.length := by
    rw [sheet_drop12, take_left (be_length _ _), be2_val (by omega)]
  rw [e, sheet_take8, sheet_drop8, sheet_drop14, take_left rfl, be8_val hg, be4_val hi]
/-- What is told is stamped just so. -/
theorem sheet_back (t : List UInt8) (h26 : 26 ≤ t.length) (hg : Good t) :
    sheet (val (t.take 8)) (val ((t.drop 8).take 4)) ((t.drop 14).take (val ((t.drop 12).take 2))) (t.length - 26 - val ((t.drop 12).take 2)) = t := by
  obtain ⟨h1, h2, h3, h4⟩ := hg
  generalize hk : val ((t.drop 12).take 2) = k at *
  have b8 : be 8 (val (t.take 8)) = t.take 8 := be_val' (by rw [List.length_take]; omega)
  have b4 : be 4 (val ((t.drop 8).take 4)) = (t.drop 8).take 4 := be_val' (by rw [List.length_take, List.length_drop]; omega)
  have hl : ((t.drop 14).take k).length = k := by rw [List.length_take, List.length_drop]; omega
  have b2 : be 2 k = (t.drop 12).take 2 := by rw [← hk]; exact be_val' (by rw [List.length_take, List.length_drop]; omega)
  unfold sheet
  rw [hl, b8, b4, b2, ← h4, h2]
  have e8 : (t.drop (t.length - 12)).take 4 ++ t.take 8 = t.drop (t.length - 12) := by
    rw [h1, show t.length - 8 = t.length - 12 + 4 by omega, ← List.drop_drop]
    exact List.take_append_drop _ _
  rw [e8, ← h2]
  have e1 : (t.drop (14 + k)).take (t.length - 26 - k) ++ t.drop (t.length - 12) = t.drop (14 + k) := by
    have := List.take_append_drop (t.length - 26 - k) (t.drop (14 + k))
    rw [List.drop_drop, show 14 + k + (t.length - 26 - k) = t.length - 12 by omega] at this
    exact this
  have e2 : (t.drop 14).take k ++ t.drop (14 + k) = t.drop 14 := by
    have := List.take_append_drop k (t.drop 14)
    rw [List.drop_drop] at this
    exact this
  have e3 : (t.drop 12).take 2 ++ t.drop 14 = t.drop 12 := by
    have := List.take_append_drop 2 (t.drop 12)
    rw [List.drop_drop] at this
    exact this
  have e4 : (t.drop 8).take 4 ++ t.drop 12 = t.drop 8 := by
    have := List.take_append_drop 4 (t.drop 8)
    rw [List.drop_drop] at this
    exact this
  rw [e1, e2, e3, e4]
  exact List.take_append_drop _ _
theorem stamp_back (t : List UInt8) (h : (unstamp t).2.2.2 = 0) : stamp (unstamp t).1 (unstamp t).2.1 (unstamp t).2.2.1 t.length = (t, 0) := by
  unfold unstamp at h ⊢
  by_cases h1 : t.length < 26
  · rw [if_pos h1] at h; simp at h
  rw [if_neg h1] at h ⊢
  by_cases h2 : 65536 < t.length
  · rw [if_pos h2] at h; simp at h
  rw [if_neg h2] at h ⊢
  by_cases h3 : Good t
  · rw [if_pos h3]
    have hk := h3.2.2.1
    have hl : ((t.drop 14).take (val ((t.drop 12).take 2))).length = val ((t.drop 12).take 2) := by rw [List.length_take, List.length_drop]; omega
    have hs := sheet_back t (by omega) h3
    unfold stamp
    simp only []
    rw [if_neg (by omega), if_neg (by rw [hl]; omega), hl, Int.toNat_natCast, hs]
  · rw [if_neg h3] at h; simp at h
theorem unstamp_none (t : List UInt8) (h : ¬ (unstamp t).2.2.2 = 0) : (unstamp t).1 = 0 ∧ (unstamp t).2.1 = 0 ∧ (unstamp t).2.2.1 = [] := by
  unfold unstamp at h ⊢
  split
  · exact ⟨rfl, rfl, rfl⟩
  · rename_i h1
    rw [if_neg h1] at h
    split
    · exact ⟨rfl, rfl, rfl⟩
    · rename_i h2
      rw [if_neg h2] at h
      split
      · rename_i h3
        rw [if_pos h3] at h; simp at h
      · exact ⟨rfl, rfl, rfl⟩
/-- The stage's theorem: the first bytes of one, the others of another one. -/
theorem torn (g i g' i' : Nat) (a b : List UInt8) (n m k : Nat) (hn : 26 + a.length + n ≤ 65536) (hm : 26 + b.length + m = 26 + a.length + n) (hk : k ≤ 26 + a.length + n)
    (hg : g < 18446744073709551616) (hi : i < 4294967296) (hg' : g' < 18446744073709551616) (hi' : i' < 4294967296) (hne : ¬ (g = g' ∧ i = i')) (t : List UInt8)
    (ht : t = (sheet g i a n).take k ++ (sheet g' i' b m).drop k) : t = sheet g i a n ∨ t = sheet g' i' b m ∨ unstamp t = (0, 0, [], 4) := by
  have lx := sheet_length g i a n
  have ly := sheet_length g' i' b m
  have x8 := sheet_take8 g i a n
  have x4 := sheet_drop8 g i a n
  have xl := sheet_last12 g i a n
  have y8 := sheet_take8 g' i' b m
  have y4 := sheet_drop8 g' i' b m
  have yl := sheet_last12 g' i' b m
  generalize sheet g i a n = x at *
  generalize sheet g' i' b m = y at *
  obtain ⟨N, hN⟩ : ∃ N, N = 26 + a.length + n := ⟨_, rfl⟩
  rw [hm, ← hN] at ly
  rw [← hN] at lx hk hn
  rw [lx] at xl
  rw [ly] at yl
  have lt : t.length = N := by rw [ht, List.length_append, List.length_take, List.length_drop, lx, ly]; omega
  have h26 : 26 ≤ N := by omega
  by_cases hG : Good t
  · obtain ⟨h1, h2, _, _⟩ := hG
    rw [lt] at h1 h2
    have tl : t.drop (N - 12) = (t.drop 8).take 4 ++ t.take 8 := by
      rw [h1, h2, show N - 8 = N - 12 + 4 by omega, ← List.drop_drop]
      exact (List.take_append_drop _ _).symm
    have t12 : t.take 12 = t.take 8 ++ (t.drop 8).take 4 := by
      rw [show 12 = 8 + 4 from rfl, List.take_add]
    have x12 : x.take 12 = x.take 8 ++ (x.drop 8).take 4 := by
      rw [show 12 = 8 + 4 from rfl, List.take_add]
    have y12 : y.take 12 = y.take 8 ++ (y.drop 8).take 4 := by
      rw [show 12 = 8 + 4 from rfl, List.take_add]
    by_cases c1 : k ≤ 12
    · right; left
      have hd : ∀ j, k ≤ j → t.drop j = y.drop j := fun j hj => by
        rw [ht, show j = k + (j - k) by omega, drop_more (by rw [List.length_take, lx]; omega), List.drop_drop]
      have e1 := hd (N - 12) (by omega)
      rw [tl, yl] at e1
      have e2 := List.append_inj e1 (by rw [List.length_take, List.length_drop, be_length, lt]; omega)
      have e3 : t.take 12 = y.take 12 := by rw [t12, y12, y8, y4, e2.1, e2.2]
      rw [← List.take_append_drop 12 t, ← List.take_append_drop 12 y, e3, hd 12 c1]
    · have hp : ∀ j, j ≤ k → t.take j = x.take j := fun j hj => by
        rw [ht, take_of_append (by rw [List.length_take, lx]; omega), List.take_take, Nat.min_eq_left hj]
      have e0 := hp 12 (by omega)
      rw [t12, x12, x8, x4] at e0
      have e2 := List.append_inj e0 (by rw [List.length_take, be_length, lt]; omega)
      by_cases c2 : N - 12 ≤ k
      · left
        have e3 : t.drop (N - 12) = x.drop (N - 12) := by rw [tl, xl, e2.1, e2.2]
        rw [← List.take_append_drop (N - 12) t, ← List.take_append_drop (N - 12) x, e3, hp _ c2]
      · exfalso
        have hd : t.drop (N - 12) = y.drop (N - 12) := by
          rw [ht, show N - 12 = k + (N - 12 - k) by omega, drop_more (by rw [List.length_take, lx]; omega), List.drop_drop]
        rw [tl, yl, e2.1, e2.2] at hd
        have e4 := List.append_inj hd (by rw [be_length, be_length])
        apply hne
        have f1 := congrArg val e4.1
        have f2 := congrArg val e4.2
        rw [be4_val hi, be4_val hi'] at f1
        rw [be8_val hg, be8_val hg'] at f2
        exact ⟨f2, f1⟩
  · right; right
    unfold unstamp
    rw [if_neg (by omega), if_neg (by omega), if_neg hG]
end Go.Seal
