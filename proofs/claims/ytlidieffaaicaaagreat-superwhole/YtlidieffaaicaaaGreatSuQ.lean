/- Plain facts: what a crash leaves of the write of the next superblock, and what is chosen then. Conditions: none. -/
import Derived.Test.YtlidieffaaicaaaGreatSuN
namespace Go.Super
open Go.Codec
set_option maxRecDepth 100000
theorem put_ok {s : S} (h : s.Ok) : (put s).1 = Seal.sheet s.gen 0 (txt s) 88 := by unfold put; rw [if_pos h]
theorem put_take8 {s : S} (h : s.Ok) : (put s).1.take 8 = be 8 s.gen := by rw [put_ok h, Seal.sheet_take8]
theorem put_drop120 {s : S} (h : s.Ok) : (put s).1.drop 120 = be 8 s.gen := by
  have := Seal.sheet_last8 s.gen 0 (txt s) 88
  rw [← put_ok h, put_length s h] at this
  exact this
/-- What stands at the other slot: no superblock, or an elder one; torn by superblocks of the next generation alone. -/
structure Inv (g : Nat) (r : List UInt8) : Prop where
  len : r.length = 128
  last : r.drop 120 ≠ be 8 (g + 1)
  first : r.take 8 = be 8 (g + 1) ∨ ∃ r0 j, j < 8 ∧ r0.length = 128 ∧ r0.take 8 = r0.drop 120 ∧ ((tk r0).2 = 0 → (tk r0).1.gen < g) ∧ r = (be 8 (g + 1)).take j ++ r0.drop j
theorem Inv.old {g : Nat} {r : List UInt8} (h : Inv g r) (ho : (tk r).2 = 0) : (tk r).1.gen < g := by
  have hok := (tk_ok r ho).2.2.2.2.1
  have hp : (put (tk r).1).1 = r := by rw [put_tk r ho]
  have hT : (tk r).1.Ok := by rw [(tk_ok r ho).2.2.2.2.2]; exact hok
  have e1 : r.take 8 = r.drop 120 := by rw [← hp, put_take8 hT, put_drop120 hT]
  rcases h.first with hf | ⟨r0, j, hj, hl, h0, hg, he⟩
  · exact absurd (e1.symm.trans hf) h.last
  · have hb : (be 8 (g + 1)).length = 8 := be_length _ _
    have e2 : r.drop 8 = r0.drop 8 := by
      rw [he, List.drop_append, List.drop_drop, List.drop_eq_nil_of_le (by simp; omega), List.length_take, hb, List.nil_append]
      congr 1; omega
    have e3 : r.drop 120 = r0.drop 120 := by
      have := congrArg (List.drop 112) e2
      simpa using this
    have : r = r0 := by rw [← List.take_append_drop 8 r, e2, e1, e3, ← h0, List.take_append_drop]
    rw [this] at ho ⊢
    exact hg ho
theorem tear {g : Nat} {r : List UInt8} (h : Inv g r) {s : S} (hs : s.Ok) (hg : s.gen = g + 1) (k : Nat) (hk : k ≤ 128) :
    (put s).1.take k ++ r.drop k = (put s).1 ∨ Inv g ((put s).1.take k ++ r.drop k) := by
  have hl := put_length s hs
  have h8 := put_take8 hs
  have h120 := put_drop120 hs
  rw [hg] at h8 h120
  have hb : (be 8 (g + 1)).length = 8 := be_length _ _
  have hrl := h.len
  have hlen : ((put s).1.take k ++ r.drop k).length = 128 := by simp; omega
  by_cases he : ((put s).1.take k ++ r.drop k).drop 120 = be 8 (g + 1)
  · left
    by_cases hk2 : k ≤ 120
    · refine absurd ?_ h.last
      have e0 : ((put s).1.take k).drop 120 = [] := List.drop_eq_nil_of_le (by rw [List.length_take]; omega)
      rw [← he, List.drop_append, e0, List.nil_append, List.drop_drop, List.length_take]
      congr 1; omega
    · have e1 : ((put s).1.take k ++ r.drop k).take 120 = (put s).1.take 120 := by
        rw [List.take_append_of_le_length (by simp; omega), List.take_take]
        congr 1; omega
      rw [← List.take_append_drop 120 ((put s).1.take k ++ r.drop k), e1, he, ← h120, List.take_append_drop]
  · right
    refine ⟨hlen, he, ?_⟩
    by_cases hk8 : 8 ≤ k
    · left
      rw [List.take_append_of_le_length (by simp; omega), List.take_take, ← h8]
      congr 1; omega
    · have e0 : (put s).1.take k = (be 8 (g + 1)).take k := by
        rw [← h8, List.take_take]; congr 1; omega
      rcases h.first with hf | ⟨r0, j, hj, hl0, h0, hg0, hr⟩
      · left
        rw [e0, List.take_append, List.length_take, hb, List.take_take, show min 8 k = k by omega, show 8 - min k 8 = 8 - k by omega, ← List.drop_take, hf, List.take_append_drop]
      · right
        refine ⟨r0, max j k, by omega, hl0, h0, hg0, ?_⟩
        rw [e0, hr, List.drop_append, List.length_take, hb, List.drop_drop, ← List.append_assoc]
        congr 1
        · by_cases hjk : j ≤ k
          · rw [List.drop_eq_nil_of_le (by simp; omega), List.append_nil, show max j k = k by omega]
          · rw [List.drop_take, show max j k = k + (j - k) by omega, List.take_add]
        · congr 1; omega
theorem Inv.of_put {s : S} (h : s.Ok) (hg : s.gen < 18446744073709551614) (hc : s.calls < 18446744073709551616) : Inv (s.gen + 1) (put s).1 := by
  refine ⟨put_length s h, ?_, .inr ⟨(put s).1, 0, by decide, put_length s h, by rw [put_take8 h, put_drop120 h], fun _ => ?_, by simp⟩⟩
  · rw [put_drop120 h]
    intro e
    have := congrArg val e
    rw [Seal.be8_val (by omega), Seal.be8_val (by omega)] at this
    omega
  · rw [tk_put s h (by omega) hc]; exact Nat.lt_succ_self _
end Go.Super
namespace Go.Proofs.YtlidieffaaicaaaGreat
open Go.ChangeShapes Go.WideShapes Go.RowKit Go.Codec Go.Super
set_option maxRecDepth 100000
theorem Inv.nought : Inv 1 Fu.nought := by
  refine ⟨rfl, by decide, .inr ⟨Fu.nought, 0, by decide, rfl, by decide, fun h => ?_, by simp⟩⟩
  rw [show Fu.nought = List.replicate 128 0 from rfl, tk_zero] at h
  exact absurd h (by decide)
theorem inv_one {g : Nat} {r : List UInt8} (h : Inv g r) (hg : 0 < g) (i : Nat) (n : Int) : (one i n r).gen < g := by
  unfold one
  split
  · rename_i hh; exact h.old hh.1
  · exact hg
theorem one_self {s : S} (h : s.Ok) (hg : s.gen < 18446744073709551616) (hc : s.calls < 18446744073709551616) (hn : s.secs = 512) : one (s.gen % 2) 512 (put s).1 = s := one_put h hg hc rfl hn
/-- The state of the device between tries. -/
structure Jw (st : List Fu.Cel) (s : S) : Prop where
  len : st.length = 512
  ok : s.Ok
  calls : s.calls < 18446744073709551616
  secs : s.secs = 512
  at' : st[s.gen % 2]? = some ⟨(put s).1, none⟩
  off : ∃ r, st[(s.gen + 1) % 2]? = some ⟨r, none⟩ ∧ Inv s.gen r
theorem choose_slots {st : List Fu.Cel} {p : Nat} {x y : Fu.Cel} (hx : st[p % 2]? = some x) (hy : st[(p + 1) % 2]? = some y) :
    ∃ a b, st[0]? = some a ∧ st[1]? = some b ∧ choose 512 a.r b.r = if p % 2 = 0 then choose 512 x.r y.r else choose 512 y.r x.r := by
  rcases Nat.mod_two_eq_zero_or_one p with h | h
  · rw [h] at hx
    rw [show (p + 1) % 2 = 1 by omega] at hy
    exact ⟨x, y, hx, hy, by rw [if_pos h]⟩
  · rw [h] at hx
    rw [show (p + 1) % 2 = 0 by omega] at hy
    exact ⟨y, x, hy, hx, by rw [if_neg (by omega)]⟩
theorem later_max (a b : S) : (a.gen < b.gen → later a b = b) ∧ (b.gen ≤ a.gen → later a b = a) := by
  unfold later
  exact ⟨fun h => if_pos h, fun h => if_neg (by omega)⟩
theorem choose_old {s : S} (h : s.Ok) (hg : s.gen < 18446744073709551614) (hc : s.calls < 18446744073709551616) (hn : s.secs = 512) {r : List UInt8} (hr : Inv s.gen r) :
    (if s.gen % 2 = 0 then choose 512 (put s).1 r else choose 512 r (put s).1) = (s, 0) := by
  have h1 := one_self h (by omega) hc hn
  have hp := h.1
  rcases Nat.mod_two_eq_zero_or_one s.gen with e | e
  · rw [if_pos e]
    rw [e] at h1
    have h2 := inv_one hr hp 1 512
    unfold choose
    rw [h1, (later_max S.none s).1 hp, (later_max s (one 1 512 r)).2 (by omega), if_neg (by omega)]
  · rw [if_neg (by omega)]
    rw [e] at h1
    have h2 := inv_one hr hp 0 512
    unfold choose
    rw [h1]
    have h3 : (later S.none (one 0 512 r)).gen < s.gen := by
      unfold later
      split
      · exact h2
      · exact hp
    rw [(later_max _ s).1 h3, if_neg (by omega)]
theorem choose_new {s t : S} (hs : s.Ok) (ht : t.Ok) (hg : t.gen = s.gen + 1) (hb : s.gen < 18446744073709551614) (hsc : s.calls < 18446744073709551616) (htc : t.calls < 18446744073709551616) (hsn : s.secs = 512) (htn : t.secs = 512) :
    (if s.gen % 2 = 0 then choose 512 (put s).1 (put t).1 else choose 512 (put t).1 (put s).1) = (t, 0) := by
  have h1 := one_self hs (by omega) hsc hsn
  have h2 := one_self ht (by omega) htc htn
  have hp := hs.1
  rcases Nat.mod_two_eq_zero_or_one s.gen with e | e
  · rw [if_pos e]
    rw [e] at h1
    rw [show t.gen % 2 = 1 by omega] at h2
    unfold choose
    rw [h1, h2, (later_max S.none s).1 hp, (later_max s t).1 (by omega), if_neg (by omega)]
  · rw [if_neg (by omega)]
    rw [e] at h1
    rw [show t.gen % 2 = 0 by omega] at h2
    unfold choose
    rw [h1, h2, (later_max S.none t).1 (by show 0 < t.gen; omega), (later_max t s).2 (by omega), if_neg (by omega)]
theorem Jw.keep {st st' : List Fu.Cel} {s : S} (h : Jw st s) (hl : st'.length = 512) (ha : st'[s.gen % 2]? = some ⟨(put s).1, none⟩) {r : List UInt8} (ho : st'[(s.gen + 1) % 2]? = some ⟨r, none⟩) (hr : Inv s.gen r) : Jw st' s :=
  ⟨hl, h.ok, h.calls, h.secs, ha, r, ho, hr⟩
theorem Jw.go {st st' : List Fu.Cel} {s t : S} (h : Jw st s) (hb : s.gen < 18446744073709551613) (ht : t.Ok) (hg : t.gen = s.gen + 1) (htc : t.calls < 18446744073709551616) (htn : t.secs = 512) (hl : st'.length = 512) (ha : st'[s.gen % 2]? = some ⟨(put s).1, none⟩) (ho : st'[(s.gen + 1) % 2]? = some ⟨(put t).1, none⟩) : Jw st' t := by
  refine ⟨hl, ht, htc, htn, ?_, (put s).1, ?_, ?_⟩
  · rw [hg]; exact ho
  · rw [hg, show (s.gen + 1 + 1) % 2 = s.gen % 2 by omega]; exact ha
  · rw [hg]; exact Inv.of_put h.ok (by omega) h.calls
/-- One try: what is chosen behind the crash. -/
theorem Jw.try {st : List Fu.Cel} {s t : S} (h : Jw st s) (hb : s.gen < 18446744073709551613) (ht : t.Ok) (hg : t.gen = s.gen + 1) (htc : t.calls < 18446744073709551616) (htn : t.secs = 512) (xs : List Int) (wh : Bool) :
    ∃ x a b, (Fu.crash (if wh = true then Fu.bar (Fu.wrS st (t.gen % 2) (put t).1) else Fu.wrS st (t.gen % 2) (put t).1) xs)[0]? = some a
      ∧ (Fu.crash (if wh = true then Fu.bar (Fu.wrS st (t.gen % 2) (put t).1) else Fu.wrS st (t.gen % 2) (put t).1) xs)[1]? = some b
      ∧ choose 512 a.r b.r = (x, 0) ∧ (x = s ∨ x = t) ∧ (wh = true → x = t)
      ∧ Jw (Fu.crash (if wh = true then Fu.bar (Fu.wrS st (t.gen % 2) (put t).1) else Fu.wrS st (t.gen % 2) (put t).1) xs) x := by
  obtain ⟨r, ho, hr⟩ := h.off
  have hne : t.gen % 2 ≠ s.gen % 2 := by omega
  have e1 : (s.gen + 1) % 2 = t.gen % 2 := by rw [hg]
  have w0 : (Fu.wrS st (t.gen % 2) (put t).1)[s.gen % 2]? = some ⟨(put s).1, none⟩ := by rw [wr_off _ hne]; exact h.at'
  have w1 : (Fu.wrS st (t.gen % 2) (put t).1)[(s.gen + 1) % 2]? = some ⟨r, some (put t).1⟩ := by rw [e1] at ho ⊢; exact wr_at ho (put_length t ht)
  have wl : (Fu.wrS st (t.gen % 2) (put t).1).length = 512 := by rw [Fu.wrS_len]; exact h.len
  generalize Fu.wrS st (t.gen % 2) (put t).1 = st1 at w0 w1 wl ⊢
  have new : ∀ st', st'.length = 512 → st'[s.gen % 2]? = some ⟨(put s).1, none⟩ → st'[(s.gen + 1) % 2]? = some ⟨(put t).1, none⟩ →
      ∃ x a b, st'[0]? = some a ∧ st'[1]? = some b ∧ choose 512 a.r b.r = (x, 0) ∧ (x = s ∨ x = t) ∧ (wh = true → x = t) ∧ Jw st' x := by
    intro st' hl ha hb'
    obtain ⟨a, b, h0, h1, hc⟩ := choose_slots ha hb'
    exact ⟨t, a, b, h0, h1, hc.trans (choose_new h.ok ht hg (by omega) h.calls htc h.secs htn), .inr rfl, fun _ => rfl, h.go hb ht hg htc htn hl ha hb'⟩
  cases wh with
  | true =>
    simp only [if_true]
    have b0 : (Fu.bar st1)[s.gen % 2]? = some ⟨(put s).1, none⟩ := by
      unfold Fu.bar; rw [List.getElem?_map, w0]; rfl
    have b1 : (Fu.bar st1)[(s.gen + 1) % 2]? = some ⟨(put t).1, none⟩ := by
      unfold Fu.bar; rw [List.getElem?_map, w1]; rfl
    obtain ⟨c0, k0, -, k2⟩ := Fu.crash_get (Fu.bar st1) xs b0
    obtain ⟨c1, m0, -, m2⟩ := Fu.crash_get (Fu.bar st1) xs b1
    rcases k2 with ⟨-, rfl⟩ | ⟨_, _, hh, -⟩
    · rcases m2 with ⟨-, rfl⟩ | ⟨_, _, hh, -⟩
      · have := new _ (by rw [Fu.crash_len]; unfold Fu.bar; rw [List.length_map, wl]) k0 m0
        simpa using this
      · exact absurd hh (by simp)
    · exact absurd hh (by simp)
  | false =>
    simp only [Bool.false_eq_true, if_false]
    obtain ⟨c0, k0, -, k2⟩ := Fu.crash_get st1 xs w0
    obtain ⟨c1, m0, m1, m2⟩ := Fu.crash_get st1 xs w1
    rcases k2 with ⟨-, rfl⟩ | ⟨_, _, hh, -⟩
    · rcases m2 with ⟨hh, -⟩ | ⟨j, t', hh, hs'⟩
      · exact absurd hh (by simp)
      · obtain rfl : (put t).1 = t' := by simpa using hh
        obtain ⟨cs, ct⟩ := c1
        simp only at m1 hs'
        subst m1
        have hl : (Fu.crash st1 xs).length = 512 := by rw [Fu.crash_len, wl]
        unfold Fu.tornL at hs'
        rcases tear hr ht hg (Fu.kp xs j) (Fu.kp_le xs j) with he | hi
        · rw [he] at hs'
          subst hs'
          have := new _ hl k0 m0
          simpa using this
        · rw [← hs'] at hi
          obtain ⟨a, b, h0, h1, hc⟩ := choose_slots k0 m0
          exact ⟨s, a, b, h0, h1, hc.trans (choose_old h.ok (by omega) h.calls h.secs hi), .inl rfl, by simp, h.keep hl k0 m0 hi⟩
    · exact absurd hh (by simp)
theorem jw_start : Jw (Fu.bar (Fu.wrS (Fu.fresh 512) (1 % 2) (put g5).1)) g5 := by
  have w0 : (Fu.wrS (Fu.fresh 512) (1 % 2) (put g5).1)[0]? = some ⟨Fu.nought, none⟩ := by rw [wr_off _ (by decide)]; exact Fu.fresh_get (by omega)
  have w1 : (Fu.wrS (Fu.fresh 512) (1 % 2) (put g5).1)[1]? = some ⟨Fu.nought, some (put g5).1⟩ := wr_at (Fu.fresh_get (by omega)) (put_length g5 g5_ok)
  refine ⟨?_, g5_ok, by decide, rfl, ?_, Fu.nought, ?_, Inv.nought⟩
  · unfold Fu.bar; rw [List.length_map, Fu.wrS_len, Fu.fresh_len]
  · show (Fu.bar _)[1]? = _
    unfold Fu.bar; rw [List.getElem?_map, w1]; rfl
  · show (Fu.bar _)[0]? = _
    unfold Fu.bar; rw [List.getElem?_map, w0]; rfl
end Go.Proofs.YtlidieffaaicaaaGreat
