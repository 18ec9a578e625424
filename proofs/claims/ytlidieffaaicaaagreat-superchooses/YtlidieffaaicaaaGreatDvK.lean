/- Crashes, devices of a call's own, writes, slices that lie below a block. Conditions: none. -/
import Derived.Test.YtlidieffaaicaaaGreatDvI
namespace Go.Proofs.YtlidieffaaicaaaGreat.Fu
open Go.ChangeShapes Go.WideShapes Go.RowKit Go.Maps
set_option maxRecDepth 100000
theorem bs_app (l m : List UInt8) : bs l ++ bs m = bs (l ++ m) := by
  apply ByteArray.ext
  simp [bs]
theorem bs_data (s : ByteArray) : bs s.data.toList = s := by
  apply ByteArray.ext
  simp [bs]
theorem crash_get (st : List Cel) (xs : List Int) {p : Nat} {c : Cel} (hc : st[p]? = some c) :
    ∃ c', (crash st xs)[p]? = some c' ∧ c'.t = none ∧ ((c.t = none ∧ c' = c) ∨ ∃ j t, c.t = some t ∧ c'.s = tornL c.s t (kp xs j)) := by
  cases ht : c.t with
  | none =>
    refine ⟨c, ?_, ht, .inl ⟨rfl, rfl⟩⟩
    unfold crash
    rw [crN_other st xs p _ (fun j _ e => ?_)]
    · exact hc
    · obtain ⟨c', t, h1, h2⟩ := order_mem.1 (List.mem_of_getElem? e)
      rw [hc] at h1
      injection h1 with h1
      rw [← h1, ht] at h2
      cases h2
  | some t =>
    obtain ⟨j, hj⟩ := List.getElem?_of_mem (order_mem.2 ⟨c, t, hc, ht⟩)
    refine ⟨_, crN_done xs hj hc _ (List.getElem?_eq_some_iff.1 hj).1, rfl, .inr ⟨j, t, rfl, ?_⟩⟩
    simp [Cel.torn, Cel.r, ht]
theorem crash_len (st : List Cel) (xs : List Int) : (crash st xs).length = st.length := crN_len _ _ _
theorem crash_t (st : List Cel) (xs : List Int) {p : Nat} {c : Cel} (hc : (crash st xs)[p]? = some c) : c.t = none := by
  have hlt := (List.getElem?_eq_some_iff.1 hc).1
  rw [crash_len] at hlt
  obtain ⟨c', h1, h2, _⟩ := crash_get st xs (List.getElem?_eq_getElem hlt)
  rw [hc] at h1
  injection h1 with h1
  rw [h1]
  exact h2
theorem waits_none {st : List Cel} (h : ∀ (p : Nat) (c : Cel), st[p]? = some c → c.t = none) : waitsN st = 0 := by
  unfold waitsN
  rw [List.countP_eq_zero]
  intro c hc
  obtain ⟨p, hp⟩ := List.getElem?_of_mem hc
  rw [h p c hp]
  simp
theorem crash_waits (st : List Cel) (xs : List Int) : waitsN (crash st xs) = 0 := waits_none (fun _ _ h => crash_t st xs h)
theorem fresh_get {n i : Nat} (h : i < n) : (fresh n)[i]? = some ⟨nought, none⟩ := by unfold fresh; rw [List.getElem?_replicate, if_pos h]
theorem fresh_len (n : Nat) : (fresh n).length = n := by simp [fresh]
/-- A device of the call's own. -/
structure Own (w w' : World) (B bs bw : Nat) (st : List Cel) : Prop where
  dev : Dv w' B bs bw st
  below : Below w.heap.size w w'
  new : w.heap.size ≤ B ∧ w.heap.size ≤ bs ∧ w.heap.size ≤ bw
theorem Own.later {w w1 w2 : World} {B bs bw : Nat} {st : List Cel} (h : Own w w1 B bs bw st) (hb : Below w1.heap.size w1 w2) : Own w w2 B bs bw st :=
  ⟨h.dev.below hb, h.below.trans (hb.mono h.below.size), h.new⟩
theorem Own.step {w w1 w2 : World} {B bs bw : Nat} {st st' : List Cel} {X : List Nat} (h : Own w w1 B bs bw st) (hd : Dv w2 B bs bw st') (hk : Kp w1 w2 X) (hX : ∀ x ∈ X, x = bs ∨ x = bw) : Own w w2 B bs bw st' :=
  ⟨hd, h.below.trans (hk.below h.below.size (fun x hx => by rcases hX x hx with rfl | rfl; exact h.new.2.1; exact h.new.2.2)), h.new⟩
theorem new512 (w : World) : Calls Tryz.prog 7 #[.int .i64 512] w fun e w' => ∃ B bs bw, e = .returned (.pointer (some ⟨B, 0, none⟩)) ∧ Own w w' B bs bw (fresh 512) := by
  refine (new_any 512 w).mono ?_
  rintro e w' ⟨v, rfl, h⟩
  cases h with
  | none h hw => omega
  | some m B bs bw hn h0 h1 hd hB hb =>
    obtain rfl : m = 512 := by omega
    exact ⟨B, bs, bw, rfl, hd, hb, hB⟩
theorem read_r {w : World} {B bs bw : Nat} {st : List Cel} (h : Dv w B bs bw st) (i : Nat) {c : Cel} (hc : st[i]? = some c) (x : List UInt8) (hx : c.r = x) : Calls Tryz.prog 77 #[.pointer (some ⟨B, 0, none⟩), .int .i64 (i : Int)] w fun e w' => e = .returned (.tuple #[.string (Fu.bs x), .int .i64 0]) ∧ Below w.heap.size w w' := by
  subst hx
  exact read_in h hc
/-- A slice that is written out. -/
theorem sl_lit (xs : List Int) (w : World) : Sl (w.alloc (.cells (xs.map (Value.int .i64)).toArray 3)) (.slice (some ⟨w.heap.size, 0, none⟩) xs.length xs.length) xs := by
  refine ⟨_, _, rfl, fun j x hj => ⟨_, rfl, ?_⟩⟩
  have hadd : (⟨w.heap.size, 0, none⟩ : Addr).add j = ⟨w.heap.size, j, none⟩ := by unfold Addr.add; split <;> simp_all
  rw [hadd, (Is.new w 3 _).cell j]
  simp [hj]
theorem sl_nil (w : World) : Sl w (.slice none 0 0) [] := ⟨none, 0, rfl, fun j x hj => by simp at hj⟩
/-- A slice of numbers that lies below block B. -/
def Sw (w : World) (B : Nat) (v : Value) (xs : List Int) : Prop :=
  ∃ a c, v = .slice a xs.length c ∧ ∀ j x, xs[j]? = some x → ∃ ad, a = some ad ∧ (ad.add j).block < B ∧ w.cell? (ad.add j) = some (.int .i64 x)
theorem Sw.sl {w : World} {B : Nat} {v : Value} {xs : List Int} (h : Sw w B v xs) : Sl w v xs := by
  obtain ⟨a, c, e, hx⟩ := h
  refine ⟨a, c, e, fun j x hj => ?_⟩
  obtain ⟨ad, e, _, hc⟩ := hx j x hj
  exact ⟨ad, e, hc⟩
theorem Sw.kept {w w' : World} {B : Nat} {v : Value} {xs : List Int} (h : Sw w B v xs) (hb : Below B w w') : Sw w' B v xs := by
  obtain ⟨a, c, e, hx⟩ := h
  refine ⟨a, c, e, fun j x hj => ?_⟩
  obtain ⟨ad, e, hB, hc⟩ := hx j x hj
  exact ⟨ad, e, hB, (hb.cell (p := ad.add j) hB).trans hc⟩
/-- A sector is written. -/
def wrS (st : List Cel) (i : Nat) (l : List UInt8) : List Cel := match st[i]? with
  | some c => st.set i ⟨c.s, some (full l)⟩
  | none => st
theorem wrS_len (st : List Cel) (i : Nat) (l : List UInt8) : (wrS st i l).length = st.length := by
  unfold wrS
  split
  · rw [List.length_set]
  · rfl
/-- What a write answers, and what stands there then. -/
def errW (st : List Cel) (at' : Int) (s : ByteArray) : Int := if ck st.length at' = 2 then 2 else if 128 < s.size then 3 else 0
def stW (st : List Cel) (at' : Int) (s : ByteArray) : List Cel := if errW st at' s = 0 then wrS st at'.toNat s.data.toList else st
theorem stW_len (st : List Cel) (at' : Int) (s : ByteArray) : (stW st at' s).length = st.length := by
  unfold stW
  split
  · exact wrS_len _ _ _
  · rfl
theorem ck_two (n : Nat) (z : Int) : ck n z = 2 ∨ (ck n z = 0 ∧ ∃ i : Nat, z = i ∧ i < n) := by
  unfold ck
  split
  · exact .inl rfl
  · exact .inr ⟨rfl, z.toNat, by omega, by omega⟩
theorem ck_in {n i : Nat} (h : i < n) : ck n (i : Int) = 0 := if_neg (by omega)
theorem write_any {w : World} {B bs' bw : Nat} {st : List Cel} (h : Dv w B bs' bw st) (at' : Int) (s : ByteArray) : Calls Tryz.prog 9 #[.pointer (some ⟨B, 0, none⟩), .int .i64 at', .string s] w
    fun e w' => e = .returned (.int .i64 (errW st at' s)) ∧ Dv w' B bs' bw (stW st at' s) ∧ Kp w w' [bs', bw] := by
  unfold stW
  rcases ck_two st.length at' with h2 | ⟨h0, i, rfl, hi⟩
  · have e1 : errW st at' s = 2 := if_pos h2
    rw [e1, if_neg (by decide)]
    refine (write_out h at' s h2).mono ?_
    rintro e w' ⟨rfl, rfl⟩
    exact ⟨rfl, h, Kp.refl _ _⟩
  · by_cases hs : 128 < s.size
    · have e1 : errW st (i : Int) s = 3 := by unfold errW; rw [if_neg (by rw [h0]; decide), if_pos hs]
      rw [e1, if_neg (by decide)]
      refine (write_long h _ s h0 hs).mono ?_
      rintro e w' ⟨rfl, rfl⟩
      exact ⟨rfl, h, Kp.refl _ _⟩
    · have e1 : errW st (i : Int) s = 0 := by unfold errW; rw [if_neg (by rw [h0]; decide), if_neg hs]
      have hc := List.getElem?_eq_getElem hi
      rw [e1, if_pos rfl]
      refine (write_in h hc s (by omega)).mono ?_
      rintro e w' ⟨rfl, hd, hk⟩
      refine ⟨rfl, ?_, hk.more (by simp)⟩
      unfold wrS
      rw [show (i : Int).toNat = i from rfl, hc]
      exact hd
end Go.Proofs.YtlidieffaaicaaaGreat.Fu
