/- What stands on a device, plainly; maps of sectors as they read. Conditions: none. -/
import Derived.Test.YtlidieffaaicaaaGreatDvA
import Derived.Test.YtlidieffaaicaaaGreatShelfF
import Derived.Maps.RangeWalk
import Derived.Maps.OwnOps
import Derived.Maps.Ext
namespace Go.Proofs.YtlidieffaaicaaaGreat.Fu
open Go.ChangeShapes Go.WideShapes Go.RowKit Go.Maps
set_option maxRecDepth 100000
/-- One sector: its sure bytes; those that it shows, if it waits. -/
structure Cel where
  s : List UInt8
  t : Option (List UInt8)
/-- What it shows. -/
def Cel.r (c : Cel) : List UInt8 := c.t.getD c.s
/-- All bytes are 128. -/
def Ok (st : List Cel) : Prop := ∀ (i : Nat) (c : Cel), st[i]? = some c → c.s.length = 128 ∧ ∀ t, c.t = some t → t.length = 128
theorem Ok.set {st : List Cel} (h : Ok st) (k : Nat) (c : Cel) (hs : c.s.length = 128) (ht : ∀ t, c.t = some t → t.length = 128) : Ok (st.set k c) := by
  intro i d hd
  rw [List.getElem?_set] at hd
  split at hd
  · split at hd
    · injection hd with hd; subst hd; exact ⟨hs, ht⟩
    · cases hd
  · exact h i d hd
theorem Ok.r {st : List Cel} (h : Ok st) {i : Nat} {c : Cel} (hc : st[i]? = some c) : c.r.length = 128 := by
  obtain ⟨h1, h2⟩ := h i c hc
  unfold Cel.r
  cases ht : c.t with
  | none => exact h1
  | some t => exact h2 t ht
def fresh (n : Nat) : List Cel := List.replicate n ⟨nought, none⟩
theorem fresh_ok (n : Nat) : Ok (fresh n) := by
  intro i c hc
  unfold fresh at hc
  rw [List.getElem?_replicate] at hc
  split at hc
  · injection hc with hc; subst hc; exact ⟨rfl, fun t h => by cases h⟩
  · cases hc
def bar (st : List Cel) : List Cel := st.map fun c => ⟨c.r, none⟩
def waitsN (st : List Cel) : Nat := st.countP fun c => c.t.isSome
/-- A text, and bytes 0 behind it. -/
def full (l : List UInt8) : List UInt8 := l ++ List.replicate (128 - l.length) 0
theorem full_len {l : List UInt8} (h : l.length ≤ 128) : (full l).length = 128 := by simp [full]; omega
/-- A key. -/
abbrev ky (i : Nat) : Lit := .int .i64 (i : Int)
theorem ky_ne {i j : Nat} (h : i ≠ j) : ky i ≠ ky j := by
  intro e
  injection e with _ e
  omega
theorem ky_is (i : Nat) : WideAt.IsKeyLit (ky i) := trivial
/-- A sector's bytes as a datum. -/
abbrev sd (l : List UInt8) : DataW Unit := .lit (.string l)
open Classical in
/-- How a sector reads. -/
noncomputable def R (v : Value) : Option (DataW Unit × List MemPlace) :=
  if h : ∃ l : List UInt8, l.length = 128 ∧ v = .agg (cl l) then some (sd h.choose, []) else none
theorem R_mk {l : List UInt8} (h : l.length = 128) : R (.agg (cl l)) = some (sd l, []) := by
  have hx : ∃ m : List UInt8, m.length = 128 ∧ Value.agg (cl l) = .agg (cl m) := ⟨l, h, rfl⟩
  unfold R
  rw [dif_pos hx]
  have := hx.choose_spec.2
  injection this with this
  rw [← cl_inj this]
theorem R_inv {v : Value} {y : DataW Unit × List MemPlace} (h : R v = some y) : ∃ l : List UInt8, l.length = 128 ∧ v = .agg (cl l) ∧ y = (sd l, []) := by
  unfold R at h
  split at h
  · rename_i hx
    injection h with h
    exact ⟨hx.choose, hx.choose_spec.1, hx.choose_spec.2, h.symm⟩
  · cases h
theorem law : Keyed Tryz.prog 3 := int_keyed Tryz.underlying3
theorem kof (i : Int) (h0 : 0 ≤ i) (h : i ≤ 4096) : keyOf Tryz.prog 3 (.int .i64 i) = some (.int .i64 i) := keyOf_int_mk Tryz.underlying3 (WalkArith.wf_i64 (by omega))
/-- The keys of the map are places below n. -/
def Keyed' (D : DataW Unit) (n : Nat) : Prop := ∀ kl, Maps.has D kl = true → ∃ i, i < n ∧ kl = ky i
/-- The map of those that wait. -/
structure MW (D : DataW Unit) (st : List Cel) : Prop where
  keys : Keyed' D st.length
  has : ∀ (i : Nat) (c : Cel), st[i]? = some c → Maps.has D (ky i) = c.t.isSome
  at' : ∀ (i : Nat) (c : Cel) (t : List UInt8), st[i]? = some c → c.t = some t → ∀ z, D.atKey (ky i) z = sd t
/-- The map of the sure ones. -/
structure MS (D : DataW Unit) (st : List Cel) : Prop where
  keys : Keyed' D st.length
  at' : ∀ (i : Nat) (c : Cel), st[i]? = some c → D.atKey (ky i) (sd nought) = sd c.s
theorem keys_put {D : DataW Unit} {n i : Nat} (h : Keyed' D n) (hi : i < n) (d : DataW Unit) : Keyed' (D.put (ky i) d) n := fun kl hk => by
  by_cases e : kl = ky i
  · exact ⟨i, hi, e⟩
  · rw [has_put_other e] at hk; exact h kl hk
theorem keys_del {D : DataW Unit} {n : Nat} (h : Keyed' D n) (k : Lit) : Keyed' (D.del k) n := fun kl hk => by
  by_cases e : kl = k
  · subst e; rw [has_del_same] at hk; cases hk
  · rw [has_del_other e] at hk; exact h kl hk
theorem MW.put {D : DataW Unit} {st : List Cel} (hm : IsMap D) (h : MW D st) {i : Nat} {c : Cel} (hi : st[i]? = some c) (t : List UInt8) : MW (D.put (ky i) (sd t)) (st.set i ⟨c.s, some t⟩) := by
  have hlt := (List.getElem?_eq_some_iff.1 hi).1
  refine ⟨by rw [List.length_set]; exact keys_put h.keys hlt _, fun j d hd => ?_, fun j d t' hd ht' z => ?_⟩
  · by_cases e : i = j
    · subst e
      rw [List.getElem?_set_self hlt] at hd
      injection hd with hd; subst hd
      rw [has_put_same hm (ky_is i)]; rfl
    · rw [List.getElem?_set_ne e] at hd
      rw [has_put_other (ky_ne (fun e' => e e'.symm))]
      exact h.has j d hd
  · by_cases e : i = j
    · subst e
      rw [List.getElem?_set_self hlt] at hd
      injection hd with hd; subst hd
      injection ht' with ht'; subst ht'
      exact atKey_put_same hm (ky_is i) _ z
    · rw [List.getElem?_set_ne e] at hd
      rw [atKey_put_other (ky_ne (fun e' => e e'.symm))]
      exact h.at' j d t' hd ht' z
theorem MW.del {D : DataW Unit} {st : List Cel} (h : MW D st) {i : Nat} (hi : i < st.length) (s : List UInt8) : MW (D.del (ky i)) (st.set i ⟨s, none⟩) := by
  refine ⟨by rw [List.length_set]; exact keys_del h.keys _, fun j d hd => ?_, fun j d t' hd ht' z => ?_⟩
  · by_cases e : i = j
    · subst e
      rw [List.getElem?_set_self hi] at hd
      injection hd with hd; subst hd
      exact has_del_same
    · rw [List.getElem?_set_ne e] at hd
      rw [has_del_other (ky_ne (fun e' => e e'.symm))]
      exact h.has j d hd
  · by_cases e : i = j
    · subst e
      rw [List.getElem?_set_self hi] at hd
      injection hd with hd; subst hd
      cases ht'
    · rw [List.getElem?_set_ne e] at hd
      rw [atKey_del_other (ky_ne (fun e' => e e'.symm))]
      exact h.at' j d t' hd ht' z
/-- What waits makes no difference to the sure ones. -/
theorem MS.show {D : DataW Unit} {st : List Cel} (h : MS D st) {i : Nat} {c : Cel} (hi : st[i]? = some c) (t : Option (List UInt8)) : MS D (st.set i ⟨c.s, t⟩) := by
  have hlt := (List.getElem?_eq_some_iff.1 hi).1
  refine ⟨by rw [List.length_set]; exact h.keys, fun j d hd => ?_⟩
  by_cases e : i = j
  · subst e
    rw [List.getElem?_set_self hlt] at hd
    injection hd with hd; subst hd
    exact h.at' i c hi
  · rw [List.getElem?_set_ne e] at hd
    exact h.at' j d hd
theorem MS.put {D : DataW Unit} {st : List Cel} (hm : IsMap D) (h : MS D st) {i : Nat} (hi : i < st.length) (s : List UInt8) (t : Option (List UInt8)) : MS (D.put (ky i) (sd s)) (st.set i ⟨s, t⟩) := by
  refine ⟨by rw [List.length_set]; exact keys_put h.keys hi _, fun j d hd => ?_⟩
  by_cases e : i = j
  · subst e
    rw [List.getElem?_set_self hi] at hd
    injection hd with hd; subst hd
    exact atKey_put_same hm (ky_is i) _ _
  · rw [List.getElem?_set_ne e] at hd
    rw [atKey_put_other (ky_ne (fun e' => e e'.symm))]
    exact h.at' j d hd
theorem MS.del {D : DataW Unit} {st : List Cel} (h : MS D st) {i : Nat} (hi : i < st.length) (t : Option (List UInt8)) : MS (D.del (ky i)) (st.set i ⟨nought, t⟩) := by
  refine ⟨by rw [List.length_set]; exact keys_del h.keys _, fun j d hd => ?_⟩
  by_cases e : i = j
  · subst e
    rw [List.getElem?_set_self hi] at hd
    injection hd with hd; subst hd
    exact atKey_del_same _
  · rw [List.getElem?_set_ne e] at hd
    rw [atKey_del_other (ky_ne (fun e' => e e'.symm))]
    exact h.at' j d hd
theorem mw_fresh (n : Nat) : MW (.map []) (fresh n) := by
  refine ⟨fun kl h => (by cases h), fun i c hc => ?_, fun i c t hc ht => ?_⟩ <;>
  · unfold fresh at hc
    rw [List.getElem?_replicate] at hc
    split at hc
    · injection hc with hc; subst hc; first | rfl | cases ht
    · cases hc
theorem ms_fresh (n : Nat) : MS (.map []) (fresh n) := by
  refine ⟨fun kl h => (by cases h), fun i c hc => ?_⟩
  unfold fresh at hc
  rw [List.getElem?_replicate] at hc
  split at hc
  · injection hc with hc; subst hc; rfl
  · cases hc
/-- The places that wait, the least first. -/
def order (st : List Cel) : List Nat := (List.range st.length).filter fun i => ((st[i]?).map fun c => c.t.isSome).getD false
theorem order_mem {st : List Cel} {i : Nat} : i ∈ order st ↔ ∃ c t, st[i]? = some c ∧ c.t = some t := by
  unfold order
  rw [List.mem_filter, List.mem_range]
  constructor
  · rintro ⟨h1, h2⟩
    rw [List.getElem?_eq_getElem h1] at h2 ⊢
    simp at h2
    obtain ⟨t, ht⟩ := Option.isSome_iff_exists.1 h2
    exact ⟨_, t, rfl, ht⟩
  · rintro ⟨c, t, hc, ht⟩
    exact ⟨(List.getElem?_eq_some_iff.1 hc).1, by rw [hc]; simp [ht]⟩
theorem order_nodup (st : List Cel) : (order st).Nodup := List.Nodup.sublist List.filter_sublist List.nodup_range
theorem order_sorted (st : List Cel) : (order st).Pairwise (· < ·) := List.Pairwise.sublist List.filter_sublist List.pairwise_lt_range
theorem order_len (st : List Cel) : (order st).length = waitsN st := by
  unfold order waitsN
  rw [← List.countP_eq_length_filter]
  have e : st = (List.range st.length).map (fun i => st[i]?.getD ⟨[], none⟩) := by
    apply List.ext_getElem?
    intro i
    simp only [List.getElem?_map]
    by_cases h : i < st.length
    · rw [List.getElem?_range h, List.getElem?_eq_getElem h]; simp [h]
    · rw [List.getElem?_eq_none (by omega), List.getElem?_eq_none (by simp; omega)]; rfl
  rw (config := { occs := .pos [3] }) [e]
  rw [List.countP_map]
  apply List.countP_congr
  intro i hi
  rw [List.mem_range] at hi
  simp [List.getElem?_eq_getElem hi]
theorem tight {w : World} {b n : Nat} {D : DataW Unit} (h : w.ownsMap Tryz.prog 3 R b n D) : w.ownsMap Tryz.prog 3 R b (Maps.size D) D := by
  obtain ⟨es, clock, hb, F, hs, rfl⟩ := h
  exact ⟨es, clock, hb, F, by simp [Maps.size, length_sorted], rfl⟩
theorem keys_perm {w : World} {b k n : Nat} {D : DataW Unit} (h : w.ownsMap Tryz.prog 3 R b k D) (hk : Keyed' D n) :
    (((List.range n).filter fun i => Maps.has D (ky i)).map fun i : Nat => (i : Int)).Perm (intKeys D) := by
  obtain ⟨es, rfl, hp, hi⟩ := h.entries law
  have hes : ∀ p ∈ es, ∃ i, i < n ∧ p.1 = ky i := fun p hp' => hk p.1 (by
    rw [has_eq, List.any_eq_true]
    exact ⟨p, hp', WideAt.sameKey_self (hi p hp')⟩)
  refine perm_intKeys hp (fun p hp' => by obtain ⟨i, _, e⟩ := hes p hp'; exact ⟨_, e⟩) ?_ fun x => ?_
  · have hn : (List.filter (fun i => Maps.has (DataW.map es) (ky i)) (List.range n)).Nodup := List.Nodup.sublist List.filter_sublist List.nodup_range
    refine List.pairwise_map.2 (List.Pairwise.imp ?_ hn)
    intro a b hne e
    omega
  · rw [List.mem_map]
    constructor
    · rintro ⟨i, hi', rfl⟩
      exact (List.mem_filter.1 hi').2
    · intro hx
      obtain ⟨i, hi', e⟩ := hk _ hx
      injection e with _ e
      subst e
      exact ⟨i, List.mem_filter.2 ⟨List.mem_range.2 hi', hx⟩, rfl⟩
theorem size_keys {D : DataW Unit} : (intKeys D).length = Maps.size D := by
  cases D <;> simp [intKeys, Maps.size]
theorem size_le {w : World} {b k n : Nat} {D : DataW Unit} (h : w.ownsMap Tryz.prog 3 R b k D) (hk : Keyed' D n) : Maps.size D ≤ n := by
  rw [← size_keys, ← (keys_perm h hk).length_eq, List.length_map]
  exact Nat.le_trans (List.length_filter_le _ _) (by simp)
theorem order_keys {w : World} {b k : Nat} {D : DataW Unit} {st : List Cel} (h : w.ownsMap Tryz.prog 3 R b k D) (hm : MW D st) : ((order st).map fun i : Nat => (i : Int)).Perm (intKeys D) := by
  have := keys_perm h hm.keys
  have e : ((List.range st.length).filter fun i => Maps.has D (ky i)) = order st := by
    unfold order
    apply List.filter_congr
    intro i hi
    rw [List.mem_range] at hi
    rw [List.getElem?_eq_getElem hi, hm.has i _ (List.getElem?_eq_getElem hi)]
    rfl
  rwa [e] at this
theorem size_waits {w : World} {b k : Nat} {D : DataW Unit} {st : List Cel} (h : w.ownsMap Tryz.prog 3 R b k D) (hm : MW D st) : Maps.size D = waitsN st := by
  rw [← size_keys, ← (order_keys h hm).length_eq, List.length_map, order_len]
/-- Only the blocks X, and new ones, have turned. -/
structure Kp (w w' : World) (X : List Nat) : Prop where
  os : w'.os = w.os
  tape : w'.tape = w.tape
  output : w'.output = w.output
  size : w.heap.size ≤ w'.heap.size
  block : ∀ k, k < w.heap.size → k ∉ X → w'.heap[k]? = w.heap[k]?
theorem Kp.refl (w : World) (X : List Nat) : Kp w w X := ⟨rfl, rfl, rfl, Nat.le_refl _, fun _ _ _ => rfl⟩
theorem Kp.trans {a b c : World} {X Y : List Nat} (h : Kp a b X) (k : Kp b c Y) (hY : ∀ y ∈ Y, y ∈ X ∨ a.heap.size ≤ y) : Kp a c X :=
  ⟨k.os.trans h.os, k.tape.trans h.tape, k.output.trans h.output, Nat.le_trans h.size k.size, fun i hi hX =>
    (k.block i (Nat.lt_of_lt_of_le hi h.size) (fun hy => by rcases hY i hy with e | e; exact hX e; omega)).trans (h.block i hi hX)⟩
theorem Kp.more {a b : World} {X Y : List Nat} (h : Kp a b X) (hs : ∀ x ∈ X, x ∈ Y) : Kp a b Y := ⟨h.os, h.tape, h.output, h.size, fun i hi hX => h.block i hi (fun e => hX (hs i e))⟩
theorem Kp.of_below {a b : World} (h : Below a.heap.size a b) (X : List Nat) : Kp a b X := ⟨h.os, h.tape, h.output, h.size, fun k hk _ => h.block k hk⟩
theorem Kp.of_grown {a b : World} {g : Nat} (h : a.grownBy b (some g)) : Kp a b [g] := ⟨h.os, h.tape, h.output, h.size, fun k hk hX => h.block k hk (fun e => hX (by injection e with e; simp [e]))⟩
theorem Kp.below {B : Nat} {a b : World} {X : List Nat} (h : Kp a b X) (hB : B ≤ a.heap.size) (hX : ∀ x ∈ X, B ≤ x) : Below B a b :=
  ⟨h.os, h.tape, h.output, h.size, fun k hk => h.block k (by omega) (fun e => by have := hX k e; omega)⟩
theorem Kp.is {w w' : World} {X : List Nat} {g : Nat} {t : TypeId} {cs : Array Value} (h : Kp w w' X) (hi : Is w g t cs) (hX : g ∉ X) : Is w' g t cs := (h.block g hi.lt hX).trans hi
theorem Kp.owns {w w' : World} {X : List Nat} {b n : Nat} {D : DataW Unit} (h : Kp w w' X) (ho : w.ownsMap Tryz.prog 3 R b n D) (hX : b ∉ X) : w'.ownsMap Tryz.prog 3 R b n D := by
  have hlt := ho.lt
  obtain ⟨es, clock, hb, r⟩ := ho
  exact ⟨es, clock, (h.block b hlt hX).trans hb, r⟩
/-- A device: its struct's block, its maps' blocks, what stands on it. -/
structure Dv (w : World) (B bs bw : Nat) (st : List Cel) : Prop where
  one : Is w B 65 #[.int .i64 (st.length : Nat), .map (some bs), .map (some bw)]
  sure : ∃ k D, w.ownsMap Tryz.prog 3 R bs k D ∧ MS D st
  wait : ∃ k D, w.ownsMap Tryz.prog 3 R bw k D ∧ MW D st
  ne : bs ≠ bw
  ok : Ok st
  lo : 512 ≤ st.length
  hi : st.length ≤ 4096
section
variable {w w' : World} {B bs bw : Nat} {st : List Cel}
theorem Dv.ne1 (h : Dv w B bs bw st) : B ≠ bs := by
  obtain ⟨k, D, ⟨es, clock, hb, _⟩, _⟩ := h.sure
  rintro rfl
  have := h.one
  unfold Is at this
  rw [hb] at this
  cases this
theorem Dv.ne2 (h : Dv w B bs bw st) : B ≠ bw := by
  obtain ⟨k, D, ⟨es, clock, hb, _⟩, _⟩ := h.wait
  rintro rfl
  have := h.one
  unfold Is at this
  rw [hb] at this
  cases this
theorem Dv.lts (h : Dv w B bs bw st) : bs < w.heap.size := by obtain ⟨k, D, ho, _⟩ := h.sure; exact ho.lt
theorem Dv.ltw (h : Dv w B bs bw st) : bw < w.heap.size := by obtain ⟨k, D, ho, _⟩ := h.wait; exact ho.lt
theorem Dv.lt (h : Dv w B bs bw st) : B < w.heap.size := h.one.lt
theorem Dv.kept {X : List Nat} (h : Dv w B bs bw st) (hk : Kp w w' X) (h1 : B ∉ X) (h2 : bs ∉ X) (h3 : bw ∉ X) : Dv w' B bs bw st := by
  obtain ⟨k, D, ho, hD⟩ := h.sure
  obtain ⟨k', D', ho', hD'⟩ := h.wait
  exact ⟨hk.is h.one h1, ⟨k, D, hk.owns ho h2, hD⟩, ⟨k', D', hk.owns ho' h3, hD'⟩, h.ne, h.ok, h.lo, h.hi⟩
theorem Dv.below (h : Dv w B bs bw st) (hb : Below w.heap.size w w') : Dv w' B bs bw st := h.kept (Kp.of_below hb []) (by simp) (by simp) (by simp)
end
end Go.Proofs.YtlidieffaaicaaaGreat.Fu
