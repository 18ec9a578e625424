/- settle. Conditions: none. -/
import Derived.Test.YtlidieffaaicaaaGreatDvE
import Derived.Stop.BytesEq
namespace Go.Proofs.YtlidieffaaicaaaGreat.Fu
open Go.ChangeShapes Go.WideShapes Go.RowKit Go.Maps
set_option maxRecDepth 100000
theorem eql_sec (w : World) {l m : List UInt8} (hl : l.length = 128) (hm : m.length = 128) : (Op.equalIn 10000 71 (.agg (cl l)) (.agg (cl m))).run Tryz.prog w = .ok (l == m) w :=
  run_equalIn_bytes w 9998 71 5 128 Tryz.underlying71 Tryz.underlying5 Tryz.sizeOf5 l m hl hm
/-- What is sure makes no difference to those that wait. -/
theorem MW.same {D : DataW Unit} {st : List Cel} (h : MW D st) {i : Nat} {c : Cel} (hi : st[i]? = some c) (s : List UInt8) : MW D (st.set i ⟨s, c.t⟩) := by
  have hlt := (List.getElem?_eq_some_iff.1 hi).1
  refine ⟨by rw [List.length_set]; exact h.keys, fun j d hd => ?_, fun j d t hd ht z => ?_⟩
  · by_cases e : i = j
    · subst e
      rw [List.getElem?_set_self hlt] at hd
      injection hd with hd; subst hd
      exact h.has i c hi
    · rw [List.getElem?_set_ne e] at hd
      exact h.has j d hd
  · by_cases e : i = j
    · subst e
      rw [List.getElem?_set_self hlt] at hd
      injection hd with hd; subst hd
      exact h.at' i c t hi ht z
    · rw [List.getElem?_set_ne e] at hd
      exact h.at' j d t hd ht z
theorem Kp.turned {a b : World} {g : Nat} (h : a.mapTurned b g) : Kp a b [g] := Kp.of_grown h.grown
/-- A sector is taken out of those that wait. -/
theorem del_wait {w : World} {B bs bw : Nat} {st : List Cel} (h : Dv w B bs bw st) {i : Nat} {c : Cel} (hc : st[i]? = some c) (ty : TypeId) :
    ∃ w', (Builtin.delete_ #[63, 3] ty #[.map (some bw), .int .i64 (i : Int)]).run Tryz.prog w = .ok (.tuple #[]) w' ∧ Dv w' B bs bw (st.set i ⟨c.s, none⟩) ∧ w.mapTurned w' bw := by
  obtain ⟨k, D, ho, hD⟩ := h.wait
  obtain ⟨k', D', ho', hD'⟩ := h.sure
  have hi := (List.getElem?_eq_some_iff.1 hc).1
  have hhi := h.hi
  obtain ⟨w', hrun, hown, hg⟩ := ho.drop law Tryz.underlying63 (kof i (by omega) (by omega)) ty
  have kk := Kp.turned hg
  refine ⟨w', hrun, ⟨?_, ⟨k', D', kk.owns ho' (by have := h.ne; simp; omega), hD'.show hc _⟩, ⟨_, _, hown, hD.del hi _⟩, h.ne, h.ok.set i _ (h.ok i c hc).1 (fun t e => by cases e), by rw [List.length_set]; exact h.lo, by rw [List.length_set]; exact h.hi⟩, hg⟩
  rw [List.length_set]
  exact kk.is h.one (by have := h.ne2; simp; omega)
theorem del_sure {w : World} {B bs bw : Nat} {st : List Cel} (h : Dv w B bs bw st) {i : Nat} {c : Cel} (hc : st[i]? = some c) (ty : TypeId) :
    ∃ w', (Builtin.delete_ #[63, 3] ty #[.map (some bs), .int .i64 (i : Int)]).run Tryz.prog w = .ok (.tuple #[]) w' ∧ Dv w' B bs bw (st.set i ⟨nought, c.t⟩) ∧ w.mapTurned w' bs := by
  obtain ⟨k, D, ho, hD⟩ := h.wait
  obtain ⟨k', D', ho', hD'⟩ := h.sure
  have hi := (List.getElem?_eq_some_iff.1 hc).1
  have hhi := h.hi
  obtain ⟨w', hrun, hown, hg⟩ := ho'.drop law Tryz.underlying63 (kof i (by omega) (by omega)) ty
  have kk := Kp.turned hg
  refine ⟨w', hrun, ⟨?_, ⟨_, _, hown, hD'.del hi _⟩, ⟨k, D, kk.owns ho (by have := h.ne; simp; omega), ?_⟩, h.ne, h.ok.set i _ nought_len (h.ok i c hc).2, by rw [List.length_set]; exact h.lo, by rw [List.length_set]; exact h.hi⟩, hg⟩
  · rw [List.length_set]
    exact kk.is h.one (by have := h.ne1; simp; omega)
  · exact hD.same hc _
theorem put_sure {w : World} {B bs bw : Nat} {st : List Cel} (h : Dv w B bs bw st) {i : Nat} {c : Cel} (hc : st[i]? = some c) {l : List UInt8} (hl : l.length = 128) :
    ∃ w', (Instr.mapUpdate 63 (.map (some bs)) (.int .i64 (i : Int)) (.agg (cl l))).run Tryz.prog w = .ok () w' ∧ Dv w' B bs bw (st.set i ⟨l, c.t⟩) ∧ w.grownBy w' (some bs) := by
  obtain ⟨k, D, ho, hD⟩ := h.wait
  obtain ⟨k', D', ho', hD'⟩ := h.sure
  have hi := (List.getElem?_eq_some_iff.1 hc).1
  have hsz := size_le ho' hD'.keys
  have hhi := h.hi
  obtain ⟨w', hrun, hown, hg⟩ := (tight ho').update law Tryz.underlying63 (by unfold maxLen; omega) (kof i (by omega) (by omega)) (R_mk hl)
  refine ⟨w', hrun, ⟨?_, ⟨_, _, hown, hD'.put (ho'.tidy law).isMap hi l _⟩, ⟨k, D, ho.kept hg (by have := h.ne; simp; omega), hD.same hc _⟩, h.ne, h.ok.set i _ hl (h.ok i c hc).2, by rw [List.length_set]; exact h.lo, by rw [List.length_set]; exact h.hi⟩, hg⟩
  rw [List.length_set]
  exact h.one.kept hg (by have := h.ne1; simp; omega)

set_option maxHeartbeats 1000000 in
theorem settle_any {w : World} {B bs bw : Nat} {st : List Cel} (h : Dv w B bs bw st) {i : Nat} {c : Cel} (hc : st[i]? = some c) {s : List UInt8} (hs : s.length = 128) :
    Calls Tryz.prog 32 #[.pointer (some ⟨B, 0, none⟩), .int .i64 (i : Int), .agg (cl s)] w fun e w' => e = .returned (.tuple #[]) ∧
      (∃ w2, (Builtin.delete_ #[63, 3] 0 #[.map (some bw), .int .i64 (i : Int)]).run Tryz.prog (w.alloc (.cells (cl s) 71)) = .ok (.tuple #[]) w2 ∧ w2.grownBy w' (some bs)) ∧
      Dv w' B bs bw (st.set i ⟨s, none⟩) ∧ Kp w w' [bs, bw] := by
  have i1 := Is.new w 71 (cl s)
  have b1 := below_alloc (Below.refl w.heap.size w) (.cells (cl s) 71)
  obtain ⟨w1, e1⟩ : ∃ w1, w.alloc (.cells (cl s) 71) = w1 := ⟨_, rfl⟩
  rw [e1] at i1 b1 ⊢
  have h1 := h.below b1
  obtain ⟨w2, hdel, h2, ht⟩ := del_wait h1 hc 0
  have hi := (List.getElem?_eq_some_iff.1 hc).1
  have hc2 : (st.set i ⟨c.s, none⟩)[i]? = some ⟨c.s, none⟩ := List.getElem?_set_self hi
  have k12 := Kp.turned ht
  have hgw : w.heap.size ≠ bw := by have := h.ltw; omega
  have hgs : w.heap.size ≠ bs := by have := h.lts; omega
  have i2 : Is w2 w.heap.size 71 (cl s) := k12.is i1 (by simp; omega)
  have c1 := h1.one.cell 2
  have c2 := h2.one.cell 1
  simp at c1 c2
  have hq := fun W => eql_sec W hs nought_len
  have hz0 := zero64
  have kw2 : Kp w w2 [bs, bw] := (Kp.of_below b1 [bs, bw]).trans k12 (fun y hy => .inl (by simp at hy; simp [hy]))
  by_cases hz : s = nought
  · obtain ⟨w3, hdel2, h3, ht3⟩ := del_sure h2 hc2 0
    have hz' : (s == nought) = true := by simp [hz]
    rw [hz'] at hq
    have k23 := Kp.turned ht3
    rw [List.set_set] at h3
    rw [← hz] at h3
    have hg3 := ht3.grown
    have kw3 : Kp w w3 [bs, bw] := kw2.trans k23 (fun y hy => .inl (by simp at hy; simp [hy]))
    clear h h1 h2 ht ht3 k12 k23 hc hc2 hi i1 b1 kw2 hz'
    have HZ := Lib.hid hz
    clear hz
    go_enter Tryz.func32, Tryz.ntmps32
    go_wp2_with (first
      | (refine wpList_load_row rfl 71 (Operand.tmp 5) rfl w.heap.size rfl 71 (cl s) (0, 0) _ i2 Tryz.underlying71 rfl (info64' hs) ?_))
    refine bodyPost_ret (results_none rfl _ _ _) rfl ?_
    exact ⟨rfl, hg3, h3, kw3⟩
  · have hz' : (s == nought) = false := by simp [hz]
    rw [hz'] at hq
    have h2d : Dv w2.drew B bs bw (st.set i ⟨c.s, none⟩) := h2.kept (X := []) (Kp.drew (Kp.refl _ _)) (by simp) (by simp) (by simp)
    obtain ⟨w3, hup, h3, hg3⟩ := put_sure h2d hc2 hs
    have hg3' : w2.grownBy w3 (some bs) := ⟨hg3.os, hg3.tape, hg3.output, hg3.size, hg3.block⟩
    have kw3 : Kp w w3 [bs, bw] := kw2.trans (Kp.of_grown hg3') (fun y hy => .inl (by simp at hy; simp [hy]))
    rw [List.set_set] at h3
    have i3 : Is w3 w.heap.size 71 (cl s) := i2.kept hg3' (by simp; omega)
    obtain ⟨L, eL⟩ : ∃ L, Lib.byteCells s = L := ⟨_, rfl⟩
    have eL' : cl s = L.toArray := by unfold cl; rw [eL]
    have r2 : ∀ j v, L[j]? = some v → w2.drew.cell? ⟨w.heap.size, 0 + j, none⟩ = some v := fun j v hv => by
      rw [Nat.zero_add, (show Is w2.drew w.heap.size 71 (cl s) from i2).cell j, eL']; simpa using hv
    have r3 : ∀ j v, L[j]? = some v → w3.cell? ⟨w.heap.size, 0 + j, none⟩ = some v := fun j v hv => by
      rw [Nat.zero_add, i3.cell j, eL']; simpa using hv
    have hu := Tryz.underlying71
    have hLn : L.length = 128 := by rw [← eL, Lib.byteCells_length]; exact hs
    have hinf : (Tryz.prog.info? 71).map (·.size) = some L.length := by rw [hLn]; exact info64
    have d3 := h3.one.cell 1
    simp at d3
    have S2 : w2.drew.cell? ⟨B, 1, none⟩ = some (.map (some bs)) ∧ w2.drew.rangeAt w.heap.size 0 L := ⟨c2, r2⟩
    have S3 : w3.cell? ⟨B, 1, none⟩ = some (.map (some bs)) ∧ w3.rangeAt w.heap.size 0 L := ⟨d3, r3⟩
    rw [eL'] at hup
    have HL := Lib.hid hLn
    have HE := Lib.hid eL'
    clear h h1 h2 h2d ht k12 hc hc2 hi i1 i3 b1 kw2 hz' hg3 r2 r3 d3 hLn eL eL'
    have HZ := Lib.hid hz
    clear hz
    go_enter Tryz.func32, Tryz.ntmps32
    go_wp2_with (first
      | (refine wpList_load_row rfl 71 (Operand.tmp 5) rfl w.heap.size rfl 71 (cl s) (0, 0) _ i2 Tryz.underlying71 rfl (info64' hs) ?_))
    go_region_held3 (fun wx => wx.cell? ⟨B, 1, none⟩ = some (.map (some bs)) ∧ wx.rangeAt w.heap.size 0 L) (first | exact S2 | exact S3)
      (fail)
    go_wp2
    go_end0
    exact ⟨rfl, ⟨w2, hdel, hg3'⟩, h3, kw3⟩
end Go.Proofs.YtlidieffaaicaaaGreat.Fu
