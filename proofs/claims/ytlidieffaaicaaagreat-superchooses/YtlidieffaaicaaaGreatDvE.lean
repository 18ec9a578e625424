/- Write. Conditions: none. -/
import Derived.Test.YtlidieffaaicaaaGreatDvD
import Derived.Deep.MidRow
namespace Go.Proofs.YtlidieffaaicaaaGreat.Fu
open Go.ChangeShapes Go.WideShapes Go.RowKit Go.Maps
set_option maxRecDepth 100000
theorem Kp.drew {a b : World} {X : List Nat} (h : Kp a b X) : Kp a b.drew X := ⟨h.os, h.tape, h.output, h.size, h.block⟩
/-- A store into the map of those that wait. -/
theorem up_wait {w : World} {B bs bw : Nat} {st : List Cel} (h : Dv w B bs bw st) {i : Nat} {c : Cel} (hc : st[i]? = some c) {l : List UInt8} (hl : l.length = 128) :
    ∃ w', (Instr.mapUpdate 63 (.map (some bw)) (.int .i64 (i : Int)) (.agg (cl l))).run Tryz.prog w = .ok () w' ∧ Dv w' B bs bw (st.set i ⟨c.s, some l⟩) ∧ w.grownBy w' (some bw) := by
  obtain ⟨k, D, ho, hD⟩ := h.wait
  obtain ⟨k', D', ho', hD'⟩ := h.sure
  have hi := (List.getElem?_eq_some_iff.1 hc).1
  have hsz := size_le ho hD.keys
  have hhi := h.hi
  obtain ⟨w', hrun, hown, hg⟩ := (tight ho).update law Tryz.underlying63 (by unfold maxLen; omega) (kof i (by omega) (by omega)) (R_mk hl)
  refine ⟨w', hrun, ⟨?_, ⟨k', D', ho'.kept hg (by have := h.ne; simp; omega), hD'.show hc _⟩, ⟨_, _, hown, hD.put (ho.tidy law).isMap hc l⟩, h.ne, h.ok.set i _ (h.ok i c hc).1 (fun t e => by injection e with e; rw [← e]; exact hl), by rw [List.length_set]; exact h.lo, by rw [List.length_set]; exact h.hi⟩, hg⟩
  rw [List.length_set]
  exact h.one.kept hg (by have := h.ne2; simp; omega)
theorem write_no {w : World} {v : Value} (h : No w v) (i : Int) (s : ByteArray) : Calls Tryz.prog 9 #[v, .int .i64 i, .string s] w fun e w' => e = .returned (.int .i64 1) ∧ w = w' := by
  have hm := check_no h i
  clear h
  go_enter Tryz.func9, Tryz.ntmps9
  go_wp2_with (go_at_call 29; refine hm.mono ?_; rintro e w' ⟨rfl, rfl⟩)
  go_ret
  exact ⟨rfl, rfl⟩
theorem write_out {w : World} {B bs bw : Nat} {st : List Cel} (h : Dv w B bs bw st) (i : Int) (s : ByteArray) (hi : ck st.length i = 2) : Calls Tryz.prog 9 #[.pointer (some ⟨B, 0, none⟩), .int .i64 i, .string s] w fun e w' => e = .returned (.int .i64 2) ∧ w = w' := by
  have hm := check_yes h i
  rw [hi] at hm
  clear h hi
  go_enter Tryz.func9, Tryz.ntmps9
  go_wp2_with (go_at_call 29; refine hm.mono ?_; rintro e w' ⟨rfl, rfl⟩)
  go_ret
  exact ⟨rfl, rfl⟩
theorem write_long {w : World} {B bs bw : Nat} {st : List Cel} (h : Dv w B bs bw st) (i : Int) (s : ByteArray) (hi : ck st.length i = 0) (hs : 128 < s.size) : Calls Tryz.prog 9 #[.pointer (some ⟨B, 0, none⟩), .int .i64 i, .string s] w fun e w' => e = .returned (.int .i64 3) ∧ w = w' := by
  have hm := check_yes h i
  rw [hi] at hm
  clear h hi
  go_enter Tryz.func9, Tryz.ntmps9
  go_wp2_with (go_at_call 29; refine hm.mono ?_; rintro e w' ⟨rfl, rfl⟩)
  go_ret
  exact ⟨rfl, rfl⟩
set_option maxHeartbeats 1000000 in
theorem write_in {w : World} {B bs bw : Nat} {st : List Cel} (h : Dv w B bs bw st) {i : Nat} {c : Cel} (hc : st[i]? = some c) (s : ByteArray) (hs : s.size ≤ 128) : Calls Tryz.prog 9 #[.pointer (some ⟨B, 0, none⟩), .int .i64 (i : Int), .string s] w
    fun e w' => e = .returned (.int .i64 0) ∧ Dv w' B bs bw (st.set i ⟨c.s, some (full s.data.toList)⟩) ∧ Kp w w' [bw] := by
  have hm := check_yes h (i : Int)
  have hi := (List.getElem?_eq_some_iff.1 hc).1
  rw [show ck st.length (i : Int) = 0 from if_neg (by omega)] at hm
  have hz := zero64
  have hF : (full s.data.toList).length = 128 := full_len (by rw [← Lib.size_eq]; exact hs)
  obtain ⟨F, eF⟩ : ∃ F, full s.data.toList = F := ⟨_, rfl⟩
  have hcp := copy_text hs (Is.new w 71 (cl nought)) 3
  rw [World.setRow_alloc_new, eF] at hcp
  rw [eF] at hF ⊢
  have i1 := Is.new w 71 (cl F)
  have b1 := below_alloc (Below.refl w.heap.size w) (.cells (cl F) 71)
  obtain ⟨w2, e2⟩ : ∃ w2, w.alloc (.cells (cl F) 71) = w2 := ⟨_, rfl⟩
  rw [e2] at hcp i1 b1
  have hd2 := h.below b1
  have hd3 : Dv w2.drew B bs bw st := hd2.kept (X := []) (Kp.drew (Kp.refl _ _)) (by simp) (by simp) (by simp)
  obtain ⟨w3, hup, hdw, hg⟩ := up_wait hd3 hc hF
  have k3 : Kp w w3 [bw] := ((Kp.of_below b1 [bw]).drew).trans (Kp.of_grown hg) (fun y hy => .inl hy)
  have i3 : Is w3 w.heap.size 71 (cl F) := (show Is w2.drew w.heap.size 71 (cl F) from i1).kept hg (by have := h.ltw; simp; omega)
  obtain ⟨L, eL⟩ : ∃ L, Lib.byteCells F = L := ⟨_, rfl⟩
  have eL' : cl F = L.toArray := by unfold cl; rw [eL]
  have r2 : ∀ j v, L[j]? = some v → w2.drew.cell? ⟨w.heap.size, 0 + j, none⟩ = some v := fun j v hv => by
    rw [Nat.zero_add, (show Is w2.drew w.heap.size 71 (cl F) from i1).cell j, eL']; simpa using hv
  have r3 : ∀ j v, L[j]? = some v → w3.cell? ⟨w.heap.size, 0 + j, none⟩ = some v := fun j v hv => by
    rw [Nat.zero_add, i3.cell j, eL']; simpa using hv
  have hu := Tryz.underlying71
  have hLn : L.length = 128 := by rw [← eL, Lib.byteCells_length]; exact hF
  have hinf : (Tryz.prog.info? 71).map (·.size) = some L.length := by rw [hLn]; exact info64
  have d2 := hd3.one.cell 2
  have d3 := hdw.one.cell 2
  simp at d2 d3
  have S2 : w2.drew.cell? ⟨B, 2, none⟩ = some (.map (some bw)) ∧ w2.drew.rangeAt w.heap.size 0 L := ⟨d2, r2⟩
  have S3 : w3.cell? ⟨B, 2, none⟩ = some (.map (some bw)) ∧ w3.rangeAt w.heap.size 0 L := ⟨d3, r3⟩
  rw [eL'] at hup
  have HL := Lib.hid hLn
  clear h hc hi hd2 hd3 i1 i3 r2 r3 hg b1 eL eL' hF d2 d3 hLn eF
  go_enter Tryz.func9, Tryz.ntmps9
  go_wp2_with (go_at_call 29; refine hm.mono ?_; rintro e w' ⟨rfl, rfl⟩)
  go_region_held3 (fun wx => wx.cell? ⟨B, 2, none⟩ = some (.map (some bw)) ∧ wx.rangeAt w.heap.size 0 L) (first | exact S2 | exact S3)
    (fail)
  go_wp2
  go_ret
  exact ⟨rfl, hdw, k3⟩
end Go.Proofs.YtlidieffaaicaaaGreat.Fu
