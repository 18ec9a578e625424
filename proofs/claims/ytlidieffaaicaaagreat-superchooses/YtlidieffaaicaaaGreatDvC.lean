/- New, isMade, check, Sectors, Waiting. Conditions: none. -/
import Derived.Test.YtlidieffaaicaaaGreatDvB
namespace Go.Proofs.YtlidieffaaicaaaGreat.Fu
open Go.ChangeShapes Go.WideShapes Go.RowKit Go.Maps
set_option maxRecDepth 100000
/-- None that New or Copy made: nil, or one without sectors. -/
inductive No (w : World) : Value → Prop where
  | nil : No w (.pointer none)
  | zero (B : Nat) (x y : Value) (h : Is w B 65 #[.int .i64 0, x, y]) : No w (.pointer (some ⟨B, 0, none⟩))
theorem No.kept {w w' : World} {v : Value} {X : List Nat} (h : No w v) (hk : Kp w w' X) (hX : ∀ g t cs, Is w g t cs → g ∉ X) : No w' v := by
  cases h with
  | nil => exact .nil
  | zero B x y h => exact .zero B x y (hk.is h (hX _ _ _ h))
theorem No.below {w w' : World} {v : Value} (h : No w v) (hb : Below w.heap.size w w') : No w' v := h.kept (Kp.of_below hb []) (fun _ _ _ _ => by simp)
theorem isMade_yes {w : World} {B bs bw : Nat} {st : List Cel} (h : Dv w B bs bw st) : Calls Tryz.prog 31 #[.pointer (some ⟨B, 0, none⟩)] w fun e w' => e = .returned (.bool true) ∧ w = w' := by
  have c0 := h.one.cell 0
  simp at c0
  have hp : 0 < st.length := by have := h.lo; omega
  clear h
  go_enter Tryz.func31, Tryz.ntmps31
  go_wp2
  go_ret
  exact ⟨rfl, rfl⟩
theorem isMade_no {w : World} {v : Value} (h : No w v) : Calls Tryz.prog 31 #[v] w fun e w' => e = .returned (.bool false) ∧ w = w' := by
  cases h with
  | nil =>
    go_enter Tryz.func31, Tryz.ntmps31
    go_wp2
    go_ret
    exact ⟨rfl, rfl⟩
  | zero B x y h =>
    have c0 := h.cell 0
    simp at c0
    clear h
    go_enter Tryz.func31, Tryz.ntmps31
    go_wp2
    go_ret
    exact ⟨rfl, rfl⟩
/-- Is there such a sector? -/
def ck (n : Nat) (at' : Int) : Int := if at' < 0 ∨ (n : Int) ≤ at' then 2 else 0
theorem check_yes {w : World} {B bs bw : Nat} {st : List Cel} (h : Dv w B bs bw st) (at' : Int) : Calls Tryz.prog 29 #[.pointer (some ⟨B, 0, none⟩), .int .i64 at'] w fun e w' => e = .returned (.int .i64 (ck st.length at')) ∧ w = w' := by
  have c0 := h.one.cell 0
  simp at c0
  have hm := isMade_yes h
  by_cases h0 : at' < 0
  · have e : ck st.length at' = 2 := if_pos (.inl h0)
    rw [e]
    clear h
    go_enter Tryz.func29, Tryz.ntmps29
    go_wp2_with (go_at_call 31; refine hm.mono ?_; rintro e w' ⟨rfl, rfl⟩)
    go_ret
    exact ⟨rfl, rfl⟩
  · by_cases h1 : (st.length : Int) ≤ at'
    · have e : ck st.length at' = 2 := if_pos (.inr h1)
      rw [e]
      clear h
      go_enter Tryz.func29, Tryz.ntmps29
      go_wp2_with (go_at_call 31; refine hm.mono ?_; rintro e w' ⟨rfl, rfl⟩)
      go_ret
      exact ⟨rfl, rfl⟩
    · have e : ck st.length at' = 0 := if_neg (by omega)
      rw [e]
      clear h
      go_enter Tryz.func29, Tryz.ntmps29
      go_wp2_with (go_at_call 31; refine hm.mono ?_; rintro e w' ⟨rfl, rfl⟩)
      go_ret
      exact ⟨rfl, rfl⟩
theorem check_no {w : World} {v : Value} (h : No w v) (at' : Int) : Calls Tryz.prog 29 #[v, .int .i64 at'] w fun e w' => e = .returned (.int .i64 1) ∧ w = w' := by
  have hm := isMade_no h
  clear h
  go_enter Tryz.func29, Tryz.ntmps29
  go_wp2_with (go_at_call 31; refine hm.mono ?_; rintro e w' ⟨rfl, rfl⟩)
  go_ret
  exact ⟨rfl, rfl⟩
/-- What New gives. -/
inductive Made (w w' : World) (n : Int) : Value → Prop where
  | none (h : n < 512 ∨ 4096 < n) (hw : w = w') : Made w w' n (.pointer none)
  | some (m B bs bw : Nat) (hn : n = m) (h0 : 512 ≤ m) (h1 : m ≤ 4096) (hd : Dv w' B bs bw (fresh m)) (hB : w.heap.size ≤ B ∧ w.heap.size ≤ bs ∧ w.heap.size ≤ bw) (hb : Below w.heap.size w w') : Made w w' n (.pointer (some ⟨B, 0, none⟩))
theorem new_any (n : Int) (w : World) : Calls Tryz.prog 7 #[.int .i64 n] w fun e w' => ∃ v, e = .returned v ∧ Made w w' n v := by
  by_cases h0 : n < 512
  · go_enter Tryz.func7, Tryz.ntmps7
    go_wp2
    go_ret
    exact ⟨_, rfl, .none (.inl h0) rfl⟩
  · by_cases h1 : 4096 < n
    · go_enter Tryz.func7, Tryz.ntmps7
      go_wp2
      go_ret
      exact ⟨_, rfl, .none (.inr h1) rfl⟩
    · obtain ⟨m, rfl⟩ : ∃ m : Nat, n = m := ⟨n.toNat, by omega⟩
      have hmm := @run_makeMap Tryz.prog
      go_enter Tryz.func7, Tryz.ntmps7
      go_wp2
      go_ret
      have fl : (fresh m).length = m := by simp [fresh]
      have hb1 : Below w.heap.size w (w.alloc (.map #[] 0)) := below_alloc (Below.refl _ _) _
      have hb2 := below_alloc hb1 (.map #[] 0)
      have e1 : (w.alloc (.map #[] 0)).heap.size = w.heap.size + 1 := by simp
      have e2 : ((w.alloc (.map #[] 0)).alloc (.map #[] 0)).heap.size = w.heap.size + 1 + 1 := by simp
      have hb3 := below_alloc hb2 (.cells #[.int .i64 (m : Int), .map (some w.heap.size), .map (some (w.heap.size + 1))] 65)
      have o1 := ((World.ownsMap_made w Tryz.prog 3 R).alloc (.map #[] 0)).alloc (.cells #[.int .i64 (m : Int), .map (some w.heap.size), .map (some (w.heap.size + 1))] 65)
      have o2 := (World.ownsMap_made (w.alloc (.map #[] 0)) Tryz.prog 3 R).alloc (.cells #[.int .i64 (m : Int), .map (some w.heap.size), .map (some (w.heap.size + 1))] 65)
      have i3 := Is.new ((w.alloc (.map #[] 0)).alloc (.map #[] 0)) 65 #[.int .i64 (m : Int), .map (some w.heap.size), .map (some (w.heap.size + 1))]
      rw [e1] at o2
      rw [e2] at i3
      exact ⟨_, rfl, .some m _ w.heap.size (w.heap.size + 1) rfl (by omega) (by omega) ⟨by rw [fl]; exact i3, ⟨0, _, o1, ms_fresh m⟩, ⟨0, _, o2, mw_fresh m⟩, by omega, fresh_ok m, by omega, by omega⟩ ⟨by omega, by omega, by omega⟩ hb3⟩
end Go.Proofs.YtlidieffaaicaaaGreat.Fu
