/- Write of a line; New. Conditions: none. -/
import Derived.Test.YtlidieffaaicaaaGreatFsB
namespace Go.Proofs.YtlidieffaaicaaaGreat.Fu
open Go.ChangeShapes Go.WideShapes Go.RowKit Go.Maps
set_option maxRecDepth 100000
section
variable {w w' : World} {F B b c : Nat} {st : List Cel} {z : Int} {u : Value} {xs : List Int} {k : Nat} {cut : Bool}
/-- What a write holds in blocks of its own: where, what, and the answer. -/
structure Bx (w : World) (A : Nat) (i : Int) (s : ByteArray) (v : Int) : Prop where
  at' : Is w A 3 #[.int .i64 i]
  s : Is w (A + 1) 9 #[.string s]
  ans : Is w (A + 2) 34 #[.int .i64 v]
theorem done_write {A : Nat} {i : Int} {s : ByteArray} {v : Int} (h : Ln w F B b c st z u xs k cut) (hx : Bx w A i s v) (hA : F < A) :
    Calls Tryz.prog 67 (#[.pointer (some ⟨B, 0, none⟩)] ++ #[.pointer (some ⟨A, 0, none⟩), .pointer (some ⟨A + 1, 0, none⟩), .pointer (some ⟨A + 2, 0, none⟩)]) w
      fun e w2 => e = .returned (.tuple #[]) ∧ Ln w2 F B b c (stW st i s) z u xs k cut ∧ Kp w w2 [b, c, A + 2] ∧ w2.cell? ⟨A + 2, 0, none⟩ = some (.int .i64 (errW st i s)) := by
  have a0 := hx.at'.cell 0
  have a1 := hx.s.cell 0
  simp at a0 a1
  have hw := write_any h.dev i s
  have hB : A + 2 ≠ B := hx.ans.ne h.dev.one (by decide)
  have hm := hx.ans.nomap h.dev
  have hfin : ∀ w2, Dv w2 B b c (stW st i s) → Kp w w2 [b, c] → Is w2 (A + 2) 34 #[.int .i64 v] ∧ Ln (w2.setCell ⟨A + 2, 0, none⟩ (.int .i64 (errW st i s))) F B b c (stW st i s) z u xs k cut ∧ Kp w (w2.setCell ⟨A + 2, 0, none⟩ (.int .i64 (errW st i s))) [b, c, A + 2] ∧
      (w2.setCell ⟨A + 2, 0, none⟩ (.int .i64 (errW st i s))).cell? ⟨A + 2, 0, none⟩ = some (.int .i64 (errW st i s)) := fun w2 hd hk => by
    have i2 := hk.is hx.ans (by simp; omega)
    refine ⟨i2, (h.dev' hd hk).kept (cell_kp _ _ _ _) (by simp; omega) (by simp; omega) (by simp; omega) (by simp; omega), (hk.more (Y := [b, c, A + 2]) (by simp)).trans (cell_kp _ _ _ _) (fun _ hy => .inl (by simp at hy; simp [hy])), ?_⟩
    have := (i2.put 0 (.int .i64 (errW st i s))).cell 0
    simpa using this
  have HF := Lib.hid hfin
  clear hfin h hx
  show Calls Tryz.prog 67 #[.pointer (some ⟨B, 0, none⟩), .pointer (some ⟨A, 0, none⟩), .pointer (some ⟨A + 1, 0, none⟩), .pointer (some ⟨A + 2, 0, none⟩)] w _
  go_enter Tryz.func67, Tryz.ntmps67
  go_wp2_with (go_at_call 9; refine hw.mono ?_; rintro e w2 ⟨rfl, hd, hk⟩; (obtain ⟨i2, hl, hk2, hc⟩ := HF.out w2 hd hk); have j0 := i2.cell 0; simp at j0; have jf := i2.frozen 0; clear hd hk i2)
  go_end0
  exact ⟨rfl, hl, hk2, hc⟩
theorem lwrite_up (h : Ln w F B b c st z u xs k false) (hk : k < 1000000) (i : Int) (s : ByteArray) : Calls Tryz.prog 36 #[.pointer (some ⟨F, 0, none⟩), .int .i64 i, .string s] w
    fun e w' => e = .returned (.int .i64 (if (k : Int) = z then 8 else errW st i s)) ∧ Ln w' F B b c (aft st (stW st i s) xs z k) z u xs (k + 1) (decide ((k : Int) = z)) ∧ Kp w w' [F, b, c] := by
  obtain ⟨w1, e1⟩ : ∃ w1, ((w.alloc (.cells #[.int .i64 i] 3)).alloc (.cells #[.string s] 9)).alloc (.cells #[.int .i64 0] 34) = w1 := ⟨_, rfl⟩
  have s1 : (w.alloc (.cells #[.int .i64 i] 3)).heap.size = w.heap.size + 1 := by simp
  have s2 : ((w.alloc (.cells #[.int .i64 i] 3)).alloc (.cells #[.string s] 9)).heap.size = w.heap.size + 2 := by simp
  have hbx : Bx w1 w.heap.size i s 0 := by
    rw [← e1]
    refine ⟨((Is.new _ _ _).alloc _).alloc _, ?_, ?_⟩
    · have := (Is.new (w.alloc (.cells #[.int .i64 i] 3)) 9 #[.string s]).alloc (.cells #[.int .i64 0] 34)
      rwa [s1] at this
    · have := Is.new ((w.alloc (.cells #[.int .i64 i] 3)).alloc (.cells #[.string s] 9)) 34 #[.int .i64 0]
      rwa [s2] at this
  have b1 : Below w.heap.size w w1 := by rw [← e1]; exact below_alloc (below_alloc (below_alloc (Below.refl _ _) _) _) _
  have hF : F < w.heap.size := h.one.lt
  have h1 := h.below b1
  have hdo : ∀ w2, Ln w2 F B b c st z u xs (k + 1) false → Kp w1 w2 [F] → Calls Tryz.prog 67 (#[.pointer (some ⟨B, 0, none⟩)] ++ #[.pointer (some ⟨w.heap.size, 0, none⟩), .pointer (some ⟨w.heap.size + 1, 0, none⟩), .pointer (some ⟨w.heap.size + 2, 0, none⟩)]) w2
      fun e w3 => e = .returned (.tuple #[]) ∧ Ln w3 F B b c (stW st i s) z u xs (k + 1) false ∧ Kp w2 w3 [b, c, w.heap.size + 2] ∧ w3.cell? ⟨w.heap.size + 2, 0, none⟩ = some (.int .i64 (errW st i s)) := fun w2 h2 k2 =>
    done_write h2 ⟨k2.is hbx.at' (by simp; omega), k2.is hbx.s (by simp; omega), k2.is hbx.ans (by simp; omega)⟩ hF
  have hmf : ∀ (fn : Fn) (first cap : Array Value) (w : World), (Instr.makeFunc fn first cap).run Tryz.prog w = .ok (.func fn first cap) w := fun _ _ _ _ => rfl
  have B1 := Lib.hid b1
  by_cases hz : (k : Int) = z
  · have H := act_last enters33 h1 hz hk (fun w2 h2 k2 => (hdo w2 h2 k2).mono fun e w3 ⟨a1, a2, a3, _⟩ => ⟨a1, a2, a3⟩)
    have ea : aft st (stW st i s) xs z k = crash (if oddF xs then stW st i s else st) xs := if_pos hz
    obtain ⟨S, hS⟩ : ∃ S, aft st (stW st i s) xs z k = S := ⟨_, rfl⟩
    rw [← ea, hS] at H
    rw [if_pos hz, hS, decide_eq_true hz]
    clear h h1 hdo hbx ea hS b1
    go_enter Tryz.func36, Tryz.ntmps36
    go_wp2_with (go_at_call 68; refine H.mono ?_; rintro e w' ⟨rfl, hl, hk⟩)
    go_ret
    exact ⟨rfl, hl, (Kp.of_below B1.out [F, b, c]).trans hk (fun y hy => by simp at hy; rcases hy with rfl | rfl | rfl | rfl | rfl | rfl <;> simp)⟩
  · have H := act_go enters33 h1 hz hk hdo
    have ea : aft st (stW st i s) xs z k = stW st i s := if_neg hz
    obtain ⟨S, hS⟩ : ∃ S, stW st i s = S := ⟨_, rfl⟩
    obtain ⟨er, he⟩ : ∃ er, errW st i s = er := ⟨_, rfl⟩
    rw [hS, he] at H
    rw [if_neg hz, ea, hS, he, decide_eq_false hz]
    clear h h1 hdo hbx ea hS he b1
    go_enter Tryz.func36, Tryz.ntmps36
    go_wp2_with (go_at_call 68; refine H.mono ?_; rintro e w' ⟨rfl, hl, hk, hc⟩)
    go_ret
    exact ⟨rfl, hl, (Kp.of_below B1.out [F, b, c]).trans hk (fun y hy => by simp at hy; rcases hy with rfl | rfl | rfl | rfl <;> simp)⟩
theorem lwrite_not {v : Value} {er : Int} (he : er ≠ 0) (H : ∀ w1, Below w.heap.size w w1 → Calls Tryz.prog 40 #[v] w1 fun e w' => e = .returned (.int .i64 er) ∧ w1 = w') (i : Int) (s : ByteArray) :
    Calls Tryz.prog 36 #[v, .int .i64 i, .string s] w fun e w' => e = .returned (.int .i64 er) ∧ Below w.heap.size w w' := by
  obtain ⟨w1, e1⟩ : ∃ w1, ((w.alloc (.cells #[.int .i64 i] 3)).alloc (.cells #[.string s] 9)).alloc (.cells #[.int .i64 0] 34) = w1 := ⟨_, rfl⟩
  have s1 : (w.alloc (.cells #[.int .i64 i] 3)).heap.size = w.heap.size + 1 := by simp
  have s2 : ((w.alloc (.cells #[.int .i64 i] 3)).alloc (.cells #[.string s] 9)).heap.size = w.heap.size + 2 := by simp
  have b1 : Below w.heap.size w w1 := by rw [← e1]; exact below_alloc (below_alloc (below_alloc (Below.refl _ _) _) _) _
  have hmf : ∀ (fn : Fn) (first cap : Array Value) (w : World), (Instr.makeFunc fn first cap).run Tryz.prog w = .ok (.func fn first cap) w := fun _ _ _ _ => rfl
  have HA := act_not (g := .func (.func 67) #[] #[.pointer (some ⟨w.heap.size, 0, none⟩), .pointer (some ⟨w.heap.size + 1, 0, none⟩), .pointer (some ⟨w.heap.size + 2, 0, none⟩)]) he (H w1 b1)
  have hb : (er != 0) = true := by simpa using he
  have B1 := Lib.hid b1
  clear b1 H
  go_enter Tryz.func36, Tryz.ntmps36
  go_wp2_with (go_at_call 68; refine HA.mono ?_; rintro e w' ⟨rfl, rfl⟩)
  go_ret
  exact ⟨rfl, B1.out⟩
theorem clone_any {v : Value} (h : Sl w v xs) (hl : xs.length ≤ 1000) : Calls Tryz.prog 33 #[v] w fun e w' => ∃ v', e = .returned v' ∧ Sw w' w'.heap.size v' xs ∧ Below w.heap.size w w' ∧ (∀ g, v'.ownBlock = some g → w.heap.size ≤ g) := by
  obtain ⟨a, cp, rfl, hx⟩ := h
  cases a with
  | none =>
    cases xs with
    | nil =>
      refine (Any.slices_Clone_int_nil Tryz.clone25 0 cp w).mono ?_
      rintro e w' ⟨rfl, rfl⟩
      exact ⟨_, rfl, ⟨none, 0, rfl, fun j x hj => by simp at hj⟩, Below.refl _ _, fun g h => by cases h⟩
    | cons x l => obtain ⟨ad, e, _⟩ := hx 0 x rfl; cases e
  | some ad =>
    obtain ⟨g, off, spot⟩ := ad
    cases xs with
    | nil =>
      refine (Any.slices_Clone_int_zero Tryz.clone25 ⟨g, off, spot⟩ cp w).mono ?_
      rintro e w' ⟨v', rfl, hown, hne, hb⟩
      obtain ⟨h1, h2⟩ := hown
      rcases h2 with ⟨e, _⟩ | ⟨g', cap', cur, e, hg, hbk, hcap, _, hsz, htk⟩
      · exact absurd e hne
      · exact ⟨_, rfl, ⟨_, cap', e, fun j x hj => by simp at hj⟩, hb, fun g0 h => by rw [e] at h; have h2 : g' = g0 := Option.some.inj h; omega⟩
    | cons x l =>
      obtain ⟨ad0, e0, hc⟩ := hx 0 x rfl
      injection e0 with e0
      subst e0
      have hs : spot = none := by
        cases spot with
        | none => rfl
        | some y => exfalso; unfold World.cell? at hc; simp [Addr.add] at hc; split at hc <;> simp at hc
      subst hs
      refine (Any.slices_Clone_int Tryz.clone25 g off (x :: l).length cp (x :: l) w (Nat.le_refl _) (by omega) (fun j hj => ?_)).mono ?_
      · obtain ⟨ad, e, hc⟩ := hx j _ (List.getElem?_eq_getElem hj)
        injection e with e
        subst e
        have hadd : (⟨g, off, none⟩ : Addr).add j = ⟨g, off + j, none⟩ := by unfold Addr.add; split <;> simp_all
        rw [hadd] at hc
        rw [hc, List.getD, List.getElem?_eq_getElem hj]
        rfl
      · rintro e w' ⟨v', rfl, hown, hne, hb⟩
        obtain ⟨h1, h2⟩ := hown
        rcases h2 with ⟨e, _⟩ | ⟨g', cap', cur, e, hg, hbk, hcap, _, hsz, htk⟩
        · exact absurd e hne
        · refine ⟨_, rfl, ?_, hb, fun g0 h => by rw [e] at h; have h2 : g' = g0 := Option.some.inj h; omega⟩
          refine ⟨some ⟨g', 0, none⟩, cap', e, fun j y hj => ⟨⟨g', 0, none⟩, rfl, ?_, ?_⟩⟩
          · have hlt := (Array.getElem?_eq_some_iff.1 hbk).1
            have hadd : (⟨g', 0, none⟩ : Addr).add j = ⟨g', j, none⟩ := by unfold Addr.add; split <;> simp_all
            rw [hadd]
            exact hlt
          · have hadd : (⟨g', 0, none⟩ : Addr).add j = ⟨g', j, none⟩ := by unfold Addr.add; split <;> simp_all
            rw [hadd, cell_of_row w' g' j cur _ _ hbk]
            have hjl := (List.getElem?_eq_some_iff.1 hj).1
            have : (List.take ((x :: l).length * 1) cur.toList)[j]? = some (.int .i64 y) := by rw [htk, List.take_length, List.getElem?_map, hj]; rfl
            rw [List.getElem?_take, if_pos (by omega)] at this
            simpa using this
theorem lnew_nil (x y : Value) (w : World) : Calls Tryz.prog 13 #[.pointer none, x, y] w fun e w' => e = .returned (.pointer none) ∧ w = w' := by
  go_enter Tryz.func13, Tryz.ntmps13
  go_wp2
  go_ret
  exact ⟨rfl, rfl⟩
theorem lnew_any {v : Value} (hd : Dv w B b c st) (h : Sl w v xs) (hl : xs.length ≤ 1000) (z : Int) : Calls Tryz.prog 13 #[.pointer (some ⟨B, 0, none⟩), .int .i64 z, v] w
    fun e w' => ∃ F u', e = .returned (.pointer (some ⟨F, 0, none⟩)) ∧ Ln w' F B b c st z u' xs 0 false ∧ w.heap.size ≤ F ∧ Below w.heap.size w w' ∧ (∀ g, u'.ownBlock = some g → w.heap.size ≤ g) := by
  have hc := clone_any h hl
  have HD := Lib.hid hd
  clear h hd
  go_enter Tryz.func13, Tryz.ntmps13
  go_wp2_with (go_at_call 33; refine hc.mono ?_; rintro e w1 ⟨u', rfl, hs, hb, hhi⟩; have hs2 := hs; obtain ⟨a', c', rfl, -⟩ := hs2)
  go_ret
  have hd1 := HD.out.below hb
  have hb2 : Below w1.heap.size w1 (w1.alloc (.cells #[.pointer (some ⟨B, 0, none⟩), .int .i64 z, .slice a' xs.length c', .int .i64 0, .bool false] 79)) := below_alloc (Below.refl _ _) _
  exact ⟨_, _, rfl, ⟨Is.new _ _ _, hd1.below hb2, hs.kept hb2, by have := hd1.lt; omega⟩, hb.size, hb.trans (hb2.mono hb.size), hhi⟩
end
end Go.Proofs.YtlidieffaaicaaaGreat.Fu
