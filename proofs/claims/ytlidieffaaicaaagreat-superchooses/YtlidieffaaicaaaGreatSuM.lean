/- Choose and Write of a line that holds, of one that is cut, of none. Conditions: numbers of 64 bits. -/
import Derived.Test.YtlidieffaaicaaaGreatSuL
import Derived.Test.YtlidieffaaicaaaGreatFsD
namespace Go.Proofs.YtlidieffaaicaaaGreat.Fu
open Go.ChangeShapes Go.WideShapes Go.RowKit Go.Maps
set_option maxRecDepth 100000
theorem sectors_yes {w : World} {B bs bw : Nat} {st : List Cel} (h : Dv w B bs bw st) : Calls Tryz.prog 49 #[.pointer (some ⟨B, 0, none⟩)] w fun e w' => e = .returned (.int .i64 (st.length : Nat)) ∧ w = w' := by
  have c0 := h.one.cell 0
  simp at c0
  have hm := isMade_yes h
  clear h
  go_enter Tryz.func49, Tryz.ntmps49
  go_wp2_with (go_at_call 31; refine hm.mono ?_; rintro e w' ⟨rfl, rfl⟩)
  go_ret
  exact ⟨rfl, rfl⟩
theorem sectors_nil (w : World) : Calls Tryz.prog 49 #[.pointer none] w fun e w' => e = .returned (.int .i64 0) ∧ w = w' := by
  have hm := isMade_no (w := w) .nil
  go_enter Tryz.func49, Tryz.ntmps49
  go_wp2_with (go_at_call 31; refine hm.mono ?_; rintro e w' ⟨rfl, rfl⟩)
  go_ret
  exact ⟨rfl, rfl⟩
theorem device_nil (w : World) : Calls Tryz.prog 48 #[.pointer none] w fun e w' => e = .returned (.pointer none) ∧ w = w' := by
  go_enter Tryz.func48, Tryz.ntmps48
  go_wp2
  go_ret
  exact ⟨rfl, rfl⟩
end Go.Proofs.YtlidieffaaicaaaGreat.Fu
namespace Go.Proofs.YtlidieffaaicaaaGreat
open Go.ChangeShapes Go.WideShapes Go.RowKit Go.Codec Go.Super
set_option maxRecDepth 100000
set_option linter.unusedSimpArgs false
section
variable {w : World} {F B b c : Nat} {st : List Fu.Cel} {z : Int} {u : Value} {xs : List Int} {k : Nat}
theorem choose_up (h : Fu.Ln w F B b c st z u xs k false) {x0 x1 : Fu.Cel} (hx0 : st[0]? = some x0) (hx1 : st[1]? = some x1) :
    Calls Tryz.prog 22 #[.pointer (some ⟨F, 0, none⟩)] w fun e w' => e = .returned (.tuple #[.agg #[.int .u64 (choose st.length x0.r x1.r).1.gen, .int .u64 (choose st.length x0.r x1.r).1.calls, .int .i64 (choose st.length x0.r x1.r).1.root, .int .i64 (choose st.length x0.r x1.r).1.table, .int .i64 (choose st.length x0.r x1.r).1.secs], .int .i64 (choose st.length x0.r x1.r).2]) ∧ Below w.heap.size w w' := by
  have hl := fun wx (hb : Below w.heap.size w wx) => h.below hb
  refine choose_go _ (.pointer (some ⟨B, 0, none⟩)) st.length (one 0 st.length x0.r) (one 1 st.length x1.r) _ _ rfl rfl (choose st.length x0.r x1.r).1 (choose st.length x0.r x1.r).2 rfl w (Lib.hid ?_) (Lib.hid ?_) (Lib.hid ?_)
  · exact fun wx hb => Fu.device_any (hl wx hb)
  · exact fun wx hb => Fu.sectors_yes (hl wx hb).dev
  · intro wx hb
    refine tell_c _ _ x0.r x1.r (h.dev.ok.r hx0) (h.dev.ok.r hx1) wx (fun wy hc => ?_) (fun wy hc => ?_)
    · have hy := hl wy (hb.trans (hc.mono hb.size))
      exact Fu.lread_up hy 0 (Fu.bs x0.r) 0 (Fu.read_in hy.dev hx0)
    · have hy := hl wy (hb.trans (hc.mono hb.size))
      exact Fu.lread_up hy 1 (Fu.bs x1.r) 0 (Fu.read_in hy.dev hx1)
theorem choose_cut (h : Fu.Ln w F B b c st z u xs k true) :
    Calls Tryz.prog 22 #[.pointer (some ⟨F, 0, none⟩)] w fun e w' => e = .returned (.tuple #[.agg #[.int .u64 0, .int .u64 0, .int .i64 0, .int .i64 0, .int .i64 0], .int .i64 8]) ∧ Below w.heap.size w w' := by
  have hl := fun wx (hb : Below w.heap.size w wx) => h.below hb
  refine choose_err _ (.pointer (some ⟨B, 0, none⟩)) st.length 8 (by decide) w (Lib.hid ?_) (Lib.hid ?_) (Lib.hid ?_)
  · exact fun wx hb => Fu.device_any (hl wx hb)
  · exact fun wx hb => Fu.sectors_yes (hl wx hb).dev
  · exact fun wx hb => tell_err _ _ 8 (by decide) ⟨#[]⟩ wx (fun wy hc => Fu.lread_down (hl wy (hb.trans (hc.mono hb.size))) 0)
theorem choose_nil (w : World) :
    Calls Tryz.prog 22 #[.pointer none] w fun e w' => e = .returned (.tuple #[.agg #[.int .u64 0, .int .u64 0, .int .i64 0, .int .i64 0, .int .i64 0], .int .i64 1]) ∧ Below w.heap.size w w' := by
  refine choose_err _ (.pointer none) 0 1 (by decide) w (Lib.hid ?_) (Lib.hid ?_) (Lib.hid ?_)
  · exact fun wx _ => Fu.device_nil wx
  · exact fun wx _ => Fu.sectors_nil wx
  · exact fun wx _ => tell_err _ _ 1 (by decide) ⟨#[]⟩ wx (fun wy _ => Fu.lread_no .nil 0)
end
theorem write_no (v : Value) (s : S) (hs : ¬ s.Ok) (w : World) : Calls Tryz.prog 15 #[v, .agg #[.int .u64 s.gen, .int .u64 s.calls, .int .i64 s.root, .int .i64 s.table, .int .i64 s.secs]] w fun e w' => e = .returned (.int .i64 4) ∧ Below w.heap.size w w' := by
  have HP := Lib.hid (fun w' => put_c s w')
  have e : put s = ([], 4) := if_neg hs
  rw [e] at HP
  obtain ⟨g, c, r, t, n⟩ := s
  simp only at HP ⊢
  generalize bs [] = q at *
  clear e hs
  have HX := Lib.hid (Box.new w 28 #[.int .u64 g, .int .u64 c, .int .i64 r, .int .i64 t, .int .i64 n])
  obtain ⟨c0, c1, c2, c3, c4⟩ := HX.out.c5
  go_enter Tryz.func15, Tryz.ntmps15
  go_wp2_with fail
  refine (HP.out _).mono ?_; rintro e w1 ⟨rfl, hb⟩
  have HA := Lib.hid (HX.out.later hb)
  clear hb c0 c1 c2 c3 c4
  go_wp2_with fail
  go_ret
  exact ⟨rfl, HA.out.below⟩
theorem write_by (v : Value) (s : S) (hs : s.Ok) (er : Int) (P : World → Prop) (w : World)
    (H : ∀ wx, Below w.heap.size w wx → Calls Tryz.prog 36 #[v, .int .i64 (s.gen % 2 : Nat), .string (bs (put s).1)] wx fun e w' => e = .returned (.int .i64 er) ∧ P w') :
    Calls Tryz.prog 15 #[v, .agg #[.int .u64 s.gen, .int .u64 s.calls, .int .i64 s.root, .int .i64 s.table, .int .i64 s.secs]] w fun e w' => e = .returned (.int .i64 er) ∧ P w' := by
  have HP := Lib.hid (fun w' => put_c s w')
  have e : (put s).2 = 0 := by unfold put; rw [if_pos hs]
  rw [e] at HP
  have HW := Lib.hid H
  obtain ⟨g, c, r, t, n⟩ := s
  simp only at HP HW ⊢
  generalize bs (put ⟨g, c, r, t, n⟩).1 = q at *
  have HS := Lib.hid (fun w' => slot_par g _ rfl w')
  generalize ((g % 2 : Nat) : Int) = m at *
  clear e hs H
  have HX := Lib.hid (Box.new w 28 #[.int .u64 g, .int .u64 c, .int .i64 r, .int .i64 t, .int .i64 n])
  obtain ⟨c0, c1, c2, c3, c4⟩ := HX.out.c5
  go_enter Tryz.func15, Tryz.ntmps15
  go_wp2_with fail
  refine (HP.out _).mono ?_; rintro e w1 ⟨rfl, hb⟩
  have HA := Lib.hid (HX.out.later hb)
  clear hb c0 c1 c2 c3 c4
  obtain ⟨c0, c1, c2, c3, c4⟩ := HA.out.c5
  go_wp2_with fail
  refine (HS.out _).mono ?_; rintro e w2 ⟨rfl, rfl⟩
  go_wp2_with fail
  refine (HW.out _ HA.out.below).mono ?_; rintro e w3 ⟨rfl, hp⟩
  go_wp2_with fail
  go_ret
  exact ⟨rfl, hp⟩
section
variable {w : World} {F B b c : Nat} {st : List Fu.Cel} {z : Int} {u : Value} {xs : List Int} {k : Nat}
theorem write_up (h : Fu.Ln w F B b c st z u xs k false) (hk : k < 1000000) (s : S) (hs : s.Ok) :
    Calls Tryz.prog 15 #[.pointer (some ⟨F, 0, none⟩), .agg #[.int .u64 s.gen, .int .u64 s.calls, .int .i64 s.root, .int .i64 s.table, .int .i64 s.secs]] w fun e w' => e = .returned (.int .i64 (if (k : Int) = z then 8 else 0)) ∧ Fu.Ln w' F B b c (Fu.aft st (Fu.wrS st (s.gen % 2) (put s).1) xs z k) z u xs (k + 1) (decide ((k : Int) = z)) ∧ Fu.Kp w w' [F, b, c] := by
  refine write_by _ s hs _ _ w (fun wx hb => ?_)
  have hl := put_length s hs
  have h0 : Fu.ck st.length ((s.gen % 2 : Nat) : Int) = 0 := Fu.ck_in (by have := h.dev.lo; omega)
  have he : Fu.errW st ((s.gen % 2 : Nat) : Int) (bs (put s).1) = 0 := by
    unfold Fu.errW
    rw [h0, if_neg (by decide), if_neg (by rw [bs_size, hl]; decide)]
  have hw : Fu.stW st ((s.gen % 2 : Nat) : Int) (bs (put s).1) = Fu.wrS st (s.gen % 2) (put s).1 := by
    unfold Fu.stW
    rw [if_pos he, bs_list, Int.toNat_natCast]
  refine (Fu.lwrite_up (h.below hb) hk _ _).mono ?_
  rintro e w' ⟨rfl, h1, h2⟩
  rw [he]
  rw [hw] at h1
  exact ⟨rfl, h1, (Fu.Kp.of_below hb _).trans h2 (fun _ hy => .inl hy)⟩
theorem write_cut (h : Fu.Ln w F B b c st z u xs k true) (s : S) (hs : s.Ok) :
    Calls Tryz.prog 15 #[.pointer (some ⟨F, 0, none⟩), .agg #[.int .u64 s.gen, .int .u64 s.calls, .int .i64 s.root, .int .i64 s.table, .int .i64 s.secs]] w fun e w' => e = .returned (.int .i64 8) ∧ Below w.heap.size w w' :=
  write_by _ s hs _ _ w (fun wx hb => (Fu.lwrite_not (er := 8) (by decide) (fun wy hc => Fu.check_any ((h.below hb).below hc)) _ _).mono fun _ _ ⟨h1, h2⟩ => ⟨h1, hb.trans (h2.mono hb.size)⟩)
theorem write_nil (s : S) (hs : s.Ok) (w : World) :
    Calls Tryz.prog 15 #[.pointer none, .agg #[.int .u64 s.gen, .int .u64 s.calls, .int .i64 s.root, .int .i64 s.table, .int .i64 s.secs]] w fun e w' => e = .returned (.int .i64 1) ∧ Below w.heap.size w w' :=
  write_by _ s hs _ _ w (fun wx hb => (Fu.lwrite_not (er := 1) (by decide) (fun wy _ => Fu.lcheck_no .nil) _ _).mono fun _ _ ⟨h1, h2⟩ => ⟨h1, hb.trans (h2.mono hb.size)⟩)
end
end Go.Proofs.YtlidieffaaicaaaGreat
