/- The document's allocator: New; few, theirs. Conditions: none. -/
import Derived.Test.YtnpjbddannkgfaaRfA
namespace Go.Proofs.Ytnpjbddannkgfaa
open Go.ChangeShapes Go.WideShapes Go.RowKit Go.Maps Go.Spans Go.Alloc
set_option maxRecDepth 100000
theorem row_kpe {w w' : World} {base e size n : Nat} {v : Value} {cs : List Value} {X : List Nat} (h : w.ownsRow base e size v n cs) (hk : Kp w w' X) (hX : ∀ g ∈ X, ∀ cs, ¬ Is w g e cs) : w'.ownsRow base e size v n cs := by
  obtain ⟨h0, h | ⟨g, cap, cur, e1, e2, e3, e4⟩⟩ := h
  · exact ⟨h0, .inl h⟩
  · exact ⟨h0, .inr ⟨g, cap, cur, e1, e2, hk.is (show Is w g e cur from e3) (fun hm => hX g hm _ e3), e4⟩⟩
section
variable {w w' : World} {B R hF hW f n : Nat} {fr wt : Nat → Bool} {vL : Value} {ks : List (Value × Ch)}
theorem Bs.is {H n : Nat} {h : Nat → Bool} (x : Bs w H n h) {e : Nat} (he : e ≠ 4) : ∀ g ∈ [H], ∀ cs, ¬ Is w g e cs := fun g hg cs hi => by
  obtain ⟨cur, h4, _⟩ := x
  simp at hg
  exact hi.ne h4 he hg
theorem Rf.lt (h : Rf w B R hF hW f n fr wt vL ks) : B ≤ w.heap.size := by have := h.one.lt; have := h.lo; omega
theorem Rf.putF (h : Rf w B R hF hW f n fr wt vL ks) (k : Nat) (u : Bool) : Rf (w.setCell ⟨hF, k, none⟩ (.bool u)) B R hF hW f n (fun j => if j = k then u else fr j) wt vL ks ∧ Kp w (w.setCell ⟨hF, k, none⟩ (.bool u)) [hF] := by
  have kk : Kp w (w.setCell ⟨hF, k, none⟩ (.bool u)) [hF] := (Kp.refl w [hF]).put ⟨hF, k, none⟩ _ (.inl (by simp))
  refine ⟨⟨kk.is h.one (fun hm => h.fb.is (e := 72) (by decide) R hm _ h.one), h.fb.put k u, h.wb.kept kk (fun hm => h.ne (by simp at hm; exact hm.symm)), h.ne, h.lo, row_kpe h.row kk (h.fb.is (by decide)), fun x hx => row_kpe (h.rows x hx) kk (h.fb.is (by decide))⟩, kk⟩
theorem Rf.setL (h : Rf w B R hF hW f n fr wt vL ks) {vL' : Value} {ks' : List (Value × Ch)} (hr : w.ownsRow B 85 3 vL' ks'.length (kcs ks')) (hrs : ∀ k ∈ ks', w.ownsRow 0 3 1 k.1 k.2.secs.length (zs (nz k.2.secs))) :
    Rf (w.setCell ⟨R, 4, none⟩ vL') B R hF hW f n fr wt vL' ks' ∧ Kp w (w.setCell ⟨R, 4, none⟩ vL') [R] := by
  have kk : Kp w (w.setCell ⟨R, 4, none⟩ vL') [R] := (Kp.refl w [R]).put ⟨R, 4, none⟩ _ (.inl (by simp))
  have hX : ∀ e : Nat, e ≠ 72 → ∀ g ∈ [R], ∀ cs, ¬ Is w g e cs := fun e he g hg cs hi => by
    simp at hg
    exact hi.ne h.one he hg
  obtain ⟨c1, i1, _⟩ := h.fb
  obtain ⟨c2, i2, _⟩ := h.wb
  refine ⟨⟨?_, h.fb.kept kk (fun hm => hX 4 (by decide) _ hm _ i1), h.wb.kept kk (fun hm => hX 4 (by decide) _ hm _ i2), h.ne, h.lo, row_kpe hr kk (hX _ (by decide)), fun x hx => row_kpe (hrs x hx) kk (hX _ (by decide))⟩, kk⟩
  have := h.one.put 4 vL'
  simpa using this
end
theorem may_c (w : World) (f n : Int) : Calls Try.prog 9 #[.int .i64 f, .int .i64 n] w fun e w' => e = .returned (.bool (decide (0 ≤ f ∧ f < n ∧ n ≤ 4096))) ∧ w' = w := by
  by_cases c1 : 0 ≤ f <;> by_cases c2 : f < n <;> by_cases c3 : n ≤ 4096 <;> simp only [c1, c2, c3, and_true, and_false, decide_true, decide_false, and_self]
  all_goals
    go_enter Try.func9, Try.ntmps9
    go_wp2
    go_ret
    exact ⟨rfl, rfl⟩
theorem info4 : (Try.prog.info? 4).map (fun i => (i.zero, i.size, i.bytes)) = some (some (.bool false), 1, 1) := by kernel_rfl
theorem rnew_c (f n : Nat) (h1 : f < n) (h2 : n ≤ 4096) (w : World) : Calls Try.prog 11 #[.int .i64 (f : Nat), .int .i64 (n : Nat)] w fun e w' =>
    ∃ R hF hW, e = .returned (.pointer (some ⟨R, 0, none⟩)) ∧ Rf w' w.heap.size R hF hW f n (fun j => decide (f ≤ j ∧ j < n)) (fun _ => false) (.slice none 0 0) [] ∧ Below w.heap.size w w' := by
  obtain ⟨i0, hi0, hz0, hz1, hz2⟩ := info_parts info4
  have hmk := fun V : World => run_make (P := Try.prog) V 69 4 i0 _ Try.underlying69 hi0 hz0 .i64 .i64 (n : Int) (n : Int) (by omega) (by omega) (by rw [hz2]; omega) (by omega)
  simp only [Int.toNat_natCast, hz1, Nat.mul_one] at hmk
  obtain ⟨cs, hcs⟩ : ∃ cs, cs = madeCells (Value.bool false).cells n := ⟨_, rfl⟩
  rw [← hcs] at hmk
  have hsz : cs.size = n := by rw [hcs, size_madeCells]
  have hget : ∀ k, k < n → cs[k]? = some (.bool false) := fun k hk => by
    rw [hcs]
    simp [madeCells, Value.cells, hk, Nat.mod_one]
  have hR : ∀ a b : Nat, (a = w.heap.size ∧ b = w.heap.size + 1) ∨ (a = w.heap.size + 1 ∧ b = w.heap.size) → Rf (((w.alloc (.cells cs 4)).alloc (.cells cs 4)).alloc (.cells #[.int .i64 (f : Nat), .int .i64 (n : Nat), .slice (some ⟨a, 0, none⟩) n n, .slice (some ⟨b, 0, none⟩) n n, .slice none 0 0] 72)).drew w.heap.size (w.heap.size + 1 + 1) a b f n (fun j => decide (f ≤ j ∧ j < f)) (fun _ => false) (.slice none 0 0) [] := by
    intro a b hab
    have i1 : Is (w.alloc (.cells cs 4)) w.heap.size 4 cs := Is.new w 4 cs
    have i2 : Is ((w.alloc (.cells cs 4)).alloc (.cells cs 4)) (w.heap.size + 1) 4 cs := by
      have := Is.new (w.alloc (.cells cs 4)) 4 cs
      rwa [World.size_alloc] at this
    obtain ⟨w2, e2⟩ : ∃ w2, (w.alloc (.cells cs 4)).alloc (.cells cs 4) = w2 := ⟨_, rfl⟩
    have i1' : Is w2 w.heap.size 4 cs := by rw [← e2]; exact i1.alloc _
    rw [e2] at i2 ⊢
    have z2 : w2.heap.size = w.heap.size + 1 + 1 := by rw [← e2]; simp
    have i3 := Is.new w2 72 #[.int .i64 (f : Nat), .int .i64 (n : Nat), .slice (some ⟨a, 0, none⟩) n n, .slice (some ⟨b, 0, none⟩) n n, .slice none 0 0]
    rw [z2] at i3
    have hall : ∀ g, g = w.heap.size ∨ g = w.heap.size + 1 → ∀ h : Nat → Bool, (∀ k, h k = false) → Bs (w2.alloc (.cells #[.int .i64 (f : Nat), .int .i64 (n : Nat), .slice (some ⟨a, 0, none⟩) n n, .slice (some ⟨b, 0, none⟩) n n, .slice none 0 0] 72)).drew g n h := fun g hg h hh => by
      refine ⟨cs, ?_, hsz, fun k hk => by rw [hget k hk, hh k]⟩
      rcases hg with rfl | rfl
      · exact i1'.alloc _
      · exact i2.alloc _
    exact ⟨i3, hall a (by omega) _ (fun k => decide_eq_false (by omega)), hall b (by omega) _ (fun _ => rfl), by omega, ⟨by omega, by omega, by omega⟩, ⟨rfl, .inl ⟨rfl, rfl⟩⟩, fun x hx => (by cases hx)⟩
  have hBl : ∀ o : Obj, Below w.heap.size w (((w.alloc (.cells cs 4)).alloc (.cells cs 4)).alloc o).drew := fun o => below_drew (below_alloc (below_alloc (below_alloc (Below.refl _ w) _) _) _)
  have HR := Lib.hid hR
  have HB := Lib.hid hBl
  have g1 : (f : Int) < (n : Int) := by omega
  clear hcs hget hsz hR hBl hi0 hz0 hz1 hz2
  go_enter Try.func11, Try.ntmps11
  go_wp2
  go_region
  all_goals
    go_wp2
    go_loopw [6] (fun i wr => ∃ k a b : Nat, i = .int .i64 (k : Int) ∧ f ≤ k ∧ k ≤ n ∧ Rf wr w.heap.size (w.heap.size + 1 + 1) a b f n (fun j => decide (f ≤ j ∧ j < k)) (fun _ => false) (.slice none 0 0) [] ∧ Below w.heap.size w wr) (fun i _ => n - (RowKit.intOf i).toNat)
    case atStart => first
      | exact ⟨f, _, _, rfl, Nat.le_refl _, by omega, HR.out _ _ (.inl ⟨rfl, rfl⟩), HB.out _⟩
      | exact ⟨f, _, _, rfl, Nat.le_refl _, by omega, HR.out _ _ (.inr ⟨rfl, rfl⟩), HB.out _⟩
    case round =>
      obtain ⟨k, hF, hW, rfl, hk1, hk2, hr, hb⟩ := hrel
      by_cases hlt : k < n
      · obtain ⟨_, _, a2, _, _⟩ := hr.cells
        have f2 := hr.fb.frozen k
        have f3 := hr.fb.cell k hlt
        obtain ⟨r2, kk⟩ := hr.putF k true
        have hb2 := hb.trans (kk.below (Nat.le_trans hr.lo.2.1 (Nat.le_of_lt hr.fb.lt)) (fun g hg => by simp at hg; have := hr.lo; omega))
        have HR2 := Lib.hid r2
        have HB2 := Lib.hid hb2
        clear hr hb r2 kk hb2
        go_wp2
        go_roundw
        case rel =>
          refine ⟨k + 1, hF, hW, by go_num, by omega, by omega, ⟨HR2.out.one, HR2.out.fb.ext fun j _ => ?_, HR2.out.wb, HR2.out.ne, HR2.out.lo, HR2.out.row, HR2.out.rows⟩, HB2.out⟩
          by_cases e : j = k
          · subst e; simp [hk1]
          · rw [if_neg e, decide_eq_decide]; omega
        case measure => simp [RowKit.intOf]; omega
      · obtain rfl : k = n := by omega
        have HR2 := Lib.hid hr
        have HB2 := Lib.hid hb
        clear hr hb
        go_wp2
        go_ret
        exact ⟨_, _, _, rfl, HR2.out, HB2.out⟩
theorem few_c {w : World} {B : Nat} {P : Option Addr} {l : List Od} (C m : Nat) (h : Ls w B P l) (hm : l.length = m) (hl : m ≤ maxLen) :
    Calls Try.prog 18 #[.slice P m C] w fun e w' => ∃ b, e = .returned (.bool b) ∧ Below w.heap.size w w' ∧ (b = true → m ≤ 100 ∧ ∀ x ∈ l, x.rest.length ≤ 200) := by
  have HH := Lib.hid h
  have HM := Lib.hid hm
  unfold maxLen at hl
  clear h hm
  go_enter Try.func18, Try.ntmps18
  go_wp2
  go_loopw [3] (fun i wr => ∃ k : Nat, i = .int .i64 (k : Int) ∧ k ≤ m ∧ k ≤ 110 ∧ (∀ x ∈ l.take k, x.rest.length ≤ 200) ∧ Below w.heap.size w wr) (fun i _ => m - (RowKit.intOf i).toNat)
  case atStart => exact ⟨0, rfl, Nat.zero_le _, Nat.zero_le _, by simp, Below.refl _ _⟩
  case round =>
    obtain ⟨k, rfl, hk, hk2, hall, hbr⟩ := hrel
    by_cases hlt : k < m
    · by_cases hlt2 : k < 110
      · have hx : l[k]? = some (l[k]'(by rw [HM.out]; exact hlt)) := List.getElem?_eq_getElem _
        generalize l[k]'(by rw [HM.out]; exact hlt) = x at hx
        obtain ⟨n1, _, ad1, rfl, q1, c0, c1, c2⟩ := HH.out k _ hx
        replace c2 := (hbr.cell (p := ⟨(ad1.add (k * 3)).block, (ad1.add (k * 3)).off + 2, none⟩) (World.block_lt_of_cell? w _ c2)).trans c2
        obtain ⟨q, hq⟩ : ∃ q, x.rest.length = q := ⟨_, rfl⟩
        simp only [Od.v, hq] at c2
        have HX := Lib.hid hx
        have HQ := Lib.hid hq
        have HA := Lib.hid hall
        have HB := Lib.hid hbr
        have hB0 := Below.refl wr.heap.size wr
        clear hx hq hall hbr n1 c0 c1
        by_cases hq2 : 200 < q
        · go_wp2
          go_ret
          exact ⟨false, rfl, HB.out, fun h => (by cases h)⟩
        · go_wp2
          go_roundw
          case rel =>
            refine ⟨k + 1, by go_num, by omega, by omega, fun y hy => ?_, HB.out⟩
            rw [List.take_add_one, HX.out] at hy
            rcases List.mem_append.1 hy with hy | hy
            · exact HA.out y hy
            · simp at hy; subst hy; rw [HQ.out]; omega
          case measure => simp [RowKit.intOf]; omega
      · have hm100 : ¬ m ≤ 100 := by omega
        clear hall
        have HB := Lib.hid hbr
        clear hbr
        go_wp2
        go_ret
        exact ⟨_, rfl, HB.out, fun h => absurd (of_decide_eq_true h) (by omega)⟩
    · obtain rfl : k = m := by omega
      have hall' : ∀ x ∈ l, x.rest.length ≤ 200 := by rw [← HM.out, List.take_length] at hall; exact hall
      have HA := Lib.hid hall'
      have HB := Lib.hid hbr
      clear hall hall' hbr
      go_wp2
      go_ret
      exact ⟨_, rfl, HB.out, fun h => ⟨by have := of_decide_eq_true h; omega, HA.out⟩⟩
theorem info83 : (Try.prog.info? 83).map (fun i => (i.zero, i.size, i.bytes)) = some (some (.agg #[.int .i64 0, .int .i64 0, .slice none 0 0]), 3, 40) := by kernel_rfl
/-- One more chain, in the document's type. -/
theorem app_ow {w : World} {base : Nat} {v : Value} {l : List Od} (h : w.ownsRow base 83 3 v l.length (ocs l)) {x : Od} {g : Nat} (hg : Is w g 83 #[.int .i64 x.p, .int .i64 x.r, x.v]) (hl : l.length ≤ 8192) (hb : base ≤ w.heap.size) (ty : TypeId) :
    ∃ P C w', (Builtin.append_ #[38, 38] ty #[v, .slice (some ⟨g, 0, none⟩) 1 1]).run Try.prog w = .ok (.slice P (l.length + 1) C) w' ∧ w'.ownsRow base 83 3 (.slice P (l.length + 1) C) (l ++ [x]).length (ocs (l ++ [x])) ∧ w.grownBy w' v.ownBlock := by
  obtain ⟨i0, hi0, hh⟩ := Option.map_eq_some_iff.1 info83
  simp only [Prod.mk.injEq] at hh
  obtain ⟨hz0, hz1, hz2⟩ := hh
  obtain ⟨v', w', hr, h2, h3, _, _⟩ := run_append_own_at (P := Try.prog) w base 38 ty 83 i0 _ 3 40 Try.underlying38 hi0 hz0 hz1 hz2 rfl (by decide) v l.length _ h ⟨g, 0, none⟩ 1 1 (oc x) rfl (fun j u hj => by
    rw [add_at, Nat.zero_add, hg.cell]
    have hj3 : j < 3 := (List.getElem?_eq_some_iff.1 hj).1
    obtain rfl | rfl | rfl : j = 0 ∨ j = 1 ∨ j = 2 := by omega
    · simpa [oc] using hj
    · simpa [oc] using hj
    · simpa [oc] using hj) (fun u hu => by simp [oc] at hu; rcases hu with rfl | rfl | rfl <;> rfl) (by unfold maxLen; omega) (by omega) hb
  obtain ⟨P, C, rfl⟩ := own_shape h2
  have e1 : (l ++ [x]).length = l.length + 1 := by simp
  exact ⟨P, C, w', hr, by rw [e1, ocs_snoc]; exact h2, h3⟩
/-- A round's append: the block of one, then the longer row. -/
theorem next_ow {w wr : World} {P : Option Addr} {C k : Nat} {l : List Od} (hr : wr.ownsRow w.heap.size 83 3 (.slice P k C) (l.take k).length (ocs (l.take k))) (hb : Below w.heap.size w wr) (hk : k ≤ 8192) {x : Od} (hx : l[k]? = some x) (ty : TypeId) :
    ∃ P' C' w6, (Builtin.append_ #[38, 38] ty #[.slice P k C, .slice (some ⟨wr.heap.size, 0, none⟩) 1 1]).run Try.prog (wr.alloc (.cells #[.int .i64 x.p, .int .i64 x.r, x.v] 83)) = .ok (.slice P' (k + 1) C') w6 ∧
      w6.ownsRow w.heap.size 83 3 (.slice P' (k + 1) C') (l.take (k + 1)).length (ocs (l.take (k + 1))) ∧ Below w.heap.size w w6 := by
  have hlt := (List.getElem?_eq_some_iff.1 hx).1
  have hi := Is.new wr 83 #[.int .i64 x.p, .int .i64 x.r, x.v]
  have hb5 := below_alloc (Below.refl _ wr) (.cells #[.int .i64 x.p, .int .i64 x.r, x.v] 83)
  generalize wr.alloc (.cells #[.int .i64 x.p, .int .i64 x.r, x.v] 83) = w5 at *
  have hrow5 : w5.ownsRow w.heap.size 83 3 (.slice P k C) (l.take k).length (ocs (l.take k)) := Kq.row (Kq.below hb5) hr (by decide) (by decide)
  obtain ⟨P', C', w6, hrun, hrow, hg⟩ := app_ow (x := x) hrow5 hi (by rw [List.length_take]; omega) (by have := hb.size; have := hb5.size; omega) ty
  have e1 : (l.take k).length = k := by rw [List.length_take]; omega
  have e2 : l.take k ++ [x] = l.take (k + 1) := by rw [List.take_add_one, hx]; rfl
  rw [e2, e1] at hrow
  rw [e1] at hrun
  exact ⟨P', C', w6, hrun, hrow, Below.grown_own (hb.trans (hb5.mono hb.size)) hrow5 hg⟩
theorem theirs_c {w : World} {P : Option Addr} {l : List Od} (C m : Nat) (h : Ls w w.heap.size P l) (hm : l.length = m) (hl : m ≤ 8192) :
    Calls Try.prog 15 #[.slice P m C] w fun e w' => ∃ P' C', e = .returned (.slice P' m C') ∧ w'.ownsRow w.heap.size 83 3 (.slice P' m C') l.length (ocs l) ∧ Below w.heap.size w w' := by
  have HH := Lib.hid h
  have HM := Lib.hid hm
  clear h hm
  go_enter Try.func15, Try.ntmps15
  go_wp2
  go_loopw [3, 4] (fun s i wr => ∃ (k : Nat) (P' : Option Addr) (C' : Nat), i = .int .i64 (k : Int) ∧ k ≤ m ∧ s = .slice P' k C' ∧ wr.ownsRow w.heap.size 83 3 (.slice P' k C') (l.take k).length (ocs (l.take k)) ∧ Below w.heap.size w wr) (fun _ i _ => m - (RowKit.intOf i).toNat)
  case atStart => exact ⟨0, none, 0, rfl, Nat.zero_le _, rfl, ⟨rfl, .inl ⟨rfl, rfl⟩⟩, Below.refl _ _⟩
  case round =>
    obtain ⟨k, P', C', rfl, hk, rfl, hrow, hbr⟩ := hrel
    by_cases hlt : k < m
    · have hx : l[k]? = some (l[k]'(by rw [HM.out]; exact hlt)) := List.getElem?_eq_getElem _
      generalize l[k]'(by rw [HM.out]; exact hlt) = x at hx
      obtain ⟨n1, _, ad1, rfl, q1, c0, c1, c2⟩ := (HH.out.kept hbr) k _ hx
      obtain ⟨P6, C6, w6, hrun, hr6, hb6⟩ := next_ow hrow hbr (by omega) hx 38
      have HR6 := Lib.hid hr6
      have HB6 := Lib.hid hb6
      clear hx hbr n1 hrow hr6 hb6
      go_wp2_with (at_builtin; refine Lib.wpList_append_run _ rfl _ _ _ _ rfl _ _ rfl rfl _ _ hrun ?_)
      go_roundw
      case rel => exact ⟨k + 1, P6, C6, by go_num, by omega, rfl, HR6.out, HB6.out⟩
      case measure => simp [RowKit.intOf]; omega
    · obtain rfl : k = m := by omega
      have e1 : l.take k = l := by rw [← HM.out, List.take_length]
      rw [e1] at hrow
      have HR := Lib.hid hrow
      have HB := Lib.hid hbr
      clear hrow hbr
      go_wp2
      go_ret
      exact ⟨_, _, rfl, HR.out, HB.out⟩
end Go.Proofs.Ytnpjbddannkgfaa
