/- Load. Conditions: none. -/
import Derived.Test.YtnpjbddannkgfaaAlL
namespace Go.Proofs.Ytnpjbddannkgfaa
open Go.ChangeShapes Go.WideShapes Go.RowKit Go.Maps Go.Spans Go.Alloc
set_option maxRecDepth 100000
theorem load_arg (f n : Int) (h : ¬ (0 ≤ f ∧ f < n ∧ n ≤ 4096)) (P : Option Addr) (m c : Nat) (w : World) : Calls Try.prog 13 #[.int .i64 f, .int .i64 n, .slice P m c] w fun e w' => e = .returned (.tuple #[.pointer none, .int .i64 2]) ∧ w = w' := by
  have hN := new_nil f n h w
  clear h
  go_enter Try.func13, Try.ntmps13
  go_wp2_with (go_at_call 8; refine hN.mono ?_; rintro e w' ⟨rfl, rfl⟩)
  go_ret2
  exact ⟨rfl, rfl⟩
/-- How Load's loop stands; H: the heap's size behind New. -/
structure Lo (w wr : World) (A S : Nat) (v : Value) (bc bw f n H : Nat) (xs : List Sp) (U : Nat) (vU : Value) (us : List Sp) (l : List Od) (k : Nat) : Prop where
  oa : Oa w.heap.size w wr A S v bc bw n xs (loadL (l.take k)) []
  uset : St wr U vU n us
  lo : H ≤ U ∧ ∀ g ∈ ob vU, H ≤ g
  hi : w.heap.size ≤ H ∧ H ≤ wr.heap.size ∧ A < H ∧ ∀ g ∈ bl S v bc bw, g < H
  ok : loadOK f n (l.take k)
  has : ∀ j, hasB us j = (decide (j < f) || decide (((j : Nat) : Int) ∈ allO (l.take k)))
section
variable {w wr : World} {A S : Nat} {v : Value} {bc bw f n H : Nat} {xs : List Sp} {U : Nat} {vU : Value} {us : List Sp} {l : List Od} {k : Nat}
theorem nz_toNat {l : List Int} (h : ∀ a ∈ l, 0 ≤ a) : nz (l.map Int.toNat) = l := by
  unfold nz
  rw [List.map_map]
  conv => rhs; rw [← List.map_id l]
  apply List.map_congr_left
  intro a ha
  have := h a ha
  simp only [Function.comp, id]
  omega
/-- The used set has become another one, or other things were made. -/
theorem Lo.used (h : Lo w wr A S v bc bw f n H xs U vU us l k) {w4 w5 : World} (hb : Below wr.heap.size wr w4) {vU' : Value} {us' : List Sp} (ht : To w4 w5 U vU vU' n us') :
    Oa w.heap.size w w5 A S v bc bw n xs (loadL (l.take k)) [] ∧ St w5 U vU' n us' ∧ (H ≤ U ∧ ∀ g ∈ ob vU', H ≤ g) ∧ (w.heap.size ≤ H ∧ H ≤ w5.heap.size ∧ A < H ∧ ∀ g ∈ bl S v bc bw, g < H) := by
  have o4 := h.oa.later hb
  have hoff : ∀ g, g < H → g ∉ U :: ob vU := fun g hg hm => by
    rcases List.mem_cons.1 hm with e | hm
    · have := h.lo.1; omega
    · have := h.lo.2 g hm; omega
  have hlo4 := hb.size
  have hhi := h.hi
  have kp := ht.kp
  have hN : NoI w4 (U :: ob vU) := fun g hg cs hi => by
    have st4 := h.uset.below hb
    rcases List.mem_cons.1 hg with rfl | hg
    · exact hi.ne st4.one (by decide) rfl
    · obtain ⟨cs', hv⟩ := st4.vs g hg
      exact hi.ne hv (by decide) rfl
  have hbl : ∀ g ∈ bl S v bc bw, g ∉ U :: ob vU := fun g hg => hoff g (hhi.2.2.2 g hg)
  have am5 : Am w5 A S v bc bw n xs (loadL (l.take k)) [] := by
    refine ⟨kp.is o4.am.one (hoff A hhi.2.2.1), o4.am.set.kept kp (hbl S (by simp [bl])) (fun g hg => hbl g (by simp [bl, hg])), o4.am.ch.kept kp (hbl bc (by simp [bl])) hN, o4.am.wt.kept kp (hbl bw (by simp [bl])), o4.am.ne⟩
  refine ⟨⟨am5, o4.loA, o4.lo, o4.below.trans (kp.below o4.lt (fun g hg => ?_))⟩, ht.st, ⟨h.lo.1, fun g hg => ?_⟩, hhi.1, ?_, hhi.2.2⟩
  · rcases List.mem_cons.1 hg with rfl | hg
    · have := h.lo.1; omega
    · have := h.lo.2 g hg; omega
  · rcases ht.lies g hg with e | e
    · exact h.lo.2 g e
    · omega
  · have := kp.size; omega
/-- What a round's store makes. -/
theorem Lo.next (h : Lo w wr A S v bc bw f n H xs U vU us l k) {x : Od} (hx : l[k]? = some x) (hkl : k ≤ 8192) {w4 w5 : World} (hb : Below wr.heap.size wr w4) {vU' : Value} {us' : List Sp} (ht : To w4 w5 U vU vU' n us')
    (hok : loadOK f n (l.take (k + 1))) (hus : ∀ j, hasB us' j = (hasB us j || decide (((j : Nat) : Int) ∈ x.secs))) {u : Value} {b : Nat} (hrow : w4.ownsRow b 3 1 u x.secs.length (zs x.secs)) :
    ∃ w6, (Instr.mapUpdate 58 (.map (some bc)) (.int .i64 x.p) (.agg #[u, .int .i64 x.r, .bool true])).run Try.prog w5.drew = .ok () w6 ∧ w5.drew.grownBy w6 (some bc) ∧ Lo w w6 A S v bc bw f n H xs U vU' us' l (k + 1) := by
  obtain ⟨o5, s5, lo5, hi5⟩ := h.used hb ht
  have et : l.take (k + 1) = l.take k ++ [x] := by rw [List.take_add_one, hx]; rfl
  have hok2 := hok
  rw [et] at hok2
  have hnn : ∀ a ∈ x.secs, 0 ≤ a := fun a ha => loadOK_nn hok2 a (by rw [allO_snoc]; simp [ha])
  have hp : (f : Int) ≤ x.p ∧ x.p < n := hok2.2.2 x.p (by rw [allO_snoc]; simp [Od.secs])
  have hr := hok2.1 x (by simp)
  have ep : ((x.ch.place : Nat) : Int) = x.p := by rw [ch_place]; omega
  have er : ((x.ch.refs : Nat) : Int) = x.r := by simp only [Od.ch]; omega
  have hbd : Below w5.heap.size w5 w5.drew := ⟨rfl, rfl, rfl, Nat.le_refl _, fun _ _ => rfl⟩
  have hN4 : NoI w4 (U :: ob vU) := fun g hg cs hi => by
    have st4 := h.uset.below hb
    rcases List.mem_cons.1 hg with rfl | hg
    · exact hi.ne st4.one (by decide) rfl
    · obtain ⟨cs', hv⟩ := st4.vs g hg
      exact hi.ne hv (by decide) rfl
  have hrow5 : In w5.drew u x.ch.secs := by
    have h1 := low_row (row_kp hrow ht.kp hN4) (Nat.zero_le _)
    have h2 := row_kp h1 (Kp.of_below hbd []) (noI_nil _)
    show w5.drew.ownsRow 0 3 1 u (x.secs.map Int.toNat).length (ints (x.secs.map Int.toNat))
    rw [ints_zs, nz_toNat hnn, List.length_map]
    exact h2
  have hs := loadL_srt h.ok
  have hnew : ∀ y ∈ loadL (l.take k), y.place ≠ x.ch.place := fun y hy e => by
    obtain ⟨o, ho, rfl⟩ := loadL_mem.1 hy
    rw [ch_place, ch_place] at e
    have hnd := hok2.2.1
    rw [allO_snoc] at hnd
    have hop : o.p ∈ allO (l.take k) := List.mem_flatMap.2 ⟨o, ho, by simp [Od.secs]⟩
    have hxp : x.p ∈ x.secs := by simp [Od.secs]
    have hne := (List.nodup_append.1 hnd).2.2 _ hop _ hxp
    have := loadOK_nn h.ok o.p hop
    omega
  have hll : (loadL (l.take k)).length ≤ 8192 := by
    rw [(loadL_perm _).length_eq]
    simp
    omega
  obtain ⟨w6, hrun, ham, hg⟩ := up_ch (o5.later hbd).am hs hll (c := x.ch) hrow5 (by have := o5.am.set.hi; omega) (M := insC x.ch (loadL (l.take k))) (insC_mem.2 (.inl rfl)) (fun y hy => by
    rcases insC_mem.1 hy with e | e
    · exact .inl e
    · exact .inr ⟨e, hnew y e⟩) (fun y hy _ => insC_mem.2 (.inr hy))
  rw [ep, er] at hrun
  have kk : Kp w5.drew w6 [bc] := Kp.of_grown hg
  have kk5 : Kp w5 w6 [bc] := (Kp.of_below hbd [bc]).trans kk (fun y hy => .inl hy)
  have hbc : bc < H := hi5.2.2.2 bc (by simp [bl])
  have hU : ∀ g, H ≤ g → g ∉ [bc] := fun g hg hm => by simp at hm; omega
  rw [← loadL_snoc, ← et] at ham
  refine ⟨w6, hrun, hg, ⟨⟨ham, o5.loA, o5.lo, o5.below.trans (kk5.below o5.lt (fun g hg => by simp at hg; subst hg; exact o5.lo _ (by simp [bl])))⟩, s5.kept kk5 (hU U lo5.1) (fun g hg => hU g (lo5.2 g hg)), lo5, ⟨hi5.1, by have := kk5.size; have := hi5.2.1; omega, hi5.2.2⟩, hok, fun j => ?_⟩⟩
  rw [hus j, h.has j, et, allO_snoc, Bool.or_assoc]
  simp
/-- Another set in the place of the elder one. -/
theorem Am.swap {w : World} {A S S' : Nat} {v v' : Value} {bc bw n : Nat} {xs ys : List Sp} {L : List Ch} {W : List Nat} (h : Am w A S v bc bw n xs L W) (hs : St w S' v' n ys) :
    Am (w.setCell ⟨A, 0, none⟩ (.pointer (some ⟨S', 0, none⟩))) A S' v' bc bw n ys L W ∧ Kp w (w.setCell ⟨A, 0, none⟩ (.pointer (some ⟨S', 0, none⟩))) [A] := by
  have kk : Kp w (w.setCell ⟨A, 0, none⟩ (.pointer (some ⟨S', 0, none⟩))) [A] := (Kp.refl w [A]).put ⟨A, 0, none⟩ _ (.inl (by simp))
  have hN : NoI w [A] := NoI.cons (fun cs hi => hi.ne h.one (by decide) rfl) (noI_nil w)
  refine ⟨⟨?_, hs.kept kk (fun hm => ?_) (fun g hg hm => ?_), h.ch.kept kk (by have := h.ac; simp; omega) hN, h.wt.kept kk (by have := h.aw; simp; omega), h.ne⟩, kk⟩
  · have := h.one.put 0 (.pointer (some ⟨S', 0, none⟩))
    simpa using this
  · simp at hm
    exact hs.one.ne h.one (by decide) hm
  · obtain ⟨cs, hv⟩ := hs.vs g hg
    simp at hm
    exact hv.ne h.one (by decide) hm
set_option maxHeartbeats 4000000 in
theorem load_c (f n : Nat) (h1 : f < n) (h2 : n ≤ 4096) {w : World} {A0 : Option Addr} {l : List Od} (cap : Nat) (hl : Ls w w.heap.size A0 l) (hln : l.length ≤ 8192) (hrl : ∀ o ∈ l, o.rest.length ≤ 8192) :
    Calls Try.prog 13 #[.int .i64 (f : Nat), .int .i64 (n : Nat), .slice A0 l.length cap] w fun e w' =>
      (loadOK f n l ∧ ∃ A S v bc bw xs, e = .returned (.tuple #[.pointer (some ⟨A, 0, none⟩), .int .i64 0]) ∧ Oa w.heap.size w w' A S v bc bw n xs (loadL l) [] ∧ ∀ j, hasB xs j = (decide (f ≤ j ∧ j < n) && !decide (((j : Nat) : Int) ∈ allO l))) ∨
      (¬ loadOK f n l ∧ e = .returned (.tuple #[.pointer none, .int .i64 4]) ∧ Below w.heap.size w w') := by
  have hN := new_al f n h1 h2 w
  have hU : ∀ w1 : World, Calls Try.prog 31 #[.int .i64 (n : Nat)] w1 fun e w' => e = .returned (.pointer (some ⟨w1.heap.size, 0, none⟩)) ∧ w1.alloc (.cells #[.int .i64 (n : Nat), .slice none 0 0] 99) = w' := fun w1 => by
    refine (new_c w1 (n : Nat)).mono ?_
    rintro e w' (⟨_, _, rfl, rfl⟩ | ⟨hc, _⟩)
    · exact ⟨rfl, rfl⟩
    · omega
  have sU : ∀ w1 : World, St (w1.alloc (.cells #[.int .i64 (n : Nat), .slice none 0 0] 99)) w1.heap.size (.slice none 0 0) n [] := fun w1 => ⟨Is.new w1 99 _, Rw.nil _ _, ok_nil n, by omega, h2⟩
  have hF := fun w1 : World => fill_c (sU w1) 0 (f : Nat)
  obtain ⟨f1, f2⟩ := fill_gap (ok_nil n) (f := 0) (t := f) (Nat.zero_le _) (by omega) (fun k _ _ => rfl)
  obtain ⟨m, hm⟩ : ∃ m, l.length = m := ⟨_, rfl⟩
  have hm8 : m ≤ 8192 := by omega
  have HU := Lib.hid hU
  have HS := Lib.hid sU
  have HF := Lib.hid hF
  have HX := Lib.hid f2
  have HM := Lib.hid hm
  have HA := Lib.hid hl
  have HQ := Lib.hid hrl
  have HN := Lib.hid hN
  rw [hm]
  clear hU sU hF f1 f2 hm hl hrl hN hln
  go_enter Try.func13, Try.ntmps13
  go_wp2_with (first
    | (go_at_call 8; refine HN.out.mono ?_; rintro e w1 ⟨A, S, v, bc, bw, xs, rfl, ho, -⟩; have HO := Lib.hid ho; clear ho)
    | (go_at_call 31; refine (HU.out _).mono ?_; rintro e w2 ⟨rfl, rfl⟩)
    | (go_at_call 32; refine (HF.out _).mono ?_; rintro e w3 ⟨rfl, vU, ht⟩; have HT := Lib.hid ht; clear ht))
  have L0 : Lo w w3 A S v bc bw f n w1.heap.size xs w1.heap.size vU (fillX n [] (0 : Int) (f : Nat)) l 0 := by
    have hb2 : Below w1.heap.size w1 (w1.alloc (.cells #[.int .i64 (n : Nat), .slice none 0 0] 99)) := below_alloc (Below.refl _ _) _
    have hkp := HT.out.kp
    have hb3 : Below w1.heap.size w1 w3 := hb2.trans (hkp.below hb2.size (fun g hg => by simp [ob, Value.ownBlock] at hg; omega))
    refine ⟨HO.out.later hb3, HT.out.st, ⟨Nat.le_refl _, fun g hg => ?_⟩, ⟨HO.out.below.size, hb3.size, HO.out.am.lt, fun g hg => ?_⟩, ⟨by simp, by simp [allO], by simp [allO]⟩, fun j => ?_⟩
    · rcases HT.out.lies g hg with e | e
      · cases e
      · have := hb2.size; omega
    · have am := HO.out.am
      simp only [bl, List.mem_cons] at hg
      rcases hg with rfl | rfl | rfl | hg
      · exact am.set.one.lt
      · exact am.ch.lt
      · exact am.wt.lt
      · exact (am.set.row.lt g hg).2
    · have := HX.out j
      simp only [Int.natCast_zero] at this
      rw [this]
      simp [hasB, allO]
  have HL := Lib.hid L0
  clear L0
  go_loopw [11, 12, 25] (fun _ _ i wr => ∃ (k : Nat) (vU : Value) (us : List Sp), i = .int .i64 (k : Int) ∧ k ≤ m ∧ Lo w wr A S v bc bw f n w1.heap.size xs w1.heap.size vU us l k) (fun _ _ i _ => m - (RowKit.intOf i).toNat)
  case atStart => exact ⟨0, vU, _, rfl, Nat.zero_le _, HL.out⟩
  case round =>
    obtain ⟨k, vk, us, rfl, hkn, hlo⟩ := hrel
    by_cases hlt2 : k < m
    · have hxk : l[k]? = some (l[k]'(by rw [HM.out]; exact hlt2)) := List.getElem?_eq_getElem _
      obtain ⟨x, ex⟩ : ∃ x, l[k]'(by rw [HM.out]; exact hlt2) = x := ⟨_, rfl⟩
      rw [ex] at hxk
      have hls := HA.out.kept hlo.oa.below
      obtain ⟨hnb, ⟨hip, hir, his⟩, ad, rfl, hB, d0, d1, d2⟩ := hls k x hxk
      have hrx := HQ.out x (List.mem_of_getElem? hxk)
      obtain ⟨w4, e4⟩ : ∃ w4, ((wr.alloc (.cells #[.int .i64 x.p, .int .i64 x.r, .slice x.P x.rest.length x.c] 55)).alloc (.cells #[.int .i64 x.p] 3)).alloc (.cells #[.slice (some ⟨wr.heap.size + 1, 0, none⟩) 1 1, .slice x.P x.rest.length x.c] 46) = w4 := ⟨_, rfl⟩
      have hb4 : Below wr.heap.size wr w4 := by rw [← e4]; exact below_alloc (below_alloc (below_alloc (Below.refl _ _) _) _) _
      have z4 : w4.heap.size = wr.heap.size + 3 := by rw [← e4]; simp
      have i1 : Is w4 wr.heap.size 55 #[.int .i64 x.p, .int .i64 x.r, .slice x.P x.rest.length x.c] := by rw [← e4]; exact ((Is.new wr 55 _).alloc _).alloc _
      have i2 : Is w4 (wr.heap.size + 1) 3 #[.int .i64 x.p] := by
        rw [← e4]
        have := Is.new (wr.alloc (.cells #[.int .i64 x.p, .int .i64 x.r, .slice x.P x.rest.length x.c] 55)) 3 #[.int .i64 x.p]
        rw [World.size_alloc] at this
        exact this.alloc _
      have i3 : Is w4 (wr.heap.size + 1 + 1) 46 #[.slice (some ⟨wr.heap.size + 1, 0, none⟩) 1 1, .slice x.P x.rest.length x.c] := by
        rw [← e4]
        have := Is.new ((wr.alloc (.cells #[.int .i64 x.p, .int .i64 x.r, .slice x.P x.rest.length x.c] 55)).alloc (.cells #[.int .i64 x.p] 3)) 46 #[.slice (some ⟨wr.heap.size + 1, 0, none⟩) 1 1, .slice x.P x.rest.length x.c]
        simpa using this
      have sl1 : Sl w4 (.slice (some ⟨wr.heap.size + 1, 0, none⟩) 1 1) [x.p] := ⟨_, 1, rfl, fun j y hj => ⟨_, rfl, by
        have : j = 0 := by have := (List.getElem?_eq_some_iff.1 hj).1; simp at this; omega
        subst this
        simp at hj
        subst hj
        rw [add_at, i2.cell]
        rfl⟩⟩
      have sl2 : Sl w4 (.slice x.P x.rest.length x.c) x.rest := (hnb.sl x.c).below hb4
      have hC : Calls Try.prog 37 #[.slice (some ⟨wr.heap.size + 1 + 1, 0, none⟩) 2 2] w4 fun e w' => ∃ P C, e = .returned (.slice P x.secs.length C) ∧ w'.ownsRow w4.heap.size 3 1 (.slice P x.secs.length C) x.secs.length (zs x.secs) ∧ Below w4.heap.size w4 w' :=
        concat_c i3 sl1 sl2 (by simp) (by simp) hrx
      have hsr : ∀ y ∈ x.secs, i64r y := fun y hy => by
        rcases List.mem_cons.1 hy with rfl | hy
        · exact hip
        · exact his y hy
      have hsl : x.secs.length ≤ 16384 := by simp [Od.secs]; omega
      have hUse : ∀ (w5 : World) (P : Option Addr) (C : Nat), Below w4.heap.size w4 w5 → w5.ownsRow w4.heap.size 3 1 (.slice P x.secs.length C) x.secs.length (zs x.secs) → Calls Try.prog 38 #[.pointer (some ⟨w1.heap.size, 0, none⟩), .slice P x.secs.length C] w5 fun e w' =>
          ∃ b v' ys, e = .returned (.bool b) ∧ To w5 w' w1.heap.size vk v' n ys ∧ (b = true ↔ usable n us x.secs) ∧ (b = true → ∀ j, hasB ys j = (hasB us j || decide (((j : Nat) : Int) ∈ x.secs))) := fun w5 P C hb hr =>
        use_c (hlo.uset.below (hb4.trans (hb.mono hb4.size))) (low_row hr (Nat.zero_le _)) hsl hsr
      have hstep := load_step hxk hlo.ok hlo.has
      have hnot : ¬ loadOK f n (l.take (k + 1)) → ¬ loadOK f n l := fun h hh => h (load_take hh)
      have hrange : ¬ (1 ≤ x.r ∧ x.r ≤ 65535) → ¬ loadOK f n l := fun h => hnot (fun hh => h (hstep.2 hh).1)
      have hunus : ¬ usable n us x.secs → ¬ loadOK f n l := fun h => hnot (fun hh => h (hstep.2 hh).2)
      have HCc := Lib.hid hC
      have HUs := Lib.hid hUse
      have HLo := Lib.hid hlo
      have HI1 := Lib.hid i1
      have HB4 := Lib.hid hb4
      have HXK := Lib.hid hxk
      have HST := Lib.hid hstep
      have HRG := Lib.hid hrange
      have HUN := Lib.hid hunus
      clear hC hUse hlo i1 i2 i3 hb4 hxk hstep hnot hrange hunus sl1 sl2 hsr hsl hrx hls hnb his hip hir hB ex z4
      by_cases c1 : x.r < 1
      · go_wp2_with (go_at_call 37; refine HCc.out.mono ?_; rintro e w5 ⟨P5, C5, rfl, hr5, hb5⟩; (have i5 := (Kp.of_below hb5 []).is HI1.out (by simp)); (have g0 := i5.cell 0); (have g1 := i5.cell 1); (have g2 := i5.cell 2); simp at g0 g1 g2; have HR5 := Lib.hid hr5; have HB5 := Lib.hid hb5; have HI5 := Lib.hid i5; clear hr5 hb5 i5)
        go_ret2
        exact .inr ⟨HRG.out (by omega), rfl, HLo.out.oa.below.trans ((HB4.out.trans (HB5.out.mono HB4.out.size)).mono HLo.out.oa.lt)⟩
      · by_cases c2 : 65535 < x.r
        · go_wp2_with (go_at_call 37; refine HCc.out.mono ?_; rintro e w5 ⟨P5, C5, rfl, hr5, hb5⟩; (have i5 := (Kp.of_below hb5 []).is HI1.out (by simp)); (have g0 := i5.cell 0); (have g1 := i5.cell 1); (have g2 := i5.cell 2); simp at g0 g1 g2; have HR5 := Lib.hid hr5; have HB5 := Lib.hid hb5; have HI5 := Lib.hid i5; clear hr5 hb5 i5)
          go_ret2
          exact .inr ⟨HRG.out (by omega), rfl, HLo.out.oa.below.trans ((HB4.out.trans (HB5.out.mono HB4.out.size)).mono HLo.out.oa.lt)⟩
        · by_cases c3 : usable n us x.secs
          · have HC3 := Lib.hid c3
            clear c3
            go_wp2_with (first
              | (go_at_call 37; refine HCc.out.mono ?_; rintro e w5 ⟨P5, C5, rfl, hr5, hb5⟩; (have i5 := (Kp.of_below hb5 []).is HI1.out (by simp)); (have g0 := i5.cell 0); (have g1 := i5.cell 1); (have g2 := i5.cell 2); simp at g0 g1 g2; have HR5 := Lib.hid hr5; have HB5 := Lib.hid hb5; have HI5 := Lib.hid i5; clear hr5 hb5 i5)
              | (go_at_call 38; refine (HUs.out w5 P5 C5 HB5.out HR5.out).mono ?_; rintro e w6 ⟨bb, v6, ys, rfl, hto, hiff, hh⟩; (obtain rfl : bb = true := hiff.2 HC3.out); (have HT6 := Lib.hid hto); (have HH6 := Lib.hid (hh rfl)); clear hto hiff hh))
            have hb5 : Below wr.heap.size wr w5 := HB4.out.trans (HB5.out.mono HB4.out.size)
            obtain ⟨o6, _⟩ := HLo.out.used hb5 HT6.out
            obtain ⟨w7, hrun7, hg7, hL7⟩ := HLo.out.next HXK.out (by omega) hb5 HT6.out (HST.out.1 ⟨⟨c1, c2⟩, HC3.out⟩) HH6.out HR5.out
            have i6 : Is w6 wr.heap.size 55 #[.int .i64 x.p, .int .i64 x.r, .slice x.P x.rest.length x.c] := HT6.out.kp.is HI5.out (fun hm => by
              have st5 := HLo.out.uset.below hb5
              rcases List.mem_cons.1 hm with e | hm
              · exact HI5.out.ne st5.one (by decide) e
              · obtain ⟨cs', hv⟩ := st5.vs _ hm
                exact HI5.out.ne hv (by decide) rfl)
            have i7 : Is w7 wr.heap.size 55 _ := (show Is w6.drew wr.heap.size 55 _ from i6).kept hg7 (by have := HLo.out.hi.2.1; have := HLo.out.hi.2.2.2 bc (by simp [bl]); simp; omega)
            have S2 : w6.drew.cell? ⟨A, 1, none⟩ = _ ∧ w6.drew.cell? ⟨wr.heap.size, 0, none⟩ = _ ∧ w6.drew.cell? ⟨wr.heap.size, 1, none⟩ = _ := And.intro (o6.am.one.cell 1) (And.intro (i6.cell 0) (i6.cell 1))
            have S3 := And.intro (hL7.oa.am.one.cell 1) (And.intro (i7.cell 0) (i7.cell 1))
            simp at S2 S3
            have HL7 := Lib.hid hL7
            clear hb5 o6 hg7 hL7 i6 i7 d0 d1 d2 g0 g1 g2
            go_region_held3 (fun wx => wx.cell? ⟨A, 1, none⟩ = some (.map (some bc)) ∧ wx.cell? ⟨wr.heap.size, 0, none⟩ = some (.int .i64 x.p) ∧ wx.cell? ⟨wr.heap.size, 1, none⟩ = some (.int .i64 x.r)) (first | exact S2 | exact S3)
              (fail)
            go_wp2
            go_roundw
            case rel => exact ⟨k + 1, v6, ys, by go_num, by omega, HL7.out⟩
            case measure => simp [RowKit.intOf]; omega
          · have HC3 := Lib.hid c3
            clear c3
            go_wp2_with (first
              | (go_at_call 37; refine HCc.out.mono ?_; rintro e w5 ⟨P5, C5, rfl, hr5, hb5⟩; (have i5 := (Kp.of_below hb5 []).is HI1.out (by simp)); (have g0 := i5.cell 0); (have g1 := i5.cell 1); (have g2 := i5.cell 2); simp at g0 g1 g2; have HR5 := Lib.hid hr5; have HB5 := Lib.hid hb5; have HI5 := Lib.hid i5; clear hr5 hb5 i5)
              | (go_at_call 38; refine (HUs.out w5 P5 C5 HB5.out HR5.out).mono ?_; rintro e w6 ⟨bb, v6, ys, rfl, hto, hiff, hh⟩; (obtain rfl : bb = false := by cases bb with | false => rfl | true => exact absurd (hiff.1 rfl) HC3.out); (have HT6 := Lib.hid hto); clear hto hiff hh))
            go_ret2
            have hus := HLo.out.used (HB4.out.trans (HB5.out.mono HB4.out.size)) HT6.out
            exact .inr ⟨HUN.out HC3.out, rfl, hus.1.below⟩
    · obtain rfl : k = m := by omega
      have eR : l.take k = l := by rw [← HM.out, List.take_length]
      have hok := hlo.ok
      have hoth := others_c hlo.uset
      have hhas := hlo.has
      have hoa := hlo.oa
      rw [eR] at hok hhas hoa
      have HOth := Lib.hid hoth
      have HOa := Lib.hid hoa
      have HH := Lib.hid hhas
      have HOK := Lib.hid hok
      have a0 : ∀ w9, Below wr.heap.size wr w9 → w9.cell? ⟨A, 0, none⟩ = some (.pointer (some ⟨S, 0, none⟩)) := fun w9 hb => by
        have := (hoa.am.below hb).one.cell 0
        simpa using this
      have HA0 := Lib.hid a0
      clear hlo eR hok hoth hhas hoa a0
      go_wp2_with (go_at_call 39; refine HOth.out.mono ?_; rintro e w9 ⟨S', v', ys, rfl, hst, hS1, hS2, hb9, hh9⟩; (have c9 := HA0.out _ hb9); (have f9 := ((HOa.out.am.below hb9).one.frozen 0)); have HST9 := Lib.hid hst; have HS1 := Lib.hid hS1; have HS2 := Lib.hid hS2; have HB9 := Lib.hid hb9; have HH9 := Lib.hid hh9; clear hst hS1 hS2 hb9 hh9)
      go_ret2
      have o9 := HOa.out.later HB9.out
      obtain ⟨am, kk⟩ := o9.am.swap HST9.out
      have hsz := HB9.out.size
      have hw := HOa.out.lt
      refine .inl ⟨HOK.out, A, S', v', bc, bw, ys, rfl, ⟨am, o9.loA, fun g hg => ?_, o9.below.trans (kk.below o9.lt (fun g hg => by simp at hg; subst hg; exact o9.loA))⟩, fun j => ?_⟩
      · simp only [bl, List.mem_cons] at hg
        rcases hg with rfl | rfl | rfl | hg
        · have := HS1.out; omega
        · exact o9.lo _ (by simp [bl])
        · exact o9.lo _ (by simp [bl])
        · have := HS2.out g hg; omega
      · rw [HH9.out j, HH.out j]
        by_cases c1 : j < f
        · simp [c1, show ¬ (f ≤ j) by omega]
        · by_cases c2 : j < n
          · simp [c1, c2, show f ≤ j by omega]
          · simp [c1, c2]
end
end Go.Proofs.Ytnpjbddannkgfaa
