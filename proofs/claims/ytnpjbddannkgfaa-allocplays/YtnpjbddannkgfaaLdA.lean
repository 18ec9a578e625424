/- AllocLoads: its walk. Conditions: none. -/
import Derived.Test.YtnpjbddannkgfaaRfF
import Derived.Test.YtnpjbddannkgfaaAlU
namespace Go.Proofs.Ytnpjbddannkgfaa
open Go.ChangeShapes Go.WideShapes Go.RowKit Go.Maps Go.Spans Go.Alloc
set_option maxRecDepth 100000
theorem cb_cnt {n : Nat} {xs : List Sp} (ok : Ok n xs) {h : Nat → Bool} (hh : ∀ j, h j = hasB xs j) : cb h n = cnt xs := by
  have e : h = hasB xs := funext hh
  subst e
  have hp : ((List.range n).filter (hasB xs)).Perm (elems xs) := by
    rw [List.perm_ext_iff_of_nodup (List.Pairwise.filter _ List.nodup_range) ((elems_lt ok).imp (fun h => Nat.ne_of_lt h))]
    intro a
    rw [List.mem_filter, List.mem_range, mem_elems ok]
    exact ⟨fun h => h.2, fun h => ⟨hasB_lt ok h, h⟩⟩
  unfold cb
  rw [hp.length_eq, elems_len]
theorem oi_loads {w : World} {f n : Nat} (h1 : f < n) (h2 : n ≤ 4096) {P : Option Addr} {l : List Od} (C m : Nat) (hl : Ls w w.heap.size P l) (hm : l.length = m) (hm1 : m ≤ 100) (hr : ∀ o ∈ l, o.rest.length ≤ 200) (hok : loadOK f n l) :
    Calls Try.prog 13 #[.int .i64 (f : Nat), .int .i64 (n : Nat), .slice P m C] w fun e w' => ∃ A ys, e = .returned (.tuple #[.pointer (some ⟨A, 0, none⟩), .int .i64 0]) ∧ Oi w.heap.size w w' A f n ys (loadL l) [] ∧ ∀ j, hasB ys j = frO f n (allO l) j := by
  subst hm
  refine (load_c f n h1 h2 C hl (by omega) (fun o ho => by have := hr o ho; omega)).mono ?_
  rintro e w' (⟨_, A, S, v, bc, bw, ys, rfl, ho, hys⟩ | ⟨hn, _⟩)
  · exact ⟨A, ys, rfl, ⟨S, v, bc, bw, ho, load_inv hok h1 h2 ho.am.set.ok hys⟩, hys⟩
  · exact absurd hok hn
theorem bad_loads {w : World} {f n : Nat} (h1 : f < n) (h2 : n ≤ 4096) {P : Option Addr} {l : List Od} (C m : Nat) (hl : Ls w w.heap.size P l) (hm : l.length = m) (hm1 : m ≤ 100) (hr : ∀ o ∈ l, o.rest.length ≤ 200) (hok : ¬ loadOK f n l) :
    Calls Try.prog 13 #[.int .i64 (f : Nat), .int .i64 (n : Nat), .slice P m C] w fun e w' => e = .returned (.tuple #[.pointer none, .int .i64 4]) ∧ Below w.heap.size w w' := by
  subst hm
  refine (load_c f n h1 h2 C hl (by omega) (fun o ho => by have := hr o ho; omega)).mono ?_
  rintro e w' (⟨h, _⟩ | ⟨_, rfl, hb⟩)
  · exact absurd h hok
  · exact ⟨rfl, hb⟩
theorem rl_ok {w : World} {f n : Nat} (h1 : f < n) (h2 : n ≤ 4096) {P : Option Addr} {l : List Od} (C m : Nat) (hl : Ls w w.heap.size P l) (hm : l.length = m) (hm1 : m ≤ 100) (hr : ∀ o ∈ l, o.rest.length ≤ 200) (hok : loadOK f n l) :
    Calls Try.prog 14 #[.int .i64 (f : Nat), .int .i64 (n : Nat), .slice P m C] w fun e w' => ∃ R hF hW vL ks, e = .returned (.tuple #[.pointer (some ⟨R, 0, none⟩), .int .i64 0]) ∧ Rf w' w.heap.size R hF hW f n (frO f n (allO l)) (fun _ => false) vL ks ∧ ks.map (·.2) = loadL l ∧ Below w.heap.size w w' := by
  refine (rload_c f n h1 h2 C m hl hm (by omega) (fun o ho => by have := hr o ho; omega)).mono ?_
  rintro e w' (⟨R, hF, hW, vL, ks, rfl, h⟩ | ⟨hn, _⟩)
  · have e : l.take m = l := by rw [← hm, List.take_length]
    have h3 := h.rf
    have h4 := h.same
    rw [e, List.append_nil] at h3
    rw [e] at h4
    exact ⟨R, hF, hW, vL, ks, rfl, h3, h4, h.below⟩
  · exact absurd hok hn
theorem rl_bad {w : World} {f n : Nat} (h1 : f < n) (h2 : n ≤ 4096) {P : Option Addr} {l : List Od} (C m : Nat) (hl : Ls w w.heap.size P l) (hm : l.length = m) (hm1 : m ≤ 100) (hr : ∀ o ∈ l, o.rest.length ≤ 200) (hok : ¬ loadOK f n l) :
    Calls Try.prog 14 #[.int .i64 (f : Nat), .int .i64 (n : Nat), .slice P m C] w fun e w' => e = .returned (.tuple #[.pointer none, .int .i64 4]) ∧ Below w.heap.size w w' := by
  refine (rload_c f n h1 h2 C m hl hm (by omega) (fun o ho => by have := hr o ho; omega)).mono ?_
  rintro e w' (⟨R, hF, hW, vL, ks, rfl, h⟩ | ⟨_, rfl, hb⟩)
  · have e : l.take m = l := by rw [← hm, List.take_length]
    have h4 := h.ok
    rw [e] at h4
    exact absurd h4 hok
  · exact ⟨rfl, hb⟩
theorem fwd {Q : Prop} (h : True → Q) : Q := h trivial
theorem ls_up {w : World} {B B' : Nat} {P : Option Addr} {l : List Od} (h : Ls w B P l) (hb : B ≤ B') : Ls w B' P l := by
  intro i x hx
  obtain ⟨h1, h2, ad, e, hB, c0, c1, c2⟩ := h i x hx
  refine ⟨fun j y hj => ?_, h2, ad, e, by omega, c0, c1, c2⟩
  obtain ⟨ad', e', hB', hc'⟩ := h1 j y hj
  exact ⟨ad', e', by omega, hc'⟩
set_option maxHeartbeats 4000000 in
theorem loads_c (W : World) (i0 i1 : Int) (hr0 : -9223372036854775808 ≤ i0 ∧ i0 ≤ 9223372036854775807) (hr1 : -9223372036854775808 ≤ i1 ∧ i1 ≤ 9223372036854775807) (A0 : Option Addr) (l : List Od) (cap : Nat) (hl : l.length ≤ maxLen) (h0 : Ls W W.heap.size A0 l) :
    Calls Try.prog 4 #[.int .i64 i0, .int .i64 i1, .slice A0 l.length cap] W fun e w' => e = .returned (.bool true) ∧ Below W.heap.size W w' := by
  obtain ⟨m, hm⟩ : ∃ m, l.length = m := ⟨_, rfl⟩
  rw [hm] at hl ⊢
  have hfew := few_c cap m h0 hm hl
  have HFew := Lib.hid hfew
  have H0 := Lib.hid h0
  have HM := Lib.hid hm
  have HAw := Lib.hid awake_c
  clear hfew h0 hm
  by_cases hmay : 0 ≤ i0 ∧ i0 < i1 ∧ i1 ≤ 4096
  · obtain ⟨f, rfl⟩ := Int.eq_ofNat_of_zero_le hmay.1
    obtain ⟨n, rfl⟩ := Int.eq_ofNat_of_zero_le (show (0 : Int) ≤ i1 by omega)
    have h1 : f < n := by omega
    have h2 : n ≤ 4096 := by omega
    have hp : i64r (f : Int) := by unfold i64r; omega
    by_cases hok : loadOK f n l
    · have HOK := Lib.hid hok
      clear hok
      go_enter Try.func4, Try.ntmps4
      go_wp2_with (first
        | (go_at_call 18; refine HFew.out.mono ?_; clear HFew; rintro e w2 ⟨b, rfl, hb2, hfw⟩; have HB2 := Lib.hid hb2; have HFW := Lib.hid hfw; have HL2 := Lib.hid (ls_up (H0.out.kept hb2) hb2.size); clear hb2 hfw; cases b)
        | (go_at_call 13; refine (oi_loads h1 h2 cap m HL2.out HM.out (fwd HFW.out).1 (fwd HFW.out).2 HOK.out).mono ?_; rintro e w3 ⟨A, ys, rfl, ho, hys⟩; (have hb03 := HB2.out.trans (ho.below.mono HB2.out.size)); have HL3 := Lib.hid (ls_up (H0.out.kept hb03) hb03.size); have HB3 := Lib.hid hb03; have HO := Lib.hid ho; have HYS := Lib.hid hys; clear ho hys hb03)
        | (go_at_call 15; refine (theirs_c cap m HL3.out HM.out (by have := (fwd HFW.out).1; omega)).mono ?_; rintro e w4 ⟨P4, C4, rfl, hr4, hb4⟩; (have hb04 := HB3.out.trans (hb4.mono HB3.out.size)); (have hl4 := ls_of HL3.out hb4 hr4 hb4.size); have HB34 := Lib.hid hb4; have HB4 := Lib.hid hb04; have HL4 := Lib.hid hl4; clear hr4 hb4 hb04 hl4)
        | (go_at_call 14; refine (rl_ok h1 h2 C4 m HL4.out HM.out (fwd HFW.out).1 (fwd HFW.out).2 HOK.out).mono ?_; rintro e w5 ⟨R, hF, hW, vL, ks, rfl, hrf, hsm, hb5⟩; (have hb05 := HB4.out.trans (hb5.mono HB4.out.size)); (have hb35 := HB34.out.trans (hb5.mono HB34.out.size)); (have hal := alike_c (HO.out.later hb35) hrf hsm (cb_cnt HO.out.inv.ok (fun j => (HYS.out j).symm)) (by simp [cb]) (f : Int) hp); have HAL := Lib.hid hal; have HB5 := Lib.hid hb05; clear hrf hsm hb5 hb05 hb35 hal)
        | (go_at_call 17; refine HAL.out.mono ?_; clear HAL; rintro e w6 ⟨rfl, hb6⟩; have HB6 := Lib.hid (HB5.out.trans (hb6.mono HB5.out.size)); clear hb6)
        | (go_at_call 10; refine (HAw.out _).mono ?_; rintro e w99 ⟨rfl, hb99⟩; have HB99 := Lib.hid hb99; clear hb99))
      · go_ret
        exact ⟨rfl, HB2.out.trans (HB99.out.mono HB2.out.size)⟩
      · go_ret
        exact ⟨rfl, HB6.out.trans (HB99.out.mono HB6.out.size)⟩
    · have HOK := Lib.hid hok
      clear hok
      go_enter Try.func4, Try.ntmps4
      go_wp2_with (first
        | (go_at_call 18; refine HFew.out.mono ?_; clear HFew; rintro e w2 ⟨b, rfl, hb2, hfw⟩; have HB2 := Lib.hid hb2; have HFW := Lib.hid hfw; have HL2 := Lib.hid (ls_up (H0.out.kept hb2) hb2.size); clear hb2 hfw; cases b)
        | (go_at_call 13; refine (bad_loads h1 h2 cap m HL2.out HM.out (fwd HFW.out).1 (fwd HFW.out).2 HOK.out).mono ?_; rintro e w3 ⟨rfl, hb3⟩; (have hb03 := HB2.out.trans (hb3.mono HB2.out.size)); have HL3 := Lib.hid (ls_up (H0.out.kept hb03) hb03.size); have HB3 := Lib.hid hb03; clear hb3 hb03)
        | (go_at_call 15; refine (theirs_c cap m HL3.out HM.out (by have := (fwd HFW.out).1; omega)).mono ?_; rintro e w4 ⟨P4, C4, rfl, hr4, hb4⟩; (have hb04 := HB3.out.trans (hb4.mono HB3.out.size)); (have hl4 := ls_of HL3.out hb4 hr4 hb4.size); have HB34 := Lib.hid hb4; have HB4 := Lib.hid hb04; have HL4 := Lib.hid hl4; clear hr4 hb4 hb04 hl4)
        | (go_at_call 14; refine (rl_bad h1 h2 C4 m HL4.out HM.out (fwd HFW.out).1 (fwd HFW.out).2 HOK.out).mono ?_; rintro e w5 ⟨rfl, hb5⟩; have HB5 := Lib.hid (HB4.out.trans (hb5.mono HB4.out.size)); clear hb5)
        | (go_at_call 10; refine (HAw.out _).mono ?_; rintro e w99 ⟨rfl, hb99⟩; have HB99 := Lib.hid hb99; clear hb99))
      · go_ret
        exact ⟨rfl, HB2.out.trans (HB99.out.mono HB2.out.size)⟩
      · go_ret
        exact ⟨rfl, HB5.out.trans (HB99.out.mono HB5.out.size)⟩
  · have HMAY := Lib.hid hmay
    clear hmay
    go_enter Try.func4, Try.ntmps4
    go_wp2_with (first
      | (go_at_call 18; refine HFew.out.mono ?_; clear HFew; rintro e w2 ⟨b, rfl, hb2, hfw⟩; have HB2 := Lib.hid hb2; have HFW := Lib.hid hfw; have HL2 := Lib.hid (ls_up (H0.out.kept hb2) hb2.size); clear hb2 hfw; cases b)
      | (go_at_call 13; refine (load_arg i0 i1 HMAY.out A0 m cap _).mono ?_; rintro e w3 ⟨rfl, hw3⟩; subst hw3; have HB3 := HB2; have HL3 := HL2)
      | (go_at_call 15; refine (theirs_c cap m HL3.out HM.out (by have := (fwd HFW.out).1; omega)).mono ?_; rintro e w4 ⟨P4, C4, rfl, hr4, hb4⟩; (have hb04 := HB3.out.trans (hb4.mono HB3.out.size)); (have hl4 := ls_of HL3.out hb4 hr4 hb4.size); have HB34 := Lib.hid hb4; have HB4 := Lib.hid hb04; have HL4 := Lib.hid hl4; clear hr4 hb4 hb04 hl4)
      | (go_at_call 14; refine (rload_arg i0 i1 HMAY.out P4 m C4 _).mono ?_; rintro e w5 ⟨rfl, hw5⟩; subst hw5)
      | (go_at_call 10; refine (HAw.out _).mono ?_; rintro e w99 ⟨rfl, hb99⟩; have HB99 := Lib.hid hb99; clear hb99))
    · go_ret
      exact ⟨rfl, HB2.out.trans (HB99.out.mono HB2.out.size)⟩
    · go_ret
      exact ⟨rfl, HB4.out.trans (HB99.out.mono HB4.out.size)⟩
end Go.Proofs.Ytnpjbddannkgfaa
