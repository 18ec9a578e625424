/- An allocator whose sectors are known one by one; takes, drops, awake. Conditions: none. -/
import Derived.Test.YtnpjbddannkgfaaAlS
namespace Go.Proofs.Ytnpjbddannkgfaa
open Go.ChangeShapes Go.WideShapes Go.RowKit Go.Maps Go.Spans Go.Alloc
set_option maxRecDepth 100000
theorem rising_ext : ∀ {l m : List Nat}, l.Pairwise (· < ·) → m.Pairwise (· < ·) → (∀ x, x ∈ l ↔ x ∈ m) → l = m
  | [], [], _, _, _ => rfl
  | [], b :: s, _, _, h => by have := (h b).2 (by simp); simp at this
  | a :: r, [], _, _, h => by have := (h a).1 (by simp); simp at this
  | a :: r, b :: s, h1, h2, h => by
    obtain ⟨a1, a2⟩ := List.pairwise_cons.1 h1
    obtain ⟨b1, b2⟩ := List.pairwise_cons.1 h2
    have hab : a = b := by
      rcases List.mem_cons.1 ((h a).1 (by simp)) with e | ha
      · exact e
      · rcases List.mem_cons.1 ((h b).2 (by simp)) with e | hb
        · exact e.symm
        · have := a1 b hb; have := b1 a ha; omega
    subst hab
    rw [rising_ext a2 b2 (fun p => ⟨fun hp => by
      rcases List.mem_cons.1 ((h p).1 (by simp [hp])) with e | hp'
      · have := a1 p hp; omega
      · exact hp', fun hp => by
      rcases List.mem_cons.1 ((h p).2 (by simp [hp])) with e | hp'
      · have := b1 p hp; omega
      · exact hp'⟩)]
/-- These, rising. -/
def up (n : Nat) (l : List Nat) : List Nat := (List.range n).filter fun j => decide (j ∈ l)
/-- An allocator whose free sectors, chains and waiting sectors are these. -/
def Oc (B : Nat) (wB w : World) (A f n : Nat) (E : List Nat) (L : List Ch) (W : List Nat) : Prop := ∃ xs W', Oi B wB w A f n xs L W' ∧ elems xs = E ∧ W'.Perm W
def allocE (E : List Nat) (k : Int) : Int := if k < 1 then 2 else if (E.length : Int) < k then 7 else 0
section
variable {B : Nat} {wB w w' : World} {A f n : Nat} {E : List Nat} {L : List Ch} {W : List Nat}
theorem Oc.later (h : Oc B wB w A f n E L W) (hb : Below w.heap.size w w') : Oc B wB w' A f n E L W := by
  obtain ⟨xs, W', h1, h2, h3⟩ := h
  exact ⟨xs, W', h1.later hb, h2, h3⟩
theorem Oc.below (h : Oc B wB w A f n E L W) : Below B wB w := by obtain ⟨xs, W', h1, h2, h3⟩ := h; exact h1.below
theorem Oc.lt (h : Oc B wB w A f n E L W) : B ≤ w.heap.size := by obtain ⟨xs, W', h1, h2, h3⟩ := h; exact h1.lt
theorem oc_new (f n : Nat) (h1 : f < n) (h2 : n ≤ 4096) (w : World) : Calls Try.prog 8 #[.int .i64 (f : Nat), .int .i64 (n : Nat)] w fun e w' =>
    ∃ A, e = .returned (.pointer (some ⟨A, 0, none⟩)) ∧ Oc w.heap.size w w' A f n (List.range' f (n - f)) [] [] := by
  refine (oi_new f n h1 h2 w).mono ?_
  rintro e w' ⟨A, xs, rfl, ho, hxs⟩
  refine ⟨A, rfl, xs, [], ho, ?_, .refl _⟩
  refine rising_ext (elems_lt ho.inv.ok) List.pairwise_lt_range' fun x => ?_
  rw [mem_elems ho.inv.ok, hxs x, List.mem_range'_1, decide_eq_true_iff]
  omega
theorem Oc.free (h : Oc B wB w A f n E L W) : Calls Try.prog 24 #[.pointer (some ⟨A, 0, none⟩)] w fun e w' => e = .returned (.int .i64 (E.length : Nat)) ∧ Below w.heap.size w w' := by
  obtain ⟨xs, W', h1, rfl, h3⟩ := h
  rw [elems_len]
  exact h1.free
theorem Oc.waiting (h : Oc B wB w A f n E L W) : Calls Try.prog 27 #[.pointer (some ⟨A, 0, none⟩)] w fun e w' => e = .returned (.int .i64 (W.length : Nat)) ∧ w = w' := by
  obtain ⟨xs, W', h1, rfl, h3⟩ := h
  rw [← h3.length_eq]
  exact h1.waiting
theorem Oc.alloc (h : Oc B wB w A f n E L W) (k : Int) : Calls Try.prog 20 #[.pointer (some ⟨A, 0, none⟩), .int .i64 k] w fun e w' =>
    ∃ P C, Kq w w' ∧ w'.ownsRow w.heap.size 3 1 (.slice P (if allocE E k = 0 then E.take k.toNat else []).length C) (if allocE E k = 0 then E.take k.toNat else []).length (ints (if allocE E k = 0 then E.take k.toNat else [])) ∧
      e = .returned (.tuple #[.slice P (if allocE E k = 0 then E.take k.toNat else []).length C, .int .i64 (allocE E k)]) ∧
      Oc B wB w' A f n (if allocE E k = 0 then E.drop k.toNat else E) (if allocE E k = 0 then insC ⟨E.take k.toNat, 1, false⟩ L else L) W := by
  obtain ⟨xs, W', h1, rfl, h3⟩ := h
  have eE : takeE xs k = allocE (elems xs) k := by unfold takeE allocE; rw [elems_len]
  have eL : takeL xs k = if allocE (elems xs) k = 0 then (elems xs).take k.toNat else [] := by
    unfold takeL allocE
    rw [elems_len]
    by_cases c1 : k < 1
    · simp [c1]
    · by_cases c2 : (cnt xs : Int) < k
      · simp [c1, c2]
      · simp [c1, c2]
  refine (h1.alloc k).mono ?_
  rw [eE, eL]
  rintro e w' ⟨P, C, hq, hr, rfl, ho⟩
  refine ⟨P, C, hq, hr, rfl, takeX xs k, W', ?_, ?_, h3⟩
  · by_cases c : allocE (elems xs) k = 0
    · simp only [c, if_true] at ho ⊢; exact ho
    · simp only [c, if_false] at ho ⊢; exact ho
  · by_cases c : allocE (elems xs) k = 0
    · rw [if_pos c]
      have hE : takeE xs k = 0 := by rw [eE, c]
      obtain ⟨_, _, e1, _, h5⟩ := take_facts h1.inv.ok hE
      have hs := elems_lt h1.inv.ok
      have hs2 := hs
      rw [← List.take_append_drop k.toNat (elems xs), List.pairwise_append] at hs2
      refine rising_ext (elems_lt ho.inv.ok) hs2.2.1 fun x => ?_
      rw [mem_elems ho.inv.ok, h5 x, e1]
      constructor
      · intro hx
        rw [Bool.and_eq_true, Bool.not_eq_true', decide_eq_false_iff_not] at hx
        have hm := (mem_elems h1.inv.ok).2 hx.1
        rw [← List.take_append_drop k.toNat (elems xs), List.mem_append] at hm
        exact hm.resolve_left hx.2
      · intro hx
        have hn : x ∉ (elems xs).take k.toNat := fun hm => by have := hs2.2.2 x hm x hx; omega
        rw [(mem_elems h1.inv.ok).1 (List.mem_of_mem_drop hx)]
        simp [hn]
    · rw [if_neg c]
      have hn : k < 1 ∨ (cnt xs : Int) < k := by
        unfold allocE at c
        rw [elems_len] at c
        split at c
        · omega
        · split at c
          · omega
          · omega
      have e2 : takeX xs k = xs := by unfold takeX; rw [if_pos hn]
      rw [e2]
theorem Oc.hold (h : Oc B wB w A f n E L W) (p : Int) (hp : i64r p) : Calls Try.prog 21 #[.pointer (some ⟨A, 0, none⟩), .int .i64 p] w fun e w' => e = .returned (.int .i64 (holdE L p)) ∧ Oc B wB w' A f n E (holdL L p) W := by
  obtain ⟨xs, W', h1, rfl, h3⟩ := h
  refine (h1.hold p hp).mono ?_
  rintro e w' ⟨rfl, _, ho⟩
  exact ⟨rfl, xs, W', ho, rfl, h3⟩
/-- What is free behind a reference that is let go; what waits. -/
def dropF (n : Nat) (E : List Nat) (L : List Ch) (p : Int) : List Nat := match findC L p with | none => E | some c => if c.refs ≤ 1 ∧ c.sure = false then up n (E ++ c.secs) else E
def dropW (W : List Nat) (L : List Ch) (p : Int) : List Nat := match findC L p with | none => W | some c => if c.refs ≤ 1 ∧ c.sure = true then c.secs ++ W else W
theorem up_eq {n : Nat} {ys : List Sp} (hok : Ok n ys) {l : List Nat} (h : ∀ j, hasB ys j = decide (j ∈ l)) : elems ys = up n l := by
  rw [← elems_eq hok]
  unfold up
  apply List.filter_congr
  intro x _
  exact h x
theorem Oc.drop (h : Oc B wB w A f n E L W) (p : Int) (hp : i64r p) : Calls Try.prog 29 #[.pointer (some ⟨A, 0, none⟩), .int .i64 p] w fun e w' => e = .returned (.tuple #[.bool (dropB L p), .int .i64 (dropE L p)]) ∧ Oc B wB w' A f n (dropF n E L p) (dropL' L p) (dropW W L p) := by
  obtain ⟨xs, W', h1, rfl, h3⟩ := h
  refine (h1.drop p hp).mono ?_
  rintro e w' ⟨rfl, _, ys, W2, hd, ho⟩
  refine ⟨rfl, ys, W2, ho, ?_, ?_⟩
  · unfold dropS at hd
    unfold dropF
    cases hf : findC L p with
    | none => rw [hf] at hd; simp only at hd ⊢; rw [hd.1]
    | some c =>
      rw [hf] at hd
      simp only at hd ⊢
      by_cases c1 : c.refs ≤ 1
      · cases c2 : c.sure with
        | true => simp only [c1, c2, if_true] at hd ⊢; simp [hd.1]
        | false =>
          simp only [c1, c2, if_true, Bool.false_eq_true, if_false] at hd ⊢
          simp only [and_self, if_true]
          refine up_eq ho.inv.ok fun j => ?_
          rw [hd.2 j, Bool.eq_iff_iff]
          simp [mem_elems h1.inv.ok]
      · simp only [c1, if_false] at hd
        simp [c1, hd.1]
  · unfold dropS at hd
    unfold dropW
    cases hf : findC L p with
    | none => rw [hf] at hd; simp only at hd ⊢; rw [hd.2]; exact h3
    | some c =>
      rw [hf] at hd
      simp only at hd ⊢
      by_cases c1 : c.refs ≤ 1
      · cases c2 : c.sure with
        | true =>
          simp only [c1, c2, if_true] at hd ⊢
          simp only [and_self, if_true]
          exact hd.2.trans (List.Perm.append_left _ h3)
        | false =>
          simp only [c1, c2, if_true, Bool.false_eq_true, if_false] at hd ⊢
          simp [hd.1, h3]
      · simp only [c1, if_false] at hd
        simp [c1, hd.2, h3]
theorem Oc.commit (h : Oc B wB w A f n E L W) : Calls Try.prog 26 #[.pointer (some ⟨A, 0, none⟩)] w fun e w' => e = .returned (.tuple #[]) ∧ Oc B wB w' A f n (up n (E ++ W)) (sureC L) [] := by
  obtain ⟨xs, W', h1, rfl, h3⟩ := h
  refine h1.commit.mono ?_
  rintro e w' ⟨rfl, _, ys, hys, ho⟩
  refine ⟨rfl, ys, [], ho, up_eq ho.inv.ok fun j => ?_, .refl _⟩
  rw [hys j, Bool.eq_iff_iff]
  simp [mem_elems h1.inv.ok, h3.mem_iff]
theorem Oc.refs (h : Oc B wB w A f n E L W) (p : Int) (hp : i64r p) : Calls Try.prog 22 #[.pointer (some ⟨A, 0, none⟩), .int .i64 p] w fun e w' => e = .returned (.int .i64 (refsN L p : Nat)) ∧ Below w.heap.size w w' := by
  obtain ⟨xs, W', h1, rfl, h3⟩ := h; exact h1.refs p hp
theorem Oc.sure (h : Oc B wB w A f n E L W) (p : Int) (hp : i64r p) : Calls Try.prog 25 #[.pointer (some ⟨A, 0, none⟩), .int .i64 p] w fun e w' => e = .returned (.bool (sureB L p)) ∧ Below w.heap.size w w' := by
  obtain ⟨xs, W', h1, rfl, h3⟩ := h; exact h1.sure p hp
theorem Oc.chain (h : Oc B wB w A f n E L W) (p : Int) (hp : i64r p) : Calls Try.prog 28 #[.pointer (some ⟨A, 0, none⟩), .int .i64 p] w fun e w' => ∃ P C, e = .returned (.slice P (chainL L p).length C) ∧ w'.ownsRow w.heap.size 3 1 (.slice P (chainL L p).length C) (chainL L p).length (zs (nz (chainL L p))) ∧ Below w.heap.size w w' := by
  obtain ⟨xs, W', h1, rfl, h3⟩ := h; exact h1.chain p hp
theorem Oc.list (h : Oc B wB w A f n E L W) : Calls Try.prog 12 #[.pointer (some ⟨A, 0, none⟩)] w fun e w' => ∃ P C, e = .returned (.slice P L.length C) ∧ Below w.heap.size w w' := by
  obtain ⟨xs, W', h1, rfl, h3⟩ := h
  refine h1.list.mono ?_
  rintro e w' ⟨P, C, l, rfl, _, _, _, hb⟩
  exact ⟨P, C, rfl, hb⟩
theorem below_drewN {a b : World} (h : Below a.heap.size a b) (k : Nat) : Below a.heap.size a (b.drewN k) := h.trans ⟨rfl, rfl, rfl, Nat.le_refl _, fun _ _ => rfl⟩
/-- The next k are those that are wanted. -/
theorem takes_c (h : Oc B wB w A f n E L W) (k : Int) (want : List Nat) (hE : allocE E k = 0) (hT : E.take k.toNat = want) (hw1 : 1 ≤ want.length) (hw2 : want.length ≤ 4096) {g c : Nat} (hg : Is w g 3 (zs (nz want)).toArray) :
    Calls Try.prog 19 #[.pointer (some ⟨A, 0, none⟩), .int .i64 k, .slice (some ⟨g, 0, none⟩) want.length c] w fun e w' => e = .returned (.bool true) ∧ Oc B wB w' A f n (E.drop k.toNat) (insC ⟨want, 1, false⟩ L) W := by
  have hA := h.alloc k
  simp only [hE, if_true, hT] at hA
  obtain ⟨m, hm⟩ : ∃ m, want.length = m := ⟨_, rfl⟩
  have hcell : ∀ wx, Kq w wx → ∀ j z, want[j]? = some z → wx.cell? ⟨g, j, none⟩ = some (.int .i64 (z : Nat)) := fun wx hk j z hj => by
    have hi := hk.is g 3 _ hg (by decide) (by decide)
    rw [hi.cell j]
    simp [zs, nz, hj]
  rw [hm] at hA ⊢ hw1 hw2
  have HA := Lib.hid hA
  have HC := Lib.hid hcell
  have HM := Lib.hid hm
  clear hA hcell hg hm h hE hT
  go_enter Try.func19, Try.ntmps19
  go_wp2_with (go_at_call 20; refine HA.out.mono ?_; rintro e w1 ⟨P, C, hq, hr, rfl, ho⟩; have HQ := Lib.hid hq; have HR := Lib.hid hr; have HO := Lib.hid ho; clear hq hr ho)
  go_loopw [9] (fun i wr => ∃ k : Nat, i = .int .i64 (k : Int) ∧ k ≤ m ∧ Below w1.heap.size w1 wr) (fun i _ => m - (RowKit.intOf i).toNat)
  case atStart => exact ⟨0, rfl, Nat.zero_le _, Below.refl _ _⟩
  case round =>
    obtain ⟨k, rfl, hkn, hb⟩ := hrel
    have HB := Lib.hid hb
    by_cases hlt : k < m
    · have hx : want[k]? = some (want[k]'(by rw [HM.out]; exact hlt)) := List.getElem?_eq_getElem _
      obtain ⟨x, ex⟩ : ∃ x, want[k]'(by rw [HM.out]; exact hlt) = x := ⟨_, rfl⟩
      rw [ex] at hx
      have c2 := HC.out _ (HQ.out.trans (Kq.below hb)) k x hx
      have hr := row_kp HR.out (Kp.of_below hb []) (noI_nil _)
      rw [ints_zs] at hr
      obtain ⟨a, c', ea, hc⟩ := own_sl (xs := nz want) (by
        have : (nz want).length = m := by simp [nz, HM.out]
        rw [this]
        exact hr)
      obtain ⟨ad, rfl, c1⟩ := hc k (x : Nat) (by simp [nz, hx])
      injection ea with ea q1 q2
      clear q1 q2 hc hr
      subst ea
      have hki : (k : Int) < (m : Int) := by omega
      have hk0 : (0 : Int) ≤ (k : Int) := by omega
      clear hx ex hb
      go_wp2
      go_quiet (fail)
      go_wp2
      go_roundw
      case rel => exact ⟨k + 1, by go_num, by omega, below_drewN HB.out _⟩
      case measure => simp [RowKit.intOf]; omega
    · obtain rfl : k = m := by omega
      clear hb
      go_wp2
      go_ret
      exact ⟨rfl, HO.out.later HB.out⟩
theorem drops_c (h : Oc B wB w A f n E L W) (p : Int) (hp : i64r p) (last : Bool) (e0 : Int) (h1 : dropB L p = last) (h2 : dropE L p = e0) :
    Calls Try.prog 23 #[.pointer (some ⟨A, 0, none⟩), .int .i64 p, .bool last, .int .i64 e0] w fun e w' => e = .returned (.bool true) ∧ Oc B wB w' A f n (dropF n E L p) (dropL' L p) (dropW W L p) := by
  have hD := h.drop p hp
  rw [h1, h2] at hD
  clear h h1 h2
  go_enter Try.func23, Try.ntmps23
  go_wp2_with (go_at_call 29; refine hD.mono ?_; rintro e w1 ⟨rfl, ho⟩)
  go_ret
  exact ⟨by simp, ho⟩
end
end Go.Proofs.Ytnpjbddannkgfaa
