/- The document's Load. Conditions: none. -/
import Derived.Test.YtnpjbddannkgfaaRfC
namespace Go.Proofs.Ytnpjbddannkgfaa
open Go.ChangeShapes Go.WideShapes Go.RowKit Go.Maps Go.Spans Go.Alloc
set_option maxRecDepth 100000
theorem rload_arg (f n : Int) (h : ¬ (0 ≤ f ∧ f < n ∧ n ≤ 4096)) (P : Option Addr) (m c : Nat) (w : World) : Calls Try.prog 14 #[.int .i64 f, .int .i64 n, .slice P m c] w fun e w' => e = .returned (.tuple #[.pointer none, .int .i64 2]) ∧ w' = w := by
  have hN := may_c w f n
  rw [decide_eq_false h] at hN
  clear h
  go_enter Try.func14, Try.ntmps14
  go_wp2_with (go_at_call 9; refine hN.mono ?_; rintro e w' ⟨rfl, rfl⟩)
  go_ret2
  exact ⟨rfl, rfl⟩
/-- What is still free behind these. -/
def frO (f n : Nat) (l : List Int) (j : Nat) : Bool := decide (f ≤ j ∧ j < n) && !decide (((j : Nat) : Int) ∈ l)
/-- How the loop stands. -/
structure Rl (w wr : World) (R hF hW f n : Nat) (vL : Value) (ks : List (Value × Ch)) (l : List Od) (k : Nat) (s : List Int) : Prop where
  rf : Rf wr w.heap.size R hF hW f n (frO f n (allO (l.take k) ++ s)) (fun _ => false) vL ks
  same : ks.map (·.2) = loadL (l.take k)
  ok : loadOK f n (l.take k)
  below : Below w.heap.size w wr
section
variable {w wr : World} {R hF hW f n : Nat} {vL : Value} {ks : List (Value × Ch)} {l : List Od} {k : Nat} {s : List Int}
theorem Rl.len (h : Rl w wr R hF hW f n vL ks l k s) (hk : k ≤ l.length) : ks.length = k := by
  have := congrArg List.length h.same
  rw [List.length_map] at this
  rw [this, (loadL_perm _).length_eq, List.length_reverse, List.length_map, List.length_take]
  omega
theorem Rl.ne (h : Rl w wr R hF hW f n vL ks l k s) : ∀ x ∈ ks, x.2.secs ≠ [] := fun x hx => by
  have : x.2 ∈ loadL (l.take k) := by rw [← h.same]; exact List.mem_map.2 ⟨x, hx, rfl⟩
  obtain ⟨o, _, e⟩ := loadL_mem.1 this
  rw [← e]
  simp [Od.ch, Od.secs]
end
theorem via {G Q : Prop} (h : G → Q) (g : G) : Q := h g
/-- A cell of a block of the call's own is written. -/
theorem below_put {B : Nat} {w0 w : World} (h : Below B w0 w) {b : Nat} (hb : B ≤ b) (hB : B ≤ w.heap.size) (i : Nat) (u : Value) : Below B w0 (w.setCell ⟨b, i, none⟩ u) :=
  h.trans (((Kp.refl w [b]).put ⟨b, i, none⟩ u (.inl (by simp))).below hB (fun g hg => by simp at hg; omega))
/-- How a chain's sectors are gathered. -/
theorem sec_steps {wr : World} {x : Od} (hnb : Sl wr x.v x.rest) (hl : x.rest.length ≤ 8000) {w2 : World} (e2 : wr.alloc (.cells #[.slice none 0 0, .int .i64 x.r, .bool true] 85) = w2) :
    ∃ P1 C1 V2, (Builtin.append_ #[46, 46] 46 #[.slice none 0 0, .slice (some ⟨w2.heap.size, 0, none⟩) 1 1]).run Try.prog (w2.drew.alloc (.cells #[.int .i64 x.p] 3)) = .ok (.slice P1 1 C1) V2 ∧ Is w2.drew wr.heap.size 85 #[.slice none 0 0, .int .i64 x.r, .bool true] ∧ Is (w2.drew.alloc (.cells #[.int .i64 x.p] 3)) wr.heap.size 85 #[.slice none 0 0, .int .i64 x.r, .bool true] ∧ Is V2 wr.heap.size 85 #[.slice none 0 0, .int .i64 x.r, .bool true] ∧ Below wr.heap.size wr w2.drew ∧ Below wr.heap.size wr (w2.drew.alloc (.cells #[.int .i64 x.p] 3)) ∧ Below wr.heap.size wr V2 ∧
    ∃ P2 C2 V4, (Builtin.append_ #[46, 46] 46 #[.slice P1 1 C1, .slice x.P x.rest.length x.c]).run Try.prog (V2.setCell ⟨wr.heap.size, 0, none⟩ (.slice P1 1 C1)).drew = .ok (.slice P2 x.secs.length C2) V4 ∧ Is (V2.setCell ⟨wr.heap.size, 0, none⟩ (.slice P1 1 C1)).drew wr.heap.size 85 #[.slice P1 1 C1, .int .i64 x.r, .bool true] ∧ Is V4 wr.heap.size 85 #[.slice P1 1 C1, .int .i64 x.r, .bool true] ∧ Below wr.heap.size wr (V2.setCell ⟨wr.heap.size, 0, none⟩ (.slice P1 1 C1)).drew ∧ Below wr.heap.size wr V4 ∧
      Is (V4.setCell ⟨wr.heap.size, 0, none⟩ (.slice P2 x.secs.length C2)) wr.heap.size 85 #[.slice P2 x.secs.length C2, .int .i64 x.r, .bool true] ∧ (V4.setCell ⟨wr.heap.size, 0, none⟩ (.slice P2 x.secs.length C2)).ownsRow wr.heap.size 3 1 (.slice P2 x.secs.length C2) x.secs.length (zs x.secs) ∧ Below wr.heap.size wr (V4.setCell ⟨wr.heap.size, 0, none⟩ (.slice P2 x.secs.length C2)) := by
  have i2 : Is w2.drew wr.heap.size 85 #[.slice none 0 0, .int .i64 x.r, .bool true] := by rw [← e2]; exact Is.new wr 85 _
  have b2 : Below wr.heap.size wr w2.drew := by rw [← e2]; exact below_drew (below_alloc (Below.refl _ wr) _)
  have it : Is (w2.drew.alloc (.cells #[.int .i64 x.p] 3)) w2.heap.size 3 #[.int .i64 x.p] := Is.new w2.drew 3 _
  have i2a := i2.alloc (.cells #[.int .i64 x.p] 3)
  have b2a := below_alloc b2 (.cells #[.int .i64 x.p] 3)
  have hsl1 : Sl (w2.drew.alloc (.cells #[.int .i64 x.p] 3)) (.slice (some ⟨w2.heap.size, 0, none⟩) 1 1) [x.p] := ⟨_, 1, rfl, fun j y hj => ⟨_, rfl, by
    have : j = 0 := by have := (List.getElem?_eq_some_iff.1 hj).1; simp at this; omega
    subst this
    simp at hj
    subst hj
    rw [add_at, it.cell]
    rfl⟩⟩
  obtain ⟨P1, C1, V2, r1, o1, g1, _⟩ := app_ints (base := wr.heap.size) (l := []) (v := .slice none 0 0) ⟨rfl, .inl ⟨rfl, rfl⟩⟩ hsl1 (by simp) b2a.size 46
  simp only [List.nil_append, List.length_cons, List.length_nil, Nat.zero_add] at r1 o1
  have i3 : Is V2 wr.heap.size 85 #[.slice none 0 0, .int .i64 x.r, .bool true] := i2a.kept g1 (by simp [Value.ownBlock])
  have b3 : Below wr.heap.size wr V2 := Below.grown_own b2a (show (w2.drew.alloc (.cells #[.int .i64 x.p] 3)).ownsRow wr.heap.size 3 1 (.slice none 0 0) 0 [] from ⟨rfl, .inl ⟨rfl, rfl⟩⟩) g1
  refine ⟨P1, C1, V2, r1, i2, i2a, i3, b2, b2a, b3, ?_⟩
  have i4 : Is (V2.setCell ⟨wr.heap.size, 0, none⟩ (.slice P1 1 C1)) wr.heap.size 85 #[.slice P1 1 C1, .int .i64 x.r, .bool true] := by
    have := i3.put 0 (.slice P1 1 C1)
    simpa using this
  have b4 := below_put b3 (Nat.le_refl wr.heap.size) b3.size 0 (.slice P1 1 C1)
  have k4 : Kp V2 (V2.setCell ⟨wr.heap.size, 0, none⟩ (.slice P1 1 C1)) [wr.heap.size] := (Kp.refl V2 [wr.heap.size]).put ⟨wr.heap.size, 0, none⟩ _ (.inl (by simp))
  have o4 : (V2.setCell ⟨wr.heap.size, 0, none⟩ (.slice P1 1 C1)).ownsRow wr.heap.size 3 1 (.slice P1 1 C1) 1 (zs [x.p]) := row_kpe o1 k4 (fun g hg cs hi => by simp at hg; exact hi.ne i3 (by decide) hg)
  generalize V2.setCell ⟨wr.heap.size, 0, none⟩ (.slice P1 1 C1) = W3 at *
  have i4d : Is W3.drew wr.heap.size 85 #[.slice P1 1 C1, .int .i64 x.r, .bool true] := i4
  have b4d : Below wr.heap.size wr W3.drew := below_drew b4
  obtain ⟨P2, C2, V4, r2, o2, g2, _⟩ := app_ints (w := W3.drew) (base := wr.heap.size) (l := [x.p]) (v := .slice P1 1 C1) o4 (hnb.below b4d) (by simp; omega) b4d.size 46
  have e1 : [x.p] ++ x.rest = x.secs := rfl
  rw [e1] at r2 o2
  have i5 : Is V4 wr.heap.size 85 #[.slice P1 1 C1, .int .i64 x.r, .bool true] := i4d.kept g2 (own_ne o4 i4 (by decide))
  have b5 : Below wr.heap.size wr V4 := Below.grown_own b4d (show W3.drew.ownsRow wr.heap.size 3 1 (.slice P1 1 C1) 1 (zs [x.p]) from o4) g2
  refine ⟨P2, C2, V4, r2, i4d, i5, b4d, b5, ?_, ?_, below_put b5 (Nat.le_refl _) b5.size 0 _⟩
  · have := i5.put 0 (.slice P2 x.secs.length C2)
    simpa using this
  · have k6 : Kp V4 (V4.setCell ⟨wr.heap.size, 0, none⟩ (.slice P2 x.secs.length C2)) [wr.heap.size] := (Kp.refl V4 [wr.heap.size]).put ⟨wr.heap.size, 0, none⟩ _ (.inl (by simp))
    exact row_kpe o2 k6 (fun g hg cs hi => by simp at hg; exact hi.ne i5 (by decide) hg)
/-- How the inner loop stands. -/
structure Il (w wv : World) (b R hF hW f n : Nat) (vL : Value) (ks : List (Value × Ch)) (l : List Od) (k : Nat) (x : Od) (P : Option Addr) (z C j : Nat) : Prop where
  rl : Rl w wv R hF hW f n vL ks l k (x.secs.take j)
  box : Is wv b 85 #[.slice P z C, .int .i64 x.r, .bool true]
  row : wv.ownsRow w.heap.size 3 1 (.slice P z C) z (zs x.secs)
  new : (x.secs.take j).Nodup ∧ ∀ a ∈ x.secs.take j, (f : Int) ≤ a ∧ a < n ∧ a ∉ allO (l.take k)
section
variable {w wr wv : World} {b R hF hW f n : Nat} {vL : Value} {ks : List (Value × Ch)} {l : List Od} {k : Nat} {x : Od} {P : Option Addr} {z C j : Nat}
theorem il_start (h : Rl w wr R hF hW f n vL ks l k []) (hb : Below wr.heap.size wr wv) (hi : Is wv b 85 #[.slice P z C, .int .i64 x.r, .bool true]) (hr : wv.ownsRow wr.heap.size 3 1 (.slice P z C) z (zs x.secs)) : Il w wv b R hF hW f n vL ks l k x P z C 0 :=
  ⟨⟨h.rf.below hb, h.same, h.ok, h.below.trans (hb.mono h.below.size)⟩, hi, low_row hr h.below.size, by simp, by simp⟩
theorem il_step (h : Il w wv b R hF hW f n vL ks l k x P z C j) {q : Nat} (hj : x.secs[j]? = some (q : Int)) (h1 : f ≤ q) (h2 : q < n) (hf : frO f n (allO (l.take k) ++ x.secs.take j) q = true) : Il w (wv.setCell ⟨hF, q, none⟩ (.bool false)) b R hF hW f n vL ks l k x P z C (j + 1) := by
  obtain ⟨r2, kk⟩ := h.rl.rf.putF q false
  have e : x.secs.take (j + 1) = x.secs.take j ++ [(q : Int)] := by rw [List.take_add_one, hj]; rfl
  have hq : (q : Int) ∉ allO (l.take k) ++ x.secs.take j := by
    unfold frO at hf
    simp only [Bool.and_eq_true, Bool.not_eq_true', decide_eq_false_iff_not] at hf
    exact hf.2
  rw [List.mem_append, not_or] at hq
  have hlo := h.rl.rf.lo
  refine ⟨⟨⟨r2.one, r2.fb.ext fun i _ => ?_, r2.wb, r2.ne, r2.lo, r2.row, r2.rows⟩, h.rl.same, h.rl.ok, h.rl.below.trans (kk.below h.rl.rf.lt (fun g hg => by simp at hg; omega))⟩, kk.is h.box (fun hm => h.rl.rf.fb.is (e := 85) (by decide) b hm _ h.box), row_kpe h.row kk (h.rl.rf.fb.is (by decide)), ?_, ?_⟩
  · rw [e]
    by_cases ei : i = q
    · subst ei
      simp [frO]
    · rw [if_neg ei]
      unfold frO
      rw [← List.append_assoc]
      congr 2
      rw [decide_eq_decide, List.mem_append (t := [(q : Int)])]
      have hne : ¬ ((i : Int) = (q : Int)) := by omega
      constructor
      · exact Or.inl
      · rintro (hm | hm)
        · exact hm
        · exact absurd (List.mem_singleton.1 hm) hne
  · rw [e]
    refine List.nodup_append.2 ⟨h.new.1, by simp, fun a ha c hc => ?_⟩
    simp at hc
    subst hc
    rintro rfl
    exact hq.2 ha
  · rw [e]
    intro a ha
    rcases List.mem_append.1 ha with ha | ha
    · exact h.new.2 a ha
    · simp at ha
      subst ha
      exact ⟨by omega, by omega, hq.1⟩
theorem il_fail (_h : Il w wv b R hF hW f n vL ks l k x P z C j) (hx : l[k]? = some x) {a : Int} (hj : x.secs[j]? = some a) (hbad : ¬ ((f : Int) ≤ a ∧ a < n ∧ frO f n (allO (l.take k) ++ x.secs.take j) a.toNat = true)) : ¬ loadOK f n l := fun hh => by
  have h2 := load_take (k := k + 1) hh
  rw [List.take_add_one, hx, Option.toList_some] at h2
  unfold loadOK at h2
  rw [allO_snoc] at h2
  obtain ⟨_, hnd, hrg⟩ := h2
  have ham : a ∈ x.secs := List.mem_of_getElem? hj
  obtain ⟨g1, g2⟩ := hrg a (by simp [ham])
  refine hbad ⟨g1, g2, ?_⟩
  have hsub : (allO (l.take k) ++ x.secs.take j ++ [a]).Sublist (allO (l.take k) ++ x.secs) := by
    rw [List.append_assoc]
    refine List.Sublist.append_left ?_ _
    have e : x.secs.take j ++ [a] = x.secs.take (j + 1) := by rw [List.take_add_one, hj]; rfl
    rw [e]
    exact List.take_sublist _ _
  have hn := List.nodup_append.1 (hnd.sublist hsub)
  unfold frO
  rw [show ((a.toNat : Nat) : Int) = a by omega, Bool.and_eq_true, Bool.not_eq_true', decide_eq_false_iff_not]
  exact ⟨by simp; omega, fun hm => hn.2.2 a hm a (by simp) rfl⟩
theorem il_end (h : Il w wv b R hF hW f n vL ks l k x P z C j) (hx : l[k]? = some x) (hz : x.secs.length = j) (hr : 1 ≤ x.r ∧ x.r ≤ 65535) : loadOK f n (l.take (k + 1)) := by
  have hnew := h.new
  rw [← hz, List.take_length] at hnew
  obtain ⟨k1, k2, k3⟩ := h.rl.ok
  rw [List.take_add_one, hx, Option.toList_some]
  unfold loadOK
  rw [allO_snoc]
  refine ⟨fun o ho => ?_, List.nodup_append.2 ⟨k2, hnew.1, fun a ha c hc => ?_⟩, fun a ha => ?_⟩
  · rcases List.mem_append.1 ho with ho | ho
    · exact k1 o ho
    · simp at ho; subst ho; exact hr
  · rintro rfl
    exact (hnew.2 a hc).2.2 ha
  · rcases List.mem_append.1 ha with ha | ha
    · exact k3 a ha
    · exact ⟨(hnew.2 a ha).1, (hnew.2 a ha).2.1⟩
end
set_option maxHeartbeats 4000000 in
theorem rload_c (f n : Nat) (h1 : f < n) (h2 : n ≤ 4096) {w : World} {A0 : Option Addr} {l : List Od} (cap m : Nat) (hl : Ls w w.heap.size A0 l) (hm : l.length = m) (hln : m ≤ 4096) (hrl : ∀ o ∈ l, o.rest.length ≤ 8000) :
    Calls Try.prog 14 #[.int .i64 (f : Nat), .int .i64 (n : Nat), .slice A0 m cap] w fun e w' =>
      (∃ R hF hW vL ks, e = .returned (.tuple #[.pointer (some ⟨R, 0, none⟩), .int .i64 0]) ∧ Rl w w' R hF hW f n vL ks l m []) ∨
      (¬ loadOK f n l ∧ e = .returned (.tuple #[.pointer none, .int .i64 4]) ∧ Below w.heap.size w w') := by
  have hM := may_c w (f : Nat) (n : Nat)
  rw [decide_eq_true (by omega)] at hM
  replace hM := hM.mono (R' := fun e w' => e = .returned (.bool true) ∧ w = w') (by rintro e w' ⟨rfl, rfl⟩; exact ⟨rfl, rfl⟩)
  have hN := rnew_c f n h1 h2 w
  have HL := Lib.hid hl
  have HM := Lib.hid hm
  have HQ := Lib.hid hrl
  clear hl hm hrl
  go_enter Try.func14, Try.ntmps14
  go_wp2_with (first
    | (go_at_call 9; refine hM.mono ?_; clear hM; rintro e w' ⟨rfl, rfl⟩)
    | (go_at_call 11; refine hN.mono ?_; clear hN; rintro e w1 ⟨R, hF, hW, rfl, hR, hB⟩; have HR := Lib.hid hR; have HB := Lib.hid hB; clear hR hB))
  go_loopw [9] (fun i wr => ∃ (k : Nat) (vL : Value) (ks : List (Value × Ch)), i = .int .i64 (k : Int) ∧ k ≤ m ∧ Rl w wr R hF hW f n vL ks l k []) (fun i _ => m - (RowKit.intOf i).toNat)
  case atStart =>
    refine ⟨0, .slice none 0 0, [], rfl, Nat.zero_le _, ?_, rfl, ⟨by simp, by simp [allO], by simp [allO]⟩, HB.out⟩
    have e : (fun j => decide (f ≤ j ∧ j < n)) = frO f n (allO (l.take 0) ++ []) := by funext j; simp [frO, allO]
    rw [← e]
    exact HR.out
  case round =>
    obtain ⟨k, vL, ks, rfl, hk, hrl⟩ := hrel
    have HRL := Lib.hid hrl
    by_cases hlt : k < m
    · have hxk : l[k]? = some (l[k]'(by rw [HM.out]; exact hlt)) := List.getElem?_eq_getElem _
      obtain ⟨x, ex⟩ : ∃ x, l[k]'(by rw [HM.out]; exact hlt) = x := ⟨_, rfl⟩
      rw [ex] at hxk
      have hxm := List.mem_of_getElem? hxk
      obtain ⟨hnb, ⟨hip, hir, his⟩, ad, rfl, hBq, d0, d1, d2⟩ := (HL.out.kept hrl.below) k x hxk
      have hrx := HQ.out x hxm
      have hbad : ¬ (1 ≤ x.r ∧ x.r ≤ 65535) → ¬ loadOK f n l := fun h hh => h (hh.1 x hxm)
      have HBD := Lib.hid hbad
      have HX := Lib.hid hxk
      have HNB := Lib.hid hnb
      have HIS := Lib.hid his
      clear hrl hnb hbad his hBq
      by_cases c1 : x.r < 1
      · go_wp2
        go_ret2
        exact .inr ⟨HBD.out (by omega), rfl, HRL.out.below⟩
      · by_cases c2 : 65535 < x.r
        · go_wp2
          go_ret2
          exact .inr ⟨HBD.out (by omega), rfl, HRL.out.below⟩
        · obtain ⟨w2, e2⟩ : ∃ w2, wr.alloc (.cells #[.slice none 0 0, .int .i64 x.r, .bool true] 85) = w2 := ⟨_, rfl⟩
          obtain ⟨P1, C1, V2, r1, i2, i2a, i3, b2, b2a, b3, P2, C2, V4, r2, i4, i5, b4, b5, i6, o6, b6⟩ := sec_steps (HNB.out.sl x.c) hrx e2
          have up : ∀ wx, Below wr.heap.size wr wx → wx.cell? (ad.add (k * 3)) = some (.int .i64 x.p) ∧ wx.cell? ⟨(ad.add (k * 3)).block, (ad.add (k * 3)).off + 2, none⟩ = some x.v := fun wx hb => ⟨(hb.cell (p := ad.add (k * 3)) (World.block_lt_of_cell? wr _ d0)).trans d0, (hb.cell (p := ⟨(ad.add (k * 3)).block, (ad.add (k * 3)).off + 2, none⟩) (World.block_lt_of_cell? wr _ d2)).trans d2⟩
          have S1 := And.intro (i2.cell 0) (up _ b2)
          have S2 := And.intro (i2a.cell 0) (up _ b2a)
          have S3 := And.intro (i3.cell 0) (up _ b3)
          have S4 := And.intro (i4.cell 0) (up _ b4)
          have S5 := And.intro (i5.cell 0) (up _ b5)
          have f3 := i3.frozen 0
          have f5 := i5.frozen 0
          obtain ⟨z, hz⟩ : ∃ z, x.secs.length = z := ⟨_, rfl⟩
          rw [hz] at r2 i6 o6 b6
          simp at S1 S2 S3 S4 S5
          obtain ⟨p1, p2, p3⟩ := S1
          obtain ⟨p4, p5, p6⟩ := S2
          obtain ⟨p7, p8, p9⟩ := S3
          obtain ⟨q1, q2, q3⟩ := S4
          obtain ⟨q4, q5, q6⟩ := S5
          have HI6 := Lib.hid i6
          have HO6 := Lib.hid o6
          have HB6 := Lib.hid b6
          have HZ := Lib.hid hz
          clear i2 i2a i3 b2 b2a b3 i4 i5 b4 b5 i6 o6 b6 up hz
          go_wp2
          have a1 : (w2.alloc (.cells #[.int .i64 x.p] 3)).cell? ⟨wr.heap.size, 0, none⟩ = some (.slice none 0 0) := p4
          have a2 : (w2.alloc (.cells #[.int .i64 x.p] 3)).cell? (ad.add (k * 3)) = some (.int .i64 x.p) := p5
          go_region_law
            (refine step_append_run rfl _ _ 46 rfl _ _ (by simp [Act.eval]) (by simp [Act.eval]) r1 ?_)
          all_goals
            clear a1 a2 r1 p1 p2 p3 p4 p5 p6 p7 p8 p9
            go_wp2
            go_region_law
              (refine step_append_run rfl _ _ 46 rfl _ _ (by simp [Act.eval]) (by simp [Act.eval]) r2 ?_)
          all_goals clear r2 q1 q2 q3 q4 q5 q6
          all_goals go_wp2
          all_goals
            have HRG := Lib.hid (And.intro c1 c2)
            have hz8 : z ≤ 8001 := by rw [← HZ.out]; simp [Od.secs]; omega
            go_loopw [11, 12] (fun i _ wv => ∃ j : Nat, i = .int .i64 (j : Int) ∧ j ≤ z ∧ Il w wv wr.heap.size R hF hW f n vL ks l k x P2 z C2 j) (fun i _ _ => z - (RowKit.intOf i).toNat)
            case atStart => exact ⟨0, rfl, Nat.zero_le _, il_start HRL.out HB6.out HI6.out HO6.out⟩
            case round =>
              obtain ⟨j, rfl, hjz, hil⟩ := hrel
              have HIL := Lib.hid hil
              have b0 := hil.box.cell 0
              have b1 := hil.box.cell 1
              have b2 := hil.box.cell 2
              simp at b0 b1 b2
              obtain ⟨_, _, a2, _, _⟩ := hil.rl.rf.cells
              by_cases hjlt : j < z
              · obtain ⟨a, ha⟩ : ∃ a, x.secs[j]? = some a := ⟨_, List.getElem?_eq_getElem (by rw [HZ.out]; exact hjlt)⟩
                have hrow := hil.row
                rw [← HZ.out] at hrow
                obtain ⟨q0, q1, eq, hc⟩ := own_sl hrow
                obtain ⟨qa, rfl, hca⟩ := hc j a ha
                injection eq with eq _ _
                subst eq
                have hsr : i64r a := by
                  rcases List.mem_cons.1 (List.mem_of_getElem? ha) with rfl | hm
                  · exact hip
                  · exact HIS.out _ hm
                obtain ⟨ha1, ha2⟩ := hsr
                have hfail := il_fail hil HX.out ha
                have HFL := Lib.hid hfail
                have HAJ := Lib.hid ha
                have hfin : ∀ (h : ¬ ((f : Int) ≤ a ∧ a < n ∧ frO f n (allO (l.take k) ++ x.secs.take j) a.toNat = true)), ¬ loadOK f n l ∧ Below w.heap.size w wr := fun h => ⟨hfail h, hil.rl.below⟩
                have HFN := Lib.hid hfin
                by_cases g1 : a < (f : Int)
                · have HFF := Lib.hid (hfin (by omega))
                  clear hil hc hrow hfail ha hfin
                  go_wp2
                  go_ret2
                  exact .inr ⟨HFF.out.1, rfl, HFF.out.2⟩
                · by_cases g2 : (n : Int) ≤ a
                  · have HFF := Lib.hid (hfin (by omega))
                    clear hil hc hrow hfail ha hfin
                    go_wp2
                    go_ret2
                    exact .inr ⟨HFF.out.1, rfl, HFF.out.2⟩
                  · obtain ⟨q, rfl⟩ := Int.eq_ofNat_of_zero_le (show (0 : Int) ≤ a by omega)
                    have c3 := hil.rl.rf.fb.cell q (by omega)
                    have f3 := hil.rl.rf.fb.frozen q
                    have hqn : q < n := by omega
                    have HJ := Lib.hid hjlt
                    rcases Bool.eq_false_or_eq_true (frO f n (allO (l.take k) ++ x.secs.take j) q) with hq | hq
                    · rw [hq] at c3
                      have HS := Lib.hid (il_step hil ha (by omega) hqn hq)
                      clear hil hc hrow hfail ha hfin hq
                      go_wp2
                      go_roundw
                      case rel => exact ⟨j + 1, by go_num, HJ.out, HS.out⟩
                      case measure =>
                        have := HJ.out
                        simp [RowKit.intOf]; omega
                    · rw [hq] at c3
                      have HFF := Lib.hid (hfin (fun h => by have := h.2.2; rw [show ((q : Nat) : Int).toNat = q by omega, hq] at this; cases this))
                      clear hil hc hrow hfail ha hfin hq
                      go_wp2
                      go_ret2
                      exact .inr ⟨HFF.out.1, rfl, HFF.out.2⟩
              · obtain rfl : j = z := by omega
                have hok := il_end hil HX.out HZ.out HRG.out
                have hnn : ∀ a ∈ x.secs, 0 ≤ a := fun a ha => by
                  have := (hil.new.2 a (by rw [← HZ.out, List.take_length]; exact ha)).1
                  omega
                have hch : nz x.ch.secs = x.secs := nz_toNat hnn
                have hcl : x.ch.secs.length = j := by rw [← HZ.out]; simp [Od.ch]
                have hrf : ((x.ch.refs : Nat) : Int) = x.r := by have := HRG.out.1; simp [Od.ch]; omega
                have hput := put_c hil.rl.rf hil.rl.ne (by rw [hil.rl.len (by rw [HM.out]; omega)]; omega) (x := (.slice P2 j C2, x.ch)) (by simp [Od.ch, Od.secs]) (by
                  show World.ownsRow _ 0 3 1 (.slice P2 j C2) x.ch.secs.length (zs (nz x.ch.secs))
                  rw [hcl, hch]
                  exact low_row hil.row (Nat.zero_le _))
                have hput2 : Calls Try.prog 40 #[.pointer (some ⟨R, 0, none⟩), .agg #[.slice P2 j C2, .int .i64 x.r, .bool true]] wr fun e w' => (∃ v, e = .returned v) ∧ ∃ vL' ks', Rl w w' R hF hW f n vL' ks' l (k + 1) [] := by
                  have e1 : (Value.agg #[.slice P2 j C2, .int .i64 ((x.ch.refs : Nat) : Int), .bool x.ch.sure]) = .agg #[.slice P2 j C2, .int .i64 x.r, .bool true] := by rw [hrf]; rfl
                  rw [← e1]
                  refine hput.mono ?_
                  rintro e w' ⟨hv, vL', ks', h3, h4, h5⟩
                  have hl1 : l.take (k + 1) = l.take k ++ [x] := by rw [List.take_add_one, HX.out]; rfl
                  have hlo := hil.rl.rf.lo
                  refine ⟨hv, vL', ks', ⟨?_, ?_, hok, hil.rl.below.trans (h5.below hil.rl.rf.lt (fun g hg => by simp at hg; omega))⟩⟩
                  · have e2 : allO (l.take (k + 1)) ++ [] = allO (l.take k) ++ x.secs.take j := by rw [hl1, allO_snoc, List.append_nil, ← HZ.out, List.take_length]
                    rw [e2]
                    exact h3
                  · rw [h4, hil.rl.same, hl1, loadL_snoc]
                have HPT := Lib.hid hput2
                clear hil hok hnn hch hcl hrf hput hput2
                go_wp2_with (go_at_call 40; refine HPT.out.mono ?_; clear HPT; rintro e w7 ⟨⟨v7, rfl⟩, vL', ks', h7⟩; have H7 := Lib.hid h7; clear h7)
                go_roundw
                case rel => exact ⟨k + 1, vL', ks', by go_num, by omega, H7.out⟩
                case measure => simp [RowKit.intOf]; omega
    · obtain rfl : k = m := by omega
      clear hrl
      go_wp2
      go_ret2
      exact .inl ⟨R, hF, hW, vL, ks, rfl, HRL.out⟩
end Go.Proofs.Ytnpjbddannkgfaa
