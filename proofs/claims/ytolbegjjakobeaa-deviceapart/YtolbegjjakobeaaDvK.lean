/- full, some, left, works. Conditions: none. -/
import Derived.Test.YtolbegjjakobeaaDvJ
namespace Go.Proofs.Ytolbegjjakobeaa
open Go.ChangeShapes Go.WideShapes Go.RowKit Go.Maps
set_option maxRecDepth 100000
theorem repeatL_one (x : UInt8) (n : Nat) : Lib.repeatL [x] n = List.replicate n x := by
  induction n with
  | zero => rfl
  | succ n ih => simp [Lib.repeatL, List.replicate_succ] at ih ⊢; try exact ih
theorem bs_app (l m : List UInt8) : bs l ++ bs m = bs (l ++ m) := by
  apply ByteArray.ext
  simp [bs]
theorem bs_data (s : ByteArray) : bs s.data.toList = s := by
  apply ByteArray.ext
  simp [bs]
theorem full_any (s : ByteArray) (hs : s.size ≤ 128) (w : World) : Calls Try.prog 21 #[.string s] w fun e w' => e = .returned (.string (bs (full s.data.toList))) ∧ Below w.heap.size w w' := by
  obtain ⟨c, hc⟩ : ∃ c : Nat, 128 - (s.size : Int) = (c : Int) := ⟨128 - s.size, by omega⟩
  have hr := Try.strings_Repeat ⟨#[0]⟩ c w (by omega) (by show 1 * c ≤ _; omega)
  have hno : ¬ 9223372036854775807 < s.size + (Lib.repeatL [0] c).length := by rw [repeatL_one, List.length_replicate]; omega
  go_enter Try.func21, Try.ntmps21
  go_wp2_with (go_at_call 25; refine hr.mono ?_; rintro e w' ⟨rfl, hb⟩)
  go_ret
  refine ⟨?_, hb⟩
  have e1 : c = 128 - s.data.toList.length := by rw [← Lib.size_eq]; omega
  have e2 : (⟨(Lib.repeatL [0] c).toArray⟩ : ByteArray) = bs (List.replicate c 0) := by rw [repeatL_one]; rfl
  have e3 : s ++ (⟨(Lib.repeatL [0] c).toArray⟩ : ByteArray) = bs (full s.data.toList) := by
    rw [e2, full, ← bs_app, bs_data, ← e1]
  exact congrArg (fun x => Ending.returned (.string x)) e3
/-- The chapter's device, with ab at 3. -/
def st3 : List Cel := (fresh 512).set 3 ⟨nought, some (full [97, 98])⟩
theorem st3_order : order st3 = [3] := by kernel_rfl
theorem crash_get (st : List Cel) (xs : List Int) {p : Nat} {c : Cel} (hc : st[p]? = some c) :
    ∃ c', (crash st xs)[p]? = some c' ∧ c'.t = none ∧ ((c.t = none ∧ c' = c) ∨ ∃ j t, c.t = some t ∧ c'.s = tornL c.s t (kp xs j)) := by
  cases ht : c.t with
  | none =>
    refine ⟨c, ?_, ht, .inl ⟨rfl, rfl⟩⟩
    unfold crash
    rw [crN_other st xs p _ (fun j _ e => ?_)]
    · exact hc
    · obtain ⟨c', t, h1, h2⟩ := order_mem.1 (List.mem_of_getElem? e)
      rw [hc] at h1
      injection h1 with h1
      rw [← h1, ht] at h2
      cases h2
  | some t =>
    obtain ⟨j, hj⟩ := List.getElem?_of_mem (order_mem.2 ⟨c, t, hc, ht⟩)
    refine ⟨_, crN_done xs hj hc _ (List.getElem?_eq_some_iff.1 hj).1, rfl, .inr ⟨j, t, rfl, ?_⟩⟩
    simp [Cel.torn, Cel.r, ht]
theorem crash_len (st : List Cel) (xs : List Int) : (crash st xs).length = st.length := crN_len _ _ _
theorem crash_t (st : List Cel) (xs : List Int) {p : Nat} {c : Cel} (hc : (crash st xs)[p]? = some c) : c.t = none := by
  have hlt := (List.getElem?_eq_some_iff.1 hc).1
  rw [crash_len] at hlt
  obtain ⟨c', h1, h2, _⟩ := crash_get st xs (List.getElem?_eq_getElem hlt)
  rw [hc] at h1
  injection h1 with h1
  rw [h1]
  exact h2
theorem waits_none {st : List Cel} (h : ∀ (p : Nat) (c : Cel), st[p]? = some c → c.t = none) : waitsN st = 0 := by
  unfold waitsN
  rw [List.countP_eq_zero]
  intro c hc
  obtain ⟨p, hp⟩ := List.getElem?_of_mem hc
  rw [h p c hp]
  simp
theorem crash_waits (st : List Cel) (xs : List Int) : waitsN (crash st xs) = 0 := waits_none (fun _ _ h => crash_t st xs h)
theorem full_lit (l : List UInt8) (hl : l.length ≤ 128) (w : World) : Calls Try.prog 21 #[.string (bs l)] w fun e w' => e = .returned (.string (bs (full l))) ∧ Below w.heap.size w w' :=
  full_any (bs l) (by show l.toArray.size ≤ 128; simpa using hl) w
theorem fresh_get {n i : Nat} (h : i < n) : (fresh n)[i]? = some ⟨nought, none⟩ := by unfold fresh; rw [List.getElem?_replicate, if_pos h]
theorem fresh_len (n : Nat) : (fresh n).length = n := by simp [fresh]
/-- A device of the call's own. -/
structure Own (w w' : World) (B bs bw : Nat) (st : List Cel) : Prop where
  dev : Dv w' B bs bw st
  below : Below w.heap.size w w'
  new : w.heap.size ≤ B ∧ w.heap.size ≤ bs ∧ w.heap.size ≤ bw
theorem Own.later {w w1 w2 : World} {B bs bw : Nat} {st : List Cel} (h : Own w w1 B bs bw st) (hb : Below w1.heap.size w1 w2) : Own w w2 B bs bw st :=
  ⟨h.dev.below hb, h.below.trans (hb.mono h.below.size), h.new⟩
theorem Own.step {w w1 w2 : World} {B bs bw : Nat} {st st' : List Cel} {X : List Nat} (h : Own w w1 B bs bw st) (hd : Dv w2 B bs bw st') (hk : Kp w1 w2 X) (hX : ∀ x ∈ X, x = bs ∨ x = bw) : Own w w2 B bs bw st' :=
  ⟨hd, h.below.trans (hk.below h.below.size (fun x hx => by rcases hX x hx with rfl | rfl; exact h.new.2.1; exact h.new.2.2)), h.new⟩
theorem new512 (w : World) : Calls Try.prog 7 #[.int .i64 512] w fun e w' => ∃ B bs bw, e = .returned (.pointer (some ⟨B, 0, none⟩)) ∧ Own w w' B bs bw (fresh 512) := by
  refine (new_any 512 w).mono ?_
  rintro e w' ⟨v, rfl, h⟩
  cases h with
  | none h hw => omega
  | some m B bs bw hn h0 h1 hd hB hb =>
    obtain rfl : m = 512 := by omega
    exact ⟨B, bs, bw, rfl, hd, hb, hB⟩
theorem some_any (w : World) : Calls Try.prog 23 #[] w fun e w' => ∃ B bs bw, e = .returned (.pointer (some ⟨B, 0, none⟩)) ∧ Own w w' B bs bw st3 := by
  have hn := new512 w
  go_enter Try.func23, Try.ntmps23
  go_wp2_with (first
    | (go_at_call 7; refine hn.mono ?_; rintro e w1 ⟨B, bs, bw, rfl, ho⟩)
    | (go_at_call 20; refine (write_in ho.dev (i := 3) (fresh_get (by decide)) ⟨#[97, 98]⟩ (by decide)).mono ?_; rintro e w2 ⟨rfl, hd, hk⟩))
  go_ret
  exact ⟨B, bs, bw, rfl, ho.step hd hk (fun x hx => .inr (by simpa using hx))⟩
theorem st3_get : st3[3]? = some ⟨nought, some (full [97, 98])⟩ := List.getElem?_set_self (by rw [fresh_len]; decide)
/-- What a crash of it leaves at 3. -/
def lf (xs : List Int) : List UInt8 := tornL nought (full [97, 98]) (kp xs 0)
theorem crash3 (xs : List Int) : (crash st3 xs)[3]? = some ⟨lf xs, none⟩ :=
  crN_done xs (j := 0) (by rw [st3_order]; rfl) st3_get _ (by rw [st3_order]; decide)
theorem read_r {w : World} {B bs bw : Nat} {st : List Cel} (h : Dv w B bs bw st) (i : Nat) {c : Cel} (hc : st[i]? = some c) (x : List UInt8) (hx : c.r = x) : Calls Try.prog 17 #[.pointer (some ⟨B, 0, none⟩), .int .i64 (i : Int)] w fun e w' => e = .returned (.tuple #[.string (Ytolbegjjakobeaa.bs x), .int .i64 0]) ∧ Below w.heap.size w w' := by
  subst hx
  exact read_in h hc
theorem sure_r {w : World} {B bs bw : Nat} {st : List Cel} (h : Dv w B bs bw st) (i : Nat) {c : Cel} (hc : st[i]? = some c) (x : List UInt8) (hx : c.s = x) : Calls Try.prog 18 #[.pointer (some ⟨B, 0, none⟩), .int .i64 (i : Int)] w fun e w' => e = .returned (.string (Ytolbegjjakobeaa.bs x)) ∧ Below w.heap.size w w' := by
  subst hx
  exact sure_in h hc
theorem left_any {w : World} {v : Value} {xs : List Int} (hv : Sl w v xs) : Calls Try.prog 24 #[v] w fun e w' => e = .returned (.string (bs (lf xs))) ∧ Below w.heap.size w w' := by
  have hs := some_any w
  have hx := fun (w1 : World) (B b c : Nat) (ho : Own w w1 B b c st3) => (hv.kept (Kp.of_below ho.below []) (fun g hg => by simp at hg))
  have HX := Lib.hid hx
  clear hx hv
  have h0 := crash_waits st3 xs
  go_enter Try.func24, Try.ntmps24
  go_wp2_with (first
    | (go_at_call 23; refine hs.mono ?_; rintro e w1 ⟨B, b, c, rfl, ho⟩)
    | (go_at_call 16; refine (crash_yes ho.dev (HX.out w1 B b c ho)).mono ?_; rintro e w2 ⟨rfl, hd, hk⟩; (have ho2 := ho.step hd hk (fun x hx => by simpa using hx)); clear hd hk)
    | (go_at_call 17; refine (read_r ho2.dev 3 (crash3 xs) (lf xs) rfl).mono ?_; rintro e w3 ⟨rfl, hb3⟩; (have ho3 := ho2.later hb3))
    | (go_at_call 19; refine (waiting_yes ho3.dev).mono ?_; (rw [h0]); rintro e w4 ⟨rfl, rfl⟩)
    | (go_at_call 18; refine (sure_r ho3.dev 3 (crash3 xs) (lf xs) rfl).mono ?_; rintro e w4 ⟨rfl, hb4⟩; (have ho4 := ho3.later hb4)))
  go_ret
  exact ⟨rfl, ho4.below⟩
/-- A slice that is written out. -/
theorem sl_lit (xs : List Int) (w : World) : Sl (w.alloc (.cells (xs.map (Value.int .i64)).toArray 3)) (.slice (some ⟨w.heap.size, 0, none⟩) xs.length xs.length) xs := by
  refine ⟨_, _, rfl, fun j x hj => ⟨_, rfl, ?_⟩⟩
  have hadd : (⟨w.heap.size, 0, none⟩ : Addr).add j = ⟨w.heap.size, j, none⟩ := by unfold Addr.add; split <;> simp_all
  rw [hadd, (Is.new w 3 _).cell j]
  simp [hj]
theorem sl_nil (w : World) : Sl w (.slice none 0 0) [] := ⟨none, 0, rfl, fun j x hj => by simp at hj⟩
/-- left of numbers that are written out. -/
theorem left_lit (xs : List Int) (l : List UInt8) (hl : lf xs = l) (w : World) : Calls Try.prog 24 #[.slice (some ⟨w.heap.size, 0, none⟩) xs.length xs.length] (w.alloc (.cells (xs.map (Value.int .i64)).toArray 3))
    fun e w' => e = .returned (.string (bs l)) ∧ Below w.heap.size w w' := by
  subst hl
  refine (left_any (sl_lit xs w)).mono ?_
  rintro e w' ⟨rfl, hb⟩
  exact ⟨rfl, (below_alloc (Below.refl w.heap.size w) _).trans (hb.mono (by simp))⟩
theorem left_nil (w : World) : Calls Try.prog 24 #[.slice none 0 0] w fun e w' => e = .returned (.string (bs (full []))) ∧ Below w.heap.size w w' := by
  have : lf [] = full [] := by kernel_rfl
  rw [← this]
  exact left_any (sl_nil w)
theorem works_any (w : World) : Calls Try.prog 10 #[] w fun e w' => e = .returned (.bool true) ∧ Below w.heap.size w w' := by
  have hs := some_any w
  have hw3 : waitsN st3 = 1 := by kernel_rfl
  go_enter Try.func10, Try.ntmps10
  go_wp2_with (first
    | (go_at_call 23; refine hs.mono ?_; rintro e w1 ⟨B, b, c, rfl, ho⟩)
    | (go_at_call 17; refine (read_r ho.dev 3 st3_get (full [97, 98]) rfl).mono ?_; rintro e w2 ⟨rfl, hb⟩; (replace ho := ho.later hb); clear hb)
    | (go_at_call_of 21 (Value.string { data := #[97, 98] }); refine (full_lit [97, 98] (by decide) _).mono ?_; rintro e w2 ⟨rfl, hb⟩; (replace ho := ho.later hb); clear hb)
    | (go_at_call_of 21 (Value.string { data := #[] }); refine (full_lit [] (by decide) _).mono ?_; rintro e w2 ⟨rfl, hb⟩; (replace ho := ho.later hb); clear hb)
    | (go_at_call_of 21 (Value.string { data := #[97] }); refine (full_lit [97] (by decide) _).mono ?_; rintro e w2 ⟨rfl, hb⟩; (replace ho := ho.later hb); clear hb)
    | (go_at_call 18; refine (sure_r ho.dev 3 st3_get (full []) (by kernel_rfl)).mono ?_; rintro e w2 ⟨rfl, hb⟩; (replace ho := ho.later hb); clear hb)
    | (go_at_call 19; refine (waiting_yes ho.dev).mono ?_; (rw [hw3]); rintro e w4 ⟨rfl, rfl⟩)
    | (go_at_call_of 24 (Value.slice none 0 0); refine (left_nil _).mono ?_; rintro e w2 ⟨rfl, hb⟩; (replace ho := ho.later hb); clear hb)
    | (go_at_call 24; refine (left_lit [1] (full [97]) (by kernel_rfl) _).mono ?_; rintro e w2 ⟨rfl, hb⟩; (replace ho := ho.later hb); clear hb))
  go_ret
  exact ⟨rfl, ho.below⟩
end Go.Proofs.Ytolbegjjakobeaa
