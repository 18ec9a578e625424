/- A set, a row of yes and no beside it, and an act in a box: what calls and stores leave of them (for SpansFair). Conditions: none. -/
import Derived.Test.YtfccdalhmmddlaaTd
namespace Go.Proofs.Ytfccdalhmmddlaa
open Go.ChangeShapes Go.WideShapes Go.RowKit Go.Spans
set_option maxRecDepth 100000
structure Fr (B : Nat) (W w : World) (S : Nat) (v : Value) (n : Nat) (xs : List Sp) (H : Nat) (h : Nat → Bool) : Prop where
  ow : Ow B W w S v n xs
  bs : Bs w H n h
  lH : B ≤ H
theorem St.off {w : World} {S n g : Nat} {v : Value} {xs : List Sp} {t : TypeId} {cur : Array Value} (x : St w S v n xs) (hi : Is w g t cur) (h1 : t ≠ 53) (h2 : t ≠ 63) : g ∉ S :: ob v := by
  intro hm
  rcases List.mem_cons.1 hm with e | e
  · exact hi.ne x.one h1 e
  · rcases x.row.cases with ⟨rfl, _⟩ | ⟨g', cap, cur', rfl, _, hi', _⟩
    · cases e
    · simp [ob, Value.ownBlock] at e
      exact hi.ne hi' h2 e
section
variable {B : Nat} {W w w' : World} {S n H b : Nat} {v v' : Value} {xs ys : List Sp} {h h' : Nat → Bool} {C : Array Value}
theorem Fr.later (x : Fr B W w S v n xs H h) (hb : Below w.heap.size w w') : Fr B W w' S v n xs H h := ⟨x.ow.later hb, x.bs.below hb, x.lH⟩
theorem Fr.to (x : Fr B W w S v n xs H h) (t : To w w' S v v' n ys) : Fr B W w' S v' n ys H h := by
  obtain ⟨cur, hi, r⟩ := x.bs
  exact ⟨x.ow.to t, ⟨cur, t.kp.is hi (x.ow.st.off hi (by decide) (by decide)), r⟩, x.lH⟩
theorem Fr.put (x : Fr B W w S v n xs H h) (k : Nat) (u : Bool) : Fr B W (w.setCell ⟨H, k, none⟩ (.bool u)) S v n xs H (fun j => if j = k then u else h j) := by
  obtain ⟨cur, hi, r⟩ := id x.bs
  have hk : Kp w (w.setCell ⟨H, k, none⟩ (.bool u)) [H] := (Kp.refl w [H]).put _ _ (.inl (by simp))
  have ho := x.ow.st.off hi (by decide) (by decide)
  refine ⟨⟨x.ow.st.kept hk (fun e => ho (by simp at e; simp [e])) (fun g hg e => ho (by simp at e; subst e; simp [hg])), x.ow.lS, x.ow.lv, x.ow.be.trans (hk.below x.ow.sz fun y hy => ?_), Nat.le_trans x.ow.sz hk.size⟩, x.bs.put k u, x.lH⟩
  simp at hy; subst hy; exact x.lH
theorem Fr.ext (x : Fr B W w S v n xs H h) (e : ∀ k, k < n → h k = h' k) : Fr B W w S v n xs H h' := ⟨x.ow, x.bs.ext e, x.lH⟩
/-- With the act's box. -/
structure Fx (B : Nat) (W w : World) (S : Nat) (v : Value) (n : Nat) (xs : List Sp) (H : Nat) (h : Nat → Bool) (b : Nat) (C : Array Value) : Prop where
  fr : Fr B W w S v n xs H h
  bx : Is w b 31 C
theorem Fx.later (x : Fx B W w S v n xs H h b C) (hb : Below w.heap.size w w') : Fx B W w' S v n xs H h b C := ⟨x.fr.later hb, (Kp.of_below hb []).is x.bx (by simp)⟩
theorem Fx.to (x : Fx B W w S v n xs H h b C) (t : To w w' S v v' n ys) : Fx B W w' S v' n ys H h b C := ⟨x.fr.to t, t.kp.is x.bx (x.fr.ow.st.off x.bx (by decide) (by decide))⟩
theorem Fx.put (x : Fx B W w S v n xs H h b C) (k : Nat) (u : Bool) : Fx B W (w.setCell ⟨H, k, none⟩ (.bool u)) S v n xs H (fun j => if j = k then u else h j) b C := by
  obtain ⟨cur, hi, r⟩ := id x.fr.bs
  exact ⟨x.fr.put k u, x.bx.other (x.bx.ne hi (by decide)) _⟩
theorem Fx.ext (x : Fx B W w S v n xs H h b C) (e : ∀ k, k < n → h k = h' k) : Fx B W w S v n xs H h' b C := ⟨x.fr.ext e, x.bx⟩
theorem Fx.box {t a c q : Value} (x : Fx B W w S v n xs H h b #[t, a, c, q]) : w.cell? ⟨b, 0, none⟩ = some t ∧ w.cell? ⟨b, 1, none⟩ = some a ∧ w.cell? ⟨b, 2, none⟩ = some c := by
  have e0 := x.bx.cell 0
  have e1 := x.bx.cell 1
  have e2 := x.bx.cell 2
  simp at e0 e1 e2
  exact ⟨e0, e1, e2⟩
theorem Fx.cell (x : Fx B W w S v n xs H h b C) (k : Nat) (hk : k < n) : w.cell? ⟨H, k, none⟩ = some (.bool (h k)) := x.fr.bs.cell k hk
theorem Fx.frozen (x : Fx B W w S v n xs H h b C) (k : Nat) : w.frozen? ⟨H, k, none⟩ = false := by
  obtain ⟨cur, hi, _⟩ := x.fr.bs
  exact hi.frozen k
theorem Fx.drew (x : Fx B W w S v n xs H h b C) : Fx B W w.drew S v n xs H h b C := x.later (below_drew (Below.refl _ w))
theorem Fx.drewN (x : Fx B W w S v n xs H h b C) (k : Nat) : Fx B W (w.drewN k) S v n xs H h b C := x.later ⟨rfl, rfl, rfl, Nat.le_refl _, fun _ _ => rfl⟩
theorem Fx.told (x : Fx B W w S v n xs H (hasB xs) b C) : Calls Try.prog 21 #[.pointer (some ⟨S, 0, none⟩), .slice (some ⟨H, 0, none⟩) n n] w fun e w' => e = .returned (.bool true) ∧ Fr B W w' S v n xs H (hasB xs) :=
  (told_c x.fr.ow.st x.fr.bs).mono fun _ _ ⟨he, hb⟩ => ⟨he, x.fr.later hb⟩
theorem Fx.copy (x : Fx B W w S v n xs H h b C) : Calls Try.prog 20 #[.pointer (some ⟨S, 0, none⟩)] w fun e w1 => ∃ S', e = .returned (.pointer (some ⟨S', 0, none⟩)) ∧
    Calls Try.prog 19 #[.pointer (some ⟨S', 0, none⟩), .int .i64 1] w1 fun e w2 => (∃ r E, e = .returned (.tuple #[r, .int .i64 E])) ∧
    Calls Try.prog 17 #[.pointer (some ⟨S', 0, none⟩), .int .i64 0] w2 fun e w3 => (∃ E, e = .returned (.int .i64 E)) ∧ Fx B W w3 S v n xs H h b C := by
  refine (copy_c x.fr.ow.st).mono ?_
  rintro e w1 ⟨S', v', rfl, hst, hS, hv, hb1⟩
  refine ⟨S', rfl, (take_c hst 1).mono ?_⟩
  rintro e w2 ⟨r, v2, rfl, t2, _⟩
  refine ⟨⟨r, _, rfl⟩, (give_c t2.st 0 (by omega) (by omega)).mono ?_⟩
  rintro e w3 ⟨rfl, v3, t3⟩
  have h1 := hb1.size
  have h2 := t2.kp.size
  refine ⟨⟨_, rfl⟩, x.later ((hb1.trans (t2.kp.below h1 fun y hy => ?_)).trans (t3.kp.below (by omega) fun y hy => ?_))⟩
  · rcases List.mem_cons.1 hy with rfl | hy
    · exact hS
    · exact hv _ hy
  · rcases List.mem_cons.1 hy with rfl | hy
    · exact hS
    · rcases t2.lies _ hy with e | e
      · exact hv _ e
      · omega
end
section
variable {n : Nat} {xs : List Sp}
theorem give_sp (ok : Ok n xs) (a : Int) : (fillE n xs a (a + 1) = 0 ∧ ∃ p : Nat, a = p ∧ p < n ∧ ∀ k, hasB (fillX n xs a (a + 1)) k = if k = p then true else hasB xs k) ∨
    (fillE n xs a (a + 1) ≠ 0 ∧ ∀ k, hasB (fillX n xs a (a + 1)) k = hasB xs k) := by
  obtain ⟨f1, _, f3⟩ := give_eq ok a
  by_cases hbad : a < 0 ∨ a ≥ n
  · refine .inr ⟨?_, fun k => ?_⟩
    · rw [f1, rgiveE, if_pos hbad]; omega
    · rw [f3, rgiveX, decide_eq_false (p := 0 ≤ a ∧ a < n) (by omega)]; simp
  · obtain ⟨p, rfl⟩ := Int.eq_ofNat_of_zero_le (a := a) (by omega)
    rw [f1, rgiveE, if_neg hbad, Int.toNat_natCast]
    cases hp : hasB xs p with
    | true =>
      refine .inr ⟨by simp, fun k => ?_⟩
      rw [f3, rgiveX, Int.toNat_natCast]
      by_cases e : k = p
      · subst e; rw [hp]; rfl
      · simp [e]
    | false =>
      refine .inl ⟨by simp, p, rfl, by omega, fun k => ?_⟩
      rw [f3, rgiveX, Int.toNat_natCast, decide_eq_true (p := 0 ≤ (p : Int) ∧ (p : Int) < n) (by omega)]
      by_cases e : k = p
      · simp [e]
      · simp [e]
theorem fill_sp (ok : Ok n xs) (f t : Int) : (fillE n xs f t = 0 ∧ ∃ p q : Nat, f = p ∧ t = q ∧ p ≤ q ∧ q ≤ n ∧ ∀ k, hasB (fillX n xs f t) k = (hasB xs k || decide (p ≤ k ∧ k < q))) ∨
    (fillE n xs f t ≠ 0 ∧ ∀ k, hasB (fillX n xs f t) k = hasB xs k) := by
  obtain ⟨f1, _, f3⟩ := fill_eq ok f t
  by_cases hbad : f < 0 ∨ f > t ∨ t > n
  · refine .inr ⟨?_, fun k => ?_⟩
    · rw [f1, rfillE, if_pos hbad]; omega
    · rw [f3, rfillX, if_pos (.inl hbad)]
  · obtain ⟨p, rfl⟩ := Int.eq_ofNat_of_zero_le (a := f) (by omega)
    obtain ⟨q, rfl⟩ := Int.eq_ofNat_of_zero_le (a := t) (by omega)
    rw [f1, rfillE, if_neg hbad, Int.toNat_natCast, Int.toNat_natCast]
    cases hp : rbusy (hasB xs) p q with
    | true =>
      refine .inr ⟨by simp, fun k => ?_⟩
      rw [f3, rfillX, if_pos (.inr (by simpa using hp))]
    | false =>
      refine .inl ⟨by simp, p, q, rfl, rfl, by omega, by omega, fun k => ?_⟩
      rw [f3, rfillX, if_neg (by simp [hp]; omega)]
      simp
theorem take_sp (ok : Ok n xs) (k : Int) : (takeE xs k ≠ 0 ∧ ∀ j, hasB (takeX xs k) j = hasB xs j) ∨
    (takeE xs k = 0 ∧ ∃ m, (takeL xs k).length = m + 1 ∧ (∀ i, i ≤ m → (takeL xs k).getD i 0 < n ∧ hasB xs ((takeL xs k).getD i 0) = true) ∧ (∀ i j, i < j → j ≤ m → (takeL xs k).getD i 0 < (takeL xs k).getD j 0) ∧
      (∀ q, q < (takeL xs k).getD m 0 → hasB (takeX xs k) q = false) ∧ ∀ j, hasB (takeX xs k) j = (hasB xs j && !decide (j ∈ takeL xs k))) := by
  by_cases hb : k < 1 ∨ (cnt xs : Int) < k
  · refine .inl ⟨?_, fun j => by rw [takeX, if_pos hb]⟩
    unfold takeE
    split
    · omega
    · rw [if_pos (by omega)]; omega
  · have h1 : 1 ≤ k.toNat := by omega
    have h2 : k.toNat ≤ cnt xs := by omega
    have hlen : (elems xs).length = cnt xs := elems_len xs
    have hget : ∀ i, i < k.toNat → ∃ hi : i < (elems xs).length, ((elems xs).take k.toNat).getD i 0 = (elems xs)[i] := fun i hi => by
      refine ⟨by omega, ?_⟩
      rw [List.getD_eq_getElem?_getD, List.getElem?_take, if_pos hi, List.getElem?_eq_getElem (by omega), Option.getD_some]
    have hp := List.pairwise_iff_getElem.1 (elems_lt ok)
    refine .inr ⟨by unfold takeE; rw [if_neg (by omega), if_neg (by omega)], k.toNat - 1, ?_⟩
    simp only [takeL, takeX, if_neg hb]
    refine ⟨by rw [List.length_take]; omega, fun i hi => ?_, fun i j hij hj => ?_, fun q hq => ?_, fun j => ?_⟩
    · obtain ⟨hi', e⟩ := hget i (by omega)
      rw [e]
      have hm := (mem_elems ok).1 (List.getElem_mem hi')
      exact ⟨hasB_lt ok hm, hm⟩
    · obtain ⟨hi', e⟩ := hget i (by omega)
      obtain ⟨hj', e'⟩ := hget j (by omega)
      rw [e, e']
      exact hp i j hi' hj' hij
    · obtain ⟨hi', e⟩ := hget (k.toNat - 1) (by omega)
      rw [e] at hq
      rw [drop_has, List.getD_eq_getElem?_getD, List.getElem?_eq_getElem hi', Option.getD_some, decide_eq_false (by omega), Bool.and_false]
    · rw [List.getD_eq_getElem?_getD, List.getElem?_eq_getElem (by omega), Option.getD_some]
      exact take_has ok h1 h2 j
end
end Go.Proofs.Ytfccdalhmmddlaa
