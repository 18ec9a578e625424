/- Acts that come in; few; what acts do to what stands on a device, plainly. Conditions: none. -/
import Derived.Test.YtkefopakfjdfkaaFsD
namespace Go.Proofs.Ytkefopakfjdfkaa
open Go.ChangeShapes Go.WideShapes Go.RowKit Go.Maps
set_option maxRecDepth 100000
structure Ac where
  what : Nat
  at' : Int
  s : ByteArray
def Ac.cells (x : Ac) : Array Value := #[.int .u8 (x.what : Nat), .int .i64 x.at', .string x.s]
/-- The acts lie from A on, below block B. -/
def Acts (w : World) (B : Nat) (A : Option Addr) (l : List Ac) : Prop := ∀ i x, l[i]? = some x →
  ∃ ad, A = some ad ∧ (ad.add (i * 3)).block < B ∧ w.cell? (ad.add (i * 3)) = some (.int .u8 (x.what : Nat)) ∧ w.cell? ⟨(ad.add (i * 3)).block, (ad.add (i * 3)).off + 1, none⟩ = some (.int .i64 x.at') ∧
    w.cell? ⟨(ad.add (i * 3)).block, (ad.add (i * 3)).off + 2, none⟩ = some (.string x.s)
theorem Acts.kept {w w' : World} {B : Nat} {A : Option Addr} {l : List Ac} (h : Acts w B A l) (hb : Below B w w') : Acts w' B A l := by
  intro i x hx
  obtain ⟨ad, e, hB, c0, c1, c2⟩ := h i x hx
  exact ⟨ad, e, hB, (hb.cell (p := ad.add (i * 3)) hB).trans c0, (hb.cell (p := ⟨(ad.add (i * 3)).block, (ad.add (i * 3)).off + 1, none⟩) hB).trans c1, (hb.cell (p := ⟨(ad.add (i * 3)).block, (ad.add (i * 3)).off + 2, none⟩) hB).trans c2⟩
theorem acts_at {W : World} {A : Option Addr} {l : List Ac} (h : Acts W W.heap.size A l) {k : Nat} {x : Ac} (hx : l[k]? = some x) : ∃ ad, A = some ad ∧ ∀ w, Below W.heap.size W w →
    w.cell? (ad.add (k * 3)) = some (.int .u8 (x.what : Nat)) ∧ w.cell? ⟨(ad.add (k * 3)).block, (ad.add (k * 3)).off + 1, none⟩ = some (.int .i64 x.at') ∧
    w.cell? ⟨(ad.add (k * 3)).block, (ad.add (k * 3)).off + 2, none⟩ = some (.string x.s) := by
  obtain ⟨ad, e, _⟩ := h k x hx
  refine ⟨ad, e, fun w hb => ?_⟩
  obtain ⟨ad', e', _, c0, c1, c2⟩ := h.kept hb k x hx
  rw [e] at e'
  injection e' with e'
  subst e'
  exact ⟨c0, c1, c2⟩
def Few (l : List Ac) : Prop := l.length ≤ 80
def FewPost (l : List Ac) (w : World) (e : Ending) (w' : World) : Prop := ∃ b : Bool, e = .returned (.bool b) ∧ w = w' ∧ (b = true → Few l)
set_option maxHeartbeats 1000000 in
theorem few_any (A : Option Addr) (l : List Ac) (cap : Nat) (hl : l.length ≤ maxLen) (w : World) (B : Nat) (h : Acts w B A l) : Calls Try.prog 6 #[.slice A l.length cap] w (FewPost l w) := by
  unfold maxLen at hl
  have HI := Lib.hid h; clear h
  obtain ⟨n, hn⟩ : ∃ n, n = l.length := ⟨_, rfl⟩
  rw [← hn] at hl
  rw [← hn]
  have HN := Lib.hid hn; clear hn
  go_enter Try.func6, Try.ntmps6
  go_wp2
  go_loop [3] (fun i => ∃ k : Nat, k ≤ n ∧ k ≤ 90 ∧ i = .int .i64 k) (fun i => 91 - (RowKit.intOf i).toNat)
  case atStart => exact ⟨0, by omega, by omega, rfl⟩
  case round =>
    obtain ⟨k, hk, hk9, rfl⟩ := hrel
    by_cases hlt : k < n ∧ k < 90
    · obtain ⟨hkn, hk90⟩ := hlt
      obtain ⟨x, hx⟩ : ∃ x, l[k]? = some x := ⟨_, List.getElem?_eq_getElem (by rw [← HN.out]; exact hkn)⟩
      obtain ⟨ad, rfl, hB, c0, c1, c2⟩ := HI.out k x hx
      have HX := Lib.hid hx; clear hx
      go_wp2
      all_goals first
        | (go_ret; exact ⟨false, rfl, rfl, fun h => by cases h⟩)
        | exact ⟨⟨k + 1, by omega, by omega, by go_num⟩, by simp [RowKit.intOf]; omega⟩
    · have hfin : ∀ b : Bool, b = decide ((n : Int) ≤ 80) → b = true → Few l := by
        intro b hb hbt
        rw [hb, decide_eq_true_eq] at hbt
        have hn := HN.out
        unfold Few
        omega
      have HFin := Lib.hid hfin; clear hfin
      by_cases hkn : k < n
      all_goals
        go_wp2
        go_ret
        exact ⟨_, rfl, rfl, HFin.out _ rfl⟩
/-- What an act does. -/
def doA (st : List Cel) (x : Ac) : List Cel := if x.what % 4 = 0 then stW st x.at' x.s else bar st
theorem bar_len (st : List Cel) : (bar st).length = st.length := by simp [bar]
/-- How many of the first i are acts. -/
def seen (l : List Ac) : Nat → Nat
  | 0 => 0
  | i + 1 => match l[i]? with
    | some x => if x.what % 4 ≤ 1 then seen l i + 1 else seen l i
    | none => seen l i
theorem seen_yes {l : List Ac} {i : Nat} {x : Ac} (hx : l[i]? = some x) (h : x.what % 4 ≤ 1) : seen l (i + 1) = seen l i + 1 := by
  show (match l[i]? with | some x => _ | none => _) = _
  rw [hx]
  exact if_pos h
theorem seen_no {l : List Ac} {i : Nat} {x : Ac} (hx : l[i]? = some x) (h : ¬ x.what % 4 ≤ 1) : seen l (i + 1) = seen l i := by
  show (match l[i]? with | some x => _ | none => _) = _
  rw [hx]
  exact if_neg h
theorem seen_le (l : List Ac) : ∀ i, seen l i ≤ i
  | 0 => Nat.le_refl _
  | i + 1 => by
    have := seen_le l i
    show (match l[i]? with | some x => _ | none => _) ≤ _
    cases l[i]? with
    | none => exact Nat.le_succ_of_le this
    | some x => show (if x.what % 4 ≤ 1 then seen l i + 1 else seen l i) ≤ i + 1; split <;> omega
/-- What stands on the device when the acts among the first i are done. -/
def dvA (st : List Cel) (l : List Ac) : Nat → List Cel
  | 0 => st
  | i + 1 => match l[i]? with
    | some x => if x.what % 4 ≤ 1 then doA (dvA st l i) x else dvA st l i
    | none => dvA st l i
theorem dvA_yes (st : List Cel) {l : List Ac} {i : Nat} {x : Ac} (hx : l[i]? = some x) (h : x.what % 4 ≤ 1) : dvA st l (i + 1) = doA (dvA st l i) x := by
  show (match l[i]? with | some x => _ | none => _) = _
  rw [hx]
  exact if_pos h
theorem dvA_no (st : List Cel) {l : List Ac} {i : Nat} {x : Ac} (hx : l[i]? = some x) (h : ¬ x.what % 4 ≤ 1) : dvA st l (i + 1) = dvA st l i := by
  show (match l[i]? with | some x => _ | none => _) = _
  rw [hx]
  exact if_neg h
theorem seen_mono (l : List Ac) (i : Nat) : seen l i ≤ seen l (i + 1) := by
  show _ ≤ (match l[i]? with | some x => _ | none => _)
  cases l[i]? with
  | none => exact Nat.le_refl _
  | some x => show _ ≤ (if x.what % 4 ≤ 1 then seen l i + 1 else seen l i); split <;> omega
theorem seen_mono' (l : List Ac) (i : Nat) : ∀ d, seen l i ≤ seen l (i + d)
  | 0 => Nat.le_refl _
  | d + 1 => Nat.le_trans (seen_mono' l i d) (seen_mono l (i + d))
theorem dvA_same_le (st : List Cel) (l : List Ac) (i : Nat) : ∀ d, seen l i = seen l (i + d) → dvA st l i = dvA st l (i + d)
  | 0, _ => rfl
  | d + 1, h => by
    have h1 := seen_mono' l i d
    have h2 := seen_mono l (i + d)
    have e : seen l i = seen l (i + d) := by have : seen l (i + (d + 1)) = seen l (i + d + 1) := rfl; omega
    rw [dvA_same_le st l i d e]
    show _ = dvA st l (i + d + 1)
    have e2 : seen l (i + d + 1) = seen l (i + d) := by have : seen l (i + (d + 1)) = seen l (i + d + 1) := rfl; omega
    cases hx : l[i + d]? with
    | none => show _ = (match l[i + d]? with | some x => _ | none => _); rw [hx]
    | some x =>
      by_cases hw : x.what % 4 ≤ 1
      · rw [seen_yes hx hw] at e2; omega
      · rw [dvA_no st hx hw]
theorem dvA_same (st : List Cel) (l : List Ac) {i j : Nat} (h : seen l i = seen l j) : dvA st l i = dvA st l j := by
  by_cases hij : i ≤ j
  · obtain ⟨d, rfl⟩ := Nat.exists_eq_add_of_le hij
    exact dvA_same_le st l i d h
  · obtain ⟨d, rfl⟩ := Nat.exists_eq_add_of_le (show j ≤ i by omega)
    exact (dvA_same_le st l j d h.symm).symm
/-- What an act does to a line: what stands on its device, how many acts, is it cut. -/
def lsN (xs : List Int) (z : Int) (x : Ac) (s : List Cel × Nat × Bool) : List Cel × Nat × Bool :=
  if x.what % 4 ≤ 1 ∧ s.2.2 = false then (aft s.1 (doA s.1 x) xs z s.2.1, s.2.1 + 1, decide ((s.2.1 : Int) = z)) else s
/-- A line, when the first i were asked of it. -/
def lst (st : List Cel) (xs : List Int) (z : Int) (l : List Ac) : Nat → List Cel × Nat × Bool
  | 0 => (st, 0, false)
  | i + 1 => match l[i]? with
    | some x => lsN xs z x (lst st xs z l i)
    | none => lst st xs z l i
theorem lst_succ (st : List Cel) (xs : List Int) (z : Int) {l : List Ac} {i : Nat} {x : Ac} (hx : l[i]? = some x) : lst st xs z l (i + 1) = lsN xs z x (lst st xs z l i) := by
  show (match l[i]? with | some x => _ | none => _) = _
  rw [hx]
theorem lst_none (st : List Cel) (xs : List Int) (z : Int) {l : List Ac} {i : Nat} (hx : l[i]? = none) : lst st xs z l (i + 1) = lst st xs z l i := by
  show (match l[i]? with | some x => _ | none => _) = _
  rw [hx]
/-- Ahead of the fuse. -/
theorem lst_go (st : List Cel) (xs : List Int) (z : Int) (l : List Ac) : ∀ i, (∀ k : Nat, k < seen l i → (k : Int) ≠ z) → lst st xs z l i = (dvA st l i, seen l i, false)
  | 0, _ => rfl
  | i + 1, h => by
    have ih := lst_go st xs z l i (fun k hk => h k (Nat.lt_of_lt_of_le hk (seen_mono l i)))
    cases hx : l[i]? with
    | none =>
      rw [lst_none st xs z hx, ih]
      have e1 : dvA st l (i + 1) = dvA st l i := by show (match l[i]? with | some x => _ | none => _) = _; rw [hx]
      have e2 : seen l (i + 1) = seen l i := by show (match l[i]? with | some x => _ | none => _) = _; rw [hx]
      rw [e1, e2]
    | some x =>
      rw [lst_succ st xs z hx, ih]
      unfold lsN
      by_cases hw : x.what % 4 ≤ 1
      · have hne : ((seen l i : Nat) : Int) ≠ z := h _ (by rw [seen_yes hx hw]; omega)
        rw [if_pos ⟨hw, rfl⟩, seen_yes hx hw, dvA_yes st hx hw]
        show (aft _ _ _ _ _, _, _) = _
        rw [show aft (dvA st l i) (doA (dvA st l i) x) xs z (seen l i) = doA (dvA st l i) x from if_neg hne, decide_eq_false hne]
      · rw [if_neg (fun h => hw h.1), seen_no hx hw, dvA_no st hx hw]
/-- Behind it. -/
theorem lst_cut (st : List Cel) (xs : List Int) (n : Nat) (l : List Ac) : ∀ i, n < seen l i → ∃ j, seen l j = n ∧ seen l (j + 1) = n + 1 ∧
    lst st xs (n : Int) l i = (crash (if oddF xs then dvA st l (j + 1) else dvA st l j) xs, n + 1, true)
  | 0, h => by exact absurd h (Nat.not_lt_zero _)
  | i + 1, h => by
    by_cases hi : n < seen l i
    · obtain ⟨j, h1, h2, h3⟩ := lst_cut st xs n l i hi
      refine ⟨j, h1, h2, ?_⟩
      cases hx : l[i]? with
      | none => rw [lst_none st xs _ hx, h3]
      | some x =>
        rw [lst_succ st xs _ hx, h3]
        unfold lsN
        rw [if_neg (fun h => by cases h.2)]
    · have ih := lst_go st xs (n : Int) l i (fun k hk => by omega)
      cases hx : l[i]? with
      | none =>
        have e2 : seen l (i + 1) = seen l i := by show (match l[i]? with | some x => _ | none => _) = _; rw [hx]
        omega
      | some x =>
        by_cases hw : x.what % 4 ≤ 1
        · have es := seen_yes hx hw
          have en : seen l i = n := by omega
          refine ⟨i, en, by omega, ?_⟩
          rw [lst_succ st xs _ hx, ih]
          unfold lsN
          rw [if_pos ⟨hw, rfl⟩, dvA_yes st hx hw]
          show (aft _ _ _ _ _, _, _) = _
          rw [en, decide_eq_true rfl]
          unfold aft
          rw [if_pos rfl]
        · have := seen_no hx hw
          omega
end Go.Proofs.Ytkefopakfjdfkaa
