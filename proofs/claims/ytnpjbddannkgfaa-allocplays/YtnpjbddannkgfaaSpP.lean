/- Plain mathematics of spans: lists of (at, n), which sectors they have, what giving and taking makes of them. No program. -/
namespace Go.Spans
/-- A span: where it begins, how many. -/
abbrev Sp := Nat × Nat
def en (e : Sp) : Nat := e.1 + e.2
def inn (e : Sp) (k : Nat) : Bool := decide (e.1 ≤ k ∧ k < e.1 + e.2)
def hasB (xs : List Sp) (k : Nat) : Bool := xs.any (fun e => inn e k)
/-- Rising, with a gap between two; none is empty; all end at n or ahead of it. -/
structure Ok (n : Nat) (xs : List Sp) : Prop where
  gap : xs.Pairwise (fun a b => en a < b.1)
  pos : ∀ e ∈ xs, 1 ≤ e.2
  hi : ∀ e ∈ xs, en e ≤ n
theorem ok_nil (n : Nat) : Ok n [] := ⟨.nil, by simp, by simp⟩
theorem inn_iff {e : Sp} {k : Nat} : inn e k = true ↔ e.1 ≤ k ∧ k < en e := by simp [inn, en]
theorem hasB_iff {xs : List Sp} {k : Nat} : hasB xs k = true ↔ ∃ e ∈ xs, e.1 ≤ k ∧ k < en e := by simp [hasB, inn, en]
theorem hasB_false {xs : List Sp} {k : Nat} : hasB xs k = false ↔ ∀ e ∈ xs, e.1 ≤ k → en e ≤ k := by
  rw [← Bool.not_eq_true, hasB_iff]
  constructor
  · intro h e he h1
    exact Nat.le_of_not_lt fun h2 => h ⟨e, he, h1, h2⟩
  · rintro h ⟨e, he, h1, h2⟩
    have := h e he h1
    omega
theorem hasB_lt {n : Nat} {xs : List Sp} (h : Ok n xs) {k : Nat} (hk : hasB xs k = true) : k < n := by
  obtain ⟨e, he, _, h2⟩ := hasB_iff.1 hk
  have := h.hi e he
  omega
theorem hasB_append (xs ys : List Sp) (k : Nat) : hasB (xs ++ ys) k = (hasB xs k || hasB ys k) := by simp [hasB]
theorem hasB_cons (e : Sp) (ys : List Sp) (k : Nat) : hasB (e :: ys) k = (inn e k || hasB ys k) := by simp [hasB]
theorem Ok.left {n : Nat} {xs ys : List Sp} (h : Ok n (xs ++ ys)) : Ok n xs := ⟨(List.pairwise_append.1 h.gap).1, fun e he => h.pos e (by simp [he]), fun e he => h.hi e (by simp [he])⟩
theorem Ok.right {n : Nat} {xs ys : List Sp} (h : Ok n (xs ++ ys)) : Ok n ys := ⟨(List.pairwise_append.1 h.gap).2.1, fun e he => h.pos e (by simp [he]), fun e he => h.hi e (by simp [he])⟩
theorem Ok.cross {n : Nat} {xs ys : List Sp} (h : Ok n (xs ++ ys)) {a b : Sp} (ha : a ∈ xs) (hb : b ∈ ys) : en a < b.1 := (List.pairwise_append.1 h.gap).2.2 a ha b hb
theorem Ok.tail {n : Nat} {e : Sp} {ys : List Sp} (h : Ok n (e :: ys)) : Ok n ys := Ok.right (xs := [e]) h
theorem Ok.head {n : Nat} {e : Sp} {ys : List Sp} (h : Ok n (e :: ys)) {b : Sp} (hb : b ∈ ys) : en e < b.1 := Ok.cross (xs := [e]) h (by simp) hb
theorem Ok.join {n : Nat} {xs ys : List Sp} (h : Ok n xs) (k : Ok n ys) (hc : ∀ a ∈ xs, ∀ b ∈ ys, en a < b.1) : Ok n (xs ++ ys) :=
  ⟨List.pairwise_append.2 ⟨h.gap, k.gap, hc⟩, fun e he => by rcases List.mem_append.1 he with m | m; exact h.pos e m; exact k.pos e m, fun e he => by rcases List.mem_append.1 he with m | m; exact h.hi e m; exact k.hi e m⟩
theorem Ok.one {n : Nat} {e : Sp} (h1 : 1 ≤ e.2) (h2 : en e ≤ n) : Ok n [e] := ⟨by simp, by simpa using h1, by simpa using h2⟩
/-- How many spans end at that place or ahead of it. -/
def bh (xs : List Sp) (k : Nat) : Nat := xs.countP (fun e => decide (en e ≤ k))
theorem bh_le (xs : List Sp) (k : Nat) : bh xs k ≤ xs.length := List.countP_le_length
theorem bh_split {n : Nat} : ∀ {xs : List Sp}, Ok n xs → ∀ k, (∀ e ∈ xs.take (bh xs k), en e ≤ k) ∧ (∀ e ∈ xs.drop (bh xs k), k < en e)
  | [], _, k => by simp [bh]
  | e :: ys, h, k => by
    have ih := bh_split h.tail k
    by_cases he : en e ≤ k
    · have e1 : bh (e :: ys) k = bh ys k + 1 := by simp [bh, he]
      rw [e1]
      simp only [List.take_succ_cons, List.drop_succ_cons, List.mem_cons]
      refine ⟨?_, ih.2⟩
      rintro x (rfl | hx)
      · exact he
      · exact ih.1 x hx
    · have e0 : bh ys k = 0 := by
        rw [bh, List.countP_eq_zero]
        intro x hx
        have := h.head hx
        have : x.1 ≤ en x := by simp [en]
        simp
        omega
      have e1 : bh (e :: ys) k = 0 := by
        have : bh (e :: ys) k = bh ys k := by simp [bh, he]
        rw [this, e0]
      rw [e1]
      simp only [List.take_zero, List.drop_zero, List.mem_cons]
      refine ⟨by simp, ?_⟩
      rintro x (rfl | hx)
      · omega
      · have := h.head hx
        have : x.1 ≤ en x := by simp [en]
        omega
/-- What the program asks of sort.Search, as a number of spans. -/
theorem bh_search (xs : List Sp) (k : Nat) (p : Nat → Bool) (hp : ∀ i (h : i < xs.length), p i = decide (k < en xs[i])) : (List.range xs.length).countP (fun i => !p i) = bh xs k := by
  have e : xs = (List.range xs.length).attach.map (fun i => xs[i.1]'(by have := i.2; simpa using this)) := by
    apply List.ext_getElem (by simp)
    intro i h1 h2
    simp
  have h2 : bh xs k = (List.range xs.length).attach.countP (fun i => decide (en (xs[i.1]'(by have := i.2; simpa using this)) ≤ k)) := by
    conv => lhs; rw [bh, e]
    rw [List.countP_map]
    rfl
  rw [h2, ← List.countP_attach (l := List.range xs.length)]
  apply List.countP_congr
  intro i _
  have hi : i.1 < xs.length := by have := i.2; simpa using this
  rw [hp i.1 hi]
  simp
/-- Has, by the place that the program looks at. -/
theorem has_bh {n : Nat} {xs : List Sp} (h : Ok n xs) (k : Nat) : hasB xs k = match xs[bh xs k]? with | some e => decide (e.1 ≤ k) | none => false := by
  obtain ⟨h1, h2⟩ := bh_split h k
  have hs : hasB xs k = hasB (xs.drop (bh xs k)) k := by
    conv => lhs; rw [← List.take_append_drop (bh xs k) xs]
    rw [hasB_append]
    have : hasB (xs.take (bh xs k)) k = false := hasB_false.2 fun e he _ => h1 e he
    rw [this, Bool.false_or]
  rw [hs]
  cases hd : xs.drop (bh xs k) with
  | nil =>
    have : xs[bh xs k]? = none := by rw [List.getElem?_eq_none_iff]; exact List.drop_eq_nil_iff.1 hd
    rw [this]
    rfl
  | cons e ys =>
    have he : xs[bh xs k]? = some e := by
      have := List.getElem?_drop (xs := xs) (i := bh xs k) (j := 0)
      rw [hd] at this
      simpa using this.symm
    rw [he]
    have hk : k < en e := h2 e (by rw [hd]; simp)
    have hok : Ok n (e :: ys) := by
      rw [← hd]
      have := h
      rw [← List.take_append_drop (bh xs k) xs] at this
      exact this.right
    rw [hasB_cons]
    have hf : e.1 ≤ k ∨ hasB ys k = false := by
      by_cases hc : e.1 ≤ k
      · exact .inl hc
      · refine .inr (hasB_false.2 fun x hx hxk => ?_)
        have := hok.head hx
        have : e.1 ≤ en e := by simp [en]
        omega
    by_cases hc : e.1 ≤ k
    · simp [hc, inn_iff.2 ⟨hc, hk⟩]
    · rw [hf.resolve_left hc]
      simp [hc, inn]
/-- The sectors of spans, rising. -/
def elems (xs : List Sp) : List Nat := xs.flatMap fun e => List.range' e.1 e.2
def cnt (xs : List Sp) : Nat := (xs.map (·.2)).sum
theorem elems_len (xs : List Sp) : (elems xs).length = cnt xs := by
  induction xs with
  | nil => rfl
  | cons e ys ih => simp [elems, cnt]
theorem filter_none {p : Nat → Bool} {l : List Nat} (h : ∀ x ∈ l, p x = false) : l.filter p = [] := by
  rw [List.filter_eq_nil_iff]
  intro x hx
  simp [h x hx]
theorem elems_from {n : Nat} : ∀ {xs : List Sp} {b m : Nat}, Ok n xs → (∀ e ∈ xs, b ≤ e.1) → b + m = n → (List.range' b m).filter (hasB xs) = elems xs
  | [], b, m, _, _, _ => by rw [filter_none (by intro x _; rfl)]; rfl
  | e :: ys, b, m, h, hb, hm => by
    have h1 := hb e (by simp)
    have h2 := h.hi e (by simp)
    have h3 : e.1 ≤ en e := by simp [en]
    have hsplit : List.range' b m = List.range' b (e.1 - b) ++ (List.range' e.1 e.2 ++ List.range' (en e) (n - en e)) := by
      have ha : List.range' b m = List.range' b (e.1 - b) ++ List.range' e.1 (n - e.1) := by
        have := List.range'_append_1 (s := b) (m := e.1 - b) (n := n - e.1)
        rw [show b + (e.1 - b) = e.1 by omega, show e.1 - b + (n - e.1) = m by omega] at this
        exact this.symm
      have hc : List.range' e.1 (n - e.1) = List.range' e.1 e.2 ++ List.range' (en e) (n - en e) := by
        have := List.range'_append_1 (s := e.1) (m := e.2) (n := n - en e)
        rw [show e.2 + (n - en e) = n - e.1 by simp [en] at h2 ⊢; omega] at this
        exact this.symm
      rw [ha, hc]
    rw [hsplit, List.filter_append, List.filter_append]
    have f1 : (List.range' b (e.1 - b)).filter (hasB (e :: ys)) = [] := filter_none fun x hx => by
      rw [List.mem_range'_1] at hx
      refine hasB_false.2 fun y hy hyx => ?_
      rcases List.mem_cons.1 hy with rfl | hy
      · omega
      · have := h.head hy
        omega
    have f2 : (List.range' e.1 e.2).filter (hasB (e :: ys)) = List.range' e.1 e.2 := by
      rw [List.filter_eq_self]
      intro x hx
      rw [List.mem_range'_1] at hx
      exact hasB_iff.2 ⟨e, by simp, hx.1, hx.2⟩
    have f3 : (List.range' (en e) (n - en e)).filter (hasB (e :: ys)) = (List.range' (en e) (n - en e)).filter (hasB ys) := by
      apply List.filter_congr
      intro x hx
      rw [List.mem_range'_1] at hx
      rw [hasB_cons]
      have : inn e x = false := by rw [← Bool.not_eq_true, inn_iff]; omega
      rw [this, Bool.false_or]
    rw [f1, f2, f3, elems_from h.tail (fun y hy => Nat.le_of_lt (h.head hy)) (by omega)]
    simp [elems]
theorem elems_eq {n : Nat} {xs : List Sp} (h : Ok n xs) : (List.range n).filter (hasB xs) = elems xs := by
  rw [List.range_eq_range']
  exact elems_from h (fun _ _ => Nat.zero_le _) (by omega)
theorem elems_lt {n : Nat} {xs : List Sp} (h : Ok n xs) : (elems xs).Pairwise (· < ·) := by
  rw [← elems_eq h]
  exact List.pairwise_lt_range.filter _
theorem mem_elems {n : Nat} {xs : List Sp} (h : Ok n xs) {k : Nat} : k ∈ elems xs ↔ hasB xs k = true := by
  rw [← elems_eq h, List.mem_filter, List.mem_range]
  exact ⟨fun x => x.2, fun x => ⟨hasB_lt h x, x⟩⟩
theorem cnt_le {n : Nat} {xs : List Sp} (h : Ok n xs) : cnt xs ≤ n := by
  rw [← elems_len, ← elems_eq h]
  have := List.length_filter_le (hasB xs) (List.range n)
  simpa using this
theorem len_le {n : Nat} {xs : List Sp} (h : Ok n xs) : xs.length ≤ n := by
  have h1 := cnt_le h
  have : xs.length ≤ cnt xs := by
    have hp := h.pos
    clear h h1
    induction xs with
    | nil => simp
    | cons e ys ih =>
      have := ih (fun x hx => hp x (by simp [hx]))
      have := hp e (by simp)
      simp [cnt] at *
      omega
  omega
/-- What lies from there on. -/
def cutOff (at_ : Nat) (e : Sp) : Option Sp := if max e.1 at_ < en e then some (max e.1 at_, en e - max e.1 at_) else none
def dropL (at_ : Nat) (xs : List Sp) : List Sp := xs.filterMap (cutOff at_)
theorem cutOff_some {k : Nat} {e x : Sp} (h : cutOff k e = some x) : x.1 = max e.1 k ∧ en x = en e ∧ 1 ≤ x.2 := by
  unfold cutOff at h
  split at h
  · injection h with h
    subst h
    simp [en] at *
    omega
  · cases h
theorem drop_ok {n k : Nat} {xs : List Sp} (h : Ok n xs) : Ok n (dropL k xs) := by
  refine ⟨?_, ?_, ?_⟩
  · refine List.Pairwise.filterMap _ ?_ h.gap
    intro a a' hlt b hb b' hb'
    obtain ⟨_, e2, _⟩ := cutOff_some hb
    obtain ⟨e1, _, _⟩ := cutOff_some hb'
    omega
  · intro x hx
    obtain ⟨e, _, h1⟩ := List.mem_filterMap.1 hx
    exact (cutOff_some h1).2.2
  · intro x hx
    obtain ⟨e, he, h1⟩ := List.mem_filterMap.1 hx
    have := (cutOff_some h1).2.1
    have := h.hi e he
    omega
theorem drop_has (k : Nat) (xs : List Sp) (j : Nat) : hasB (dropL k xs) j = (hasB xs j && decide (k ≤ j)) := by
  rw [Bool.eq_iff_iff, Bool.and_eq_true, hasB_iff, hasB_iff, decide_eq_true_iff]
  constructor
  · rintro ⟨x, hx, h1, h2⟩
    obtain ⟨e, he, hc⟩ := List.mem_filterMap.1 hx
    obtain ⟨e1, e2, _⟩ := cutOff_some hc
    exact ⟨⟨e, he, by omega, by omega⟩, by omega⟩
  · rintro ⟨⟨e, he, h1, h2⟩, hk⟩
    have hlt : max e.1 k < en e := by omega
    refine ⟨(max e.1 k, en e - max e.1 k), List.mem_filterMap.2 ⟨e, he, by simp [cutOff, hlt]⟩, ?_, ?_⟩
    · show max e.1 k ≤ j
      omega
    · show j < max e.1 k + (en e - max e.1 k)
      omega
/-- A gap of f to t is filled, between L and R: with what it touches it is one. -/
def lowL (L : List Sp) (f : Nat) : List Sp := match L.getLast? with | some a => if en a = f then L.dropLast else L | none => L
def lowF (L : List Sp) (f : Nat) : Nat := match L.getLast? with | some a => if en a = f then a.1 else f | none => f
def highR (R : List Sp) (t : Nat) : List Sp := match R with | b :: R' => if b.1 = t then R' else R | [] => []
def highT (R : List Sp) (t : Nat) : Nat := match R with | b :: _ => if b.1 = t then en b else t | [] => t
def fillL (xs : List Sp) (f t : Nat) : List Sp :=
  lowL (xs.take (bh xs f)) f ++ (lowF (xs.take (bh xs f)) f, highT (xs.drop (bh xs f)) t - lowF (xs.take (bh xs f)) f) :: highR (xs.drop (bh xs f)) t
theorem low_spec {n : Nat} {L : List Sp} {f : Nat} (h : Ok n L) (hL : ∀ e ∈ L, en e ≤ f) :
    lowF L f ≤ f ∧ (∀ a ∈ lowL L f, en a < lowF L f) ∧ Ok n (lowL L f) ∧ (∀ a ∈ lowL L f, a ∈ L) ∧ ∀ k, hasB L k = (hasB (lowL L f) k || decide (lowF L f ≤ k ∧ k < f)) := by
  rcases List.eq_nil_or_concat L with rfl | ⟨M, a, rfl⟩
  · refine ⟨Nat.le_refl _, by simp [lowL], ok_nil n, by simp [lowL], fun k => ?_⟩
    have : decide (f ≤ k ∧ k < f) = false := decide_eq_false (by omega)
    show false = (false || decide (f ≤ k ∧ k < f))
    rw [this]
    rfl
  · have ha : en a ≤ f := hL a (by simp)
    have hle : a.1 ≤ en a := by simp [en]
    by_cases hf : en a = f
    · have e1 : lowL (M ++ [a]) f = M := by simp [lowL, hf]
      have e2 : lowF (M ++ [a]) f = a.1 := by simp [lowF, hf]
      simp only [List.concat_eq_append] at *
      rw [e1, e2]
      refine ⟨by omega, fun x hx => h.cross hx (by simp), h.left, fun x hx => by simp [hx], fun k => ?_⟩
      rw [hasB_append]
      congr 1
      rw [← hf]
      simp only [hasB, List.any_cons, List.any_nil, Bool.or_false]
      rfl
    · have e1 : lowL (M ++ [a]) f = M ++ [a] := by simp [lowL, hf]
      have e2 : lowF (M ++ [a]) f = f := by simp [lowF, hf]
      simp only [List.concat_eq_append] at *
      rw [e1, e2]
      refine ⟨Nat.le_refl _, fun x hx => ?_, h, fun x hx => hx, fun k => ?_⟩
      · rcases List.mem_append.1 hx with hx | hx
        · have := h.cross hx (b := a) (by simp)
          omega
        · simp at hx; subst hx; omega
      · have : decide (f ≤ k ∧ k < f) = false := decide_eq_false (by omega)
        rw [this, Bool.or_false]
theorem high_spec {n : Nat} {R : List Sp} {t : Nat} (h : Ok n R) (hR : ∀ e ∈ R, t ≤ e.1) (hn : t ≤ n) :
    t ≤ highT R t ∧ highT R t ≤ n ∧ (∀ b ∈ highR R t, highT R t < b.1) ∧ Ok n (highR R t) ∧ (∀ b ∈ highR R t, b ∈ R) ∧ ∀ k, hasB R k = (hasB (highR R t) k || decide (t ≤ k ∧ k < highT R t)) := by
  cases R with
  | nil =>
    refine ⟨Nat.le_refl _, hn, by simp [highR], ok_nil n, by simp [highR], fun k => ?_⟩
    have : decide (t ≤ k ∧ k < t) = false := decide_eq_false (by omega)
    show false = (false || decide (t ≤ k ∧ k < t))
    rw [this]
    rfl
  | cons b R' =>
    have hb := hR b (by simp)
    have hle : b.1 ≤ en b := by simp [en]
    by_cases hf : b.1 = t
    · have e1 : highR (b :: R') t = R' := by simp [highR, hf]
      have e2 : highT (b :: R') t = en b := by simp [highT, hf]
      rw [e1, e2]
      refine ⟨by omega, h.hi b (by simp), fun x hx => h.head hx, h.tail, fun x hx => by simp [hx], fun k => ?_⟩
      rw [hasB_cons, Bool.or_comm]
      congr 1
      rw [← hf]
      rfl
    · have e1 : highR (b :: R') t = b :: R' := by simp [highR, hf]
      have e2 : highT (b :: R') t = t := by simp [highT, hf]
      rw [e1, e2]
      refine ⟨Nat.le_refl _, hn, fun x hx => ?_, h, fun x hx => hx, fun k => ?_⟩
      · rcases List.mem_cons.1 hx with rfl | hx
        · omega
        · have := h.head hx
          omega
      · have : decide (t ≤ k ∧ k < t) = false := decide_eq_false (by omega)
        rw [this, Bool.or_false]
/-- Nothing of f to t is there: just where the span that the program looks at begins at t or behind it. -/
theorem free_iff {n : Nat} {xs : List Sp} (h : Ok n xs) {f t : Nat} (hft : f < t) : (∀ k, f ≤ k → k < t → hasB xs k = false) ↔ ∀ e, xs[bh xs f]? = some e → t ≤ e.1 := by
  obtain ⟨h1, h2⟩ := bh_split h f
  have hx : xs.take (bh xs f) ++ xs.drop (bh xs f) = xs := List.take_append_drop _ _
  constructor
  · intro hall e he
    have hm : e ∈ xs.drop (bh xs f) := by
      have := List.getElem?_drop (xs := xs) (i := bh xs f) (j := 0)
      rw [Nat.add_zero, he] at this
      exact List.mem_of_getElem? this
    have h3 := h2 e hm
    refine Nat.le_of_not_lt fun hlt => ?_
    rcases Nat.le_total e.1 f with hc | hc
    · have := hasB_false.1 (hall f (Nat.le_refl _) hft) e (List.mem_of_mem_drop hm) hc
      omega
    · have := hasB_false.1 (hall e.1 hc hlt) e (List.mem_of_mem_drop hm) (Nat.le_refl _)
      have := h.pos e (List.mem_of_mem_drop hm)
      simp only [en] at *
      omega
  · intro hh k hk1 hk2
    refine hasB_false.2 fun e he hek => ?_
    rw [← hx] at he
    rcases List.mem_append.1 he with m | m
    · have := h1 e m
      omega
    · exfalso
      have hge : t ≤ e.1 := by
        cases hd : xs.drop (bh xs f) with
        | nil => rw [hd] at m; simp at m
        | cons b R' =>
          have hb : xs[bh xs f]? = some b := by
            have := List.getElem?_drop (xs := xs) (i := bh xs f) (j := 0)
            rw [hd] at this
            simpa using this.symm
          have hbt := hh b hb
          rw [hd] at m
          rcases List.mem_cons.1 m with rfl | m
          · exact hbt
          · have hok : Ok n (b :: R') := by
              rw [← hd]
              rw [← hx] at h
              exact h.right
            have := hok.head m
            have : b.1 ≤ en b := by simp [en]
            omega
      omega
theorem fill_spec {n : Nat} {xs : List Sp} (h : Ok n xs) {f t : Nat} (hft : f < t) (htn : t ≤ n) (hfree : ∀ e, xs[bh xs f]? = some e → t ≤ e.1) :
    Ok n (fillL xs f t) ∧ ∀ k, hasB (fillL xs f t) k = (hasB xs k || decide (f ≤ k ∧ k < t)) := by
  obtain ⟨h1, _⟩ := bh_split h f
  have hx : xs.take (bh xs f) ++ xs.drop (bh xs f) = xs := List.take_append_drop _ _
  have hk := h
  rw [← hx] at hk
  have hR : ∀ e ∈ xs.drop (bh xs f), t ≤ e.1 := by
    intro e m
    cases hd : xs.drop (bh xs f) with
    | nil => rw [hd] at m; simp at m
    | cons b R' =>
      have hb : xs[bh xs f]? = some b := by
        have := List.getElem?_drop (xs := xs) (i := bh xs f) (j := 0)
        rw [hd] at this
        simpa using this.symm
      have hbt := hfree b hb
      rw [hd] at m
      rcases List.mem_cons.1 m with rfl | m
      · exact hbt
      · have hok : Ok n (b :: R') := by
          rw [← hd]
          exact hk.right
        have := hok.head m
        have : b.1 ≤ en b := by simp [en]
        omega
  obtain ⟨l1, l2, l3, l4, l5⟩ := low_spec hk.left h1
  obtain ⟨r1, r2, r3, r4, r5, r6⟩ := high_spec hk.right hR htn
  have he : en (lowF (xs.take (bh xs f)) f, highT (xs.drop (bh xs f)) t - lowF (xs.take (bh xs f)) f) = highT (xs.drop (bh xs f)) t := by
    simp only [en]
    omega
  refine ⟨?_, fun k => ?_⟩
  · refine l3.join (Ok.join (xs := [_]) (Ok.one ?_ ?_) r4 ?_) ?_
    · simp only
      omega
    · rw [he]; exact r2
    · intro a ha b hb
      simp at ha
      subst ha
      rw [he]
      exact r3 b hb
    · intro a ha b hb
      rcases List.mem_cons.1 hb with rfl | hb
      · exact l2 a ha
      · exact hk.cross (l4 a ha) (r5 b hb)
  · conv => rhs; rw [← hx, hasB_append, l5 k, r6 k]
    rw [fillL, hasB_append, hasB_cons]
    have hi : inn (lowF (xs.take (bh xs f)) f, highT (xs.drop (bh xs f)) t - lowF (xs.take (bh xs f)) f) k = (decide (lowF (xs.take (bh xs f)) f ≤ k ∧ k < f) || decide (f ≤ k ∧ k < t) || decide (t ≤ k ∧ k < highT (xs.drop (bh xs f)) t)) := by
      rw [Bool.eq_iff_iff, inn_iff, he]
      simp only [Bool.or_eq_true, decide_eq_true_eq]
      omega
    rw [hi]
    cases hasB (lowL (xs.take (bh xs f)) f) k <;> cases hasB (highR (xs.drop (bh xs f)) t) k <;> cases decide (lowF (xs.take (bh xs f)) f ≤ k ∧ k < f) <;> cases decide (f ≤ k ∧ k < t) <;> cases decide (t ≤ k ∧ k < highT (xs.drop (bh xs f)) t) <;> rfl
/-- Taking k: what stays has just what lies behind the greatest that is taken. -/
theorem take_has {n : Nat} {xs : List Sp} (h : Ok n xs) {k : Nat} (hk : 1 ≤ k) (hc : k ≤ cnt xs) (j : Nat) :
    hasB (dropL ((elems xs)[k - 1]'(by rw [elems_len]; omega) + 1) xs) j = (hasB xs j && !decide (j ∈ (elems xs).take k)) := by
  rw [drop_has]
  cases hj : hasB xs j with
  | false => simp
  | true =>
    have hm := (mem_elems h).2 hj
    obtain ⟨i, hi, e⟩ := List.getElem_of_mem hm
    have hp := List.pairwise_iff_getElem.1 (elems_lt h)
    have hk1 : k - 1 < (elems xs).length := by rw [elems_len]; omega
    simp only [Bool.true_and]
    rw [Bool.eq_iff_iff]
    simp only [decide_eq_true_eq, Bool.not_eq_true', decide_eq_false_iff_not]
    constructor
    · intro hlt hmem
      obtain ⟨i', hi', e'⟩ := List.getElem_of_mem hmem
      rw [List.getElem_take] at e'
      rw [List.length_take] at hi'
      rcases Nat.lt_or_ge i' (k - 1) with hlt' | hge
      · have := hp i' (k - 1) (by omega) hk1 hlt'
        omega
      · have : i' = k - 1 := by omega
        subst this
        omega
    · intro hn
      rcases Nat.lt_or_ge i k with hlt | hge
      · exfalso
        apply hn
        rw [List.mem_iff_getElem]
        exact ⟨i, by rw [List.length_take]; omega, by rw [List.getElem_take]; exact e⟩
      · have := hp (k - 1) i hk1 hi (by omega)
        omega
end Go.Spans
