/- join, Fill, Give, as contracts on a set in memory. Conditions: none. -/
import Derived.Test.YtnpjbddannkgfaaSpI
namespace Go.Proofs.Ytnpjbddannkgfaa
open Go.ChangeShapes Go.WideShapes Go.RowKit Go.Spans Go.Shelf
set_option maxRecDepth 100000
/-- A set has become another one: its struct where it was, its list in its old block or in a new one. -/
structure To (w w' : World) (S : Nat) (v v' : Value) (n : Nat) (xs : List Sp) : Prop where
  st : St w' S v' n xs
  kp : Kp w w' (S :: ob v)
  lies : ∀ g ∈ ob v', g ∈ ob v ∨ w.heap.size ≤ g
theorem low_zero (f : Nat) : lowL [] f = [] ∧ lowF [] f = f := ⟨rfl, rfl⟩
theorem low_succ {xs : List Sp} {k : Nat} (h : k < xs.length) (f : Nat) : (en xs[k] = f → lowL (xs.take (k + 1)) f = xs.take k ∧ lowF (xs.take (k + 1)) f = xs[k].1) ∧ (en xs[k] ≠ f → lowL (xs.take (k + 1)) f = xs.take (k + 1) ∧ lowF (xs.take (k + 1)) f = f) := by
  rw [List.take_succ_eq_append_getElem h]
  constructor
  · intro hf
    simp only [lowL, lowF, List.getLast?_concat, if_pos hf, List.dropLast_concat, and_self]
  · intro hf
    simp only [lowL, lowF, List.getLast?_concat, if_neg hf, and_self]
theorem high_cons {xs : List Sp} {i : Nat} (h : i < xs.length) (t : Nat) : (xs[i].1 = t → highR (xs.drop i) t = xs.drop (i + 1) ∧ highT (xs.drop i) t = en xs[i]) ∧ (xs[i].1 ≠ t → highR (xs.drop i) t = xs.drop i ∧ highT (xs.drop i) t = t) := by
  rw [List.drop_eq_getElem_cons h]
  constructor
  · intro hf; simp [highR, highT, hf]
  · intro hf; simp [highR, highT, hf]
theorem join_c {w : World} {S n : Nat} {v : Value} {xs : List Sp} (h : St w S v n xs) {f t : Nat} (hft : f < t) (htn : t ≤ n) (hfree : ∀ e, xs[bh xs f]? = some e → t ≤ e.1) :
    Calls Try.prog 58 #[.pointer (some ⟨S, 0, none⟩), .int .i64 (bh xs f : Nat), .int .i64 f, .int .i64 t] w fun e w' => (∃ r, e = .returned r) ∧ ∃ v', To w w' S v v' n (fillL xs f t) := by
  have hspec := fill_spec h.ok hft htn hfree
  have hib := bh_le xs f
  have hlen := len_le h.ok
  have hhi := h.hi
  obtain ⟨p, cap, ev⟩ := h.row.len
  obtain ⟨g, cur, hg⟩ : ∃ g cur, xs = [] ∨ (p = some ⟨g, 0, none⟩ ∧ Is w g 101 cur ∧ cur.toList.take (xs.length * 2) = ecs xs) := by
    rcases h.row.cases with ⟨hn, rfl⟩ | ⟨g, cap', cur, hn, hb, hg, k4, k5, k6, k7⟩
    · exact ⟨0, #[], .inl rfl⟩
    · rw [ev] at hn
      injection hn with hn _ _
      exact ⟨g, cur, .inr ⟨hn, hg, k7⟩⟩
  have hcells : ∀ (k : Nat) (hk : k < xs.length) (W : World), Below w.heap.size w W → W.cell? ⟨g, k * 2, none⟩ = some (.int .i64 xs[k].1) ∧ W.cell? ⟨g, k * 2 + 1, none⟩ = some (.int .i64 xs[k].2) := fun k hk W hW => by
    rcases hg with rfl | ⟨_, hg, h7⟩
    · simp at hk
    · exact row_cells ((Kp.of_below hW []).is hg (by simp)) h7 k hk
  have hp : ∀ k, k < xs.length → p = some ⟨g, 0, none⟩ := fun k hk => by
    rcases hg with rfl | ⟨hp, _⟩
    · simp at hk
    · exact hp
  have hen : ∀ (k : Nat) (hk : k < xs.length), xs[k].1 + xs[k].2 ≤ 4096 := fun k hk => by
    have := h.ok.hi xs[k] (List.getElem_mem hk)
    simp only [en] at this
    omega
  obtain ⟨i, hi⟩ : ∃ i, i = bh xs f := ⟨_, rfl⟩
  have hfl : fillL xs f t = lowL (xs.take i) f ++ (lowF (xs.take i) f, highT (xs.drop i) t - lowF (xs.take i) f) :: highR (xs.drop i) t := by rw [hi]; rfl
  rw [← hi] at hib ⊢
  -- the span below
  obtain ⟨low, f', a1, m1, hl1, hl2, hlow, hlle⟩ : ∃ low f' a1 m1 : Nat, lowL (xs.take i) f = xs.take low ∧ lowF (xs.take i) f = f' ∧
      ((i = 0 ∧ low = 0 ∧ f' = f) ∨ (∃ k, i = k + 1 ∧ p = some ⟨g, 0, none⟩ ∧ a1 + m1 ≤ 4096 ∧ (∀ W, Below w.heap.size w W → W.cell? ⟨g, k * 2, none⟩ = some (.int .i64 a1) ∧ W.cell? ⟨g, k * 2 + 1, none⟩ = some (.int .i64 m1)) ∧ ((a1 + m1 ≠ f ∧ low = k + 1 ∧ f' = f) ∨ (a1 + m1 = f ∧ low = k ∧ f' = a1)))) ∧ low ≤ i := by
    cases i with
    | zero => exact ⟨0, f, 0, 0, by simp [low_zero], by simp [low_zero], .inl ⟨rfl, rfl, rfl⟩, Nat.le_refl _⟩
    | succ k =>
      have hk : k < xs.length := by omega
      obtain ⟨q1, q2⟩ := low_succ hk f
      by_cases hf : en xs[k] = f
      · exact ⟨k, xs[k].1, xs[k].1, xs[k].2, (q1 hf).1, (q1 hf).2, .inr ⟨k, rfl, hp k hk, hen k hk, hcells k hk, .inr ⟨hf, rfl, rfl⟩⟩, by omega⟩
      · exact ⟨k + 1, f, xs[k].1, xs[k].2, (q2 hf).1, (q2 hf).2, .inr ⟨k, rfl, hp k hk, hen k hk, hcells k hk, .inl ⟨hf, rfl, rfl⟩⟩, by omega⟩
  obtain ⟨high, t', a2, m2, hh1, hh2, hhigh, hhle⟩ : ∃ high t' a2 m2 : Nat, highR (xs.drop i) t = xs.drop high ∧ highT (xs.drop i) t = t' ∧
      ((i = xs.length ∧ high = i ∧ t' = t) ∨ (i < xs.length ∧ p = some ⟨g, 0, none⟩ ∧ a2 + m2 ≤ 4096 ∧ (∀ W, Below w.heap.size w W → W.cell? ⟨g, i * 2, none⟩ = some (.int .i64 a2) ∧ W.cell? ⟨g, i * 2 + 1, none⟩ = some (.int .i64 m2)) ∧ ((a2 ≠ t ∧ high = i ∧ t' = t) ∨ (a2 = t ∧ high = i + 1 ∧ t' = a2 + m2)))) ∧ i ≤ high ∧ high ≤ xs.length := by
    rcases Nat.lt_or_ge i xs.length with hk | hk
    · obtain ⟨q1, q2⟩ := high_cons hk t
      by_cases hf : xs[i].1 = t
      · exact ⟨i + 1, en xs[i], xs[i].1, xs[i].2, (q1 hf).1, (q1 hf).2, .inr ⟨hk, hp i hk, hen i hk, hcells i hk, .inr ⟨hf, rfl, rfl⟩⟩, by omega⟩
      · exact ⟨i, t, xs[i].1, xs[i].2, (q2 hf).1, (q2 hf).2, .inr ⟨hk, hp i hk, hen i hk, hcells i hk, .inl ⟨hf, rfl, rfl⟩⟩, by omega⟩
    · have he : i = xs.length := by omega
      exact ⟨i, t, 0, 0, by rw [he, List.drop_length]; rfl, by rw [he, List.drop_length]; rfl, .inl ⟨he, rfl, rfl⟩, by omega⟩
  rw [hl1, hl2, hh1, hh2] at hfl
  have hm : (f', t' - f') ∈ fillL xs f t := by rw [hfl]; simp
  have hpos := hspec.1.pos _ hm
  have hend := hspec.1.hi _ hm
  simp only [en] at hpos hend
  have hS := h.one
  rw [ev] at hS
  have hSlt := h.one.lt
  refine (join_walk (P := fun w' => ∃ v', To w w' S v v' n (fillL xs f t)) hS (by omega) (by omega) (by omega) (by omega) (by omega) hlow hhigh ?_)
  intro W vb lo hi' x y hlo hhi' hx hy hW hvb hvI
  subst hlo hhi' hx
  have hyy : y = ((t' - f' : Nat) : Int) := by omega
  subst hyy
  rw [← ev]
  have hWs : St W S v n xs := h.below hW
  have hvn : vb ∉ ob v := fun hm => by have := (h.row.lt vb hm).2; omega
  refine (replace_c (e := (f', t' - f')) hWs.row (by omega) (by omega) hhle.2 hvI hvn).mono ?_
  rintro e w' ⟨v', rfl, hr, hgr, hob⟩
  obtain ⟨p', cap', ev'⟩ := hr.len
  rw [← hfl] at hr
  have hkp : Kp W w' (ob v) := Kp.of_grown hgr
  have hS' : Is w' S 99 #[.int .i64 n, v] := hkp.is hWs.one h.ne
  have hlies : ∀ g ∈ ob v', g ∈ ob v ∨ w.heap.size ≤ g := fun g hg => by
    rcases hob with e | e
    · left; unfold ob at hg ⊢; rwa [e] at hg
    · right
      unfold ob at hg
      rw [e] at hg
      simp at hg
      have := hW.size
      omega
  have hSv : S ∉ ob v' := fun hm => by
    rcases hlies S hm with e | e
    · exact h.ne e
    · omega
  refine ⟨p', _, cap', by rw [← ev'], hS', v', ⟨?_, ?_, ?_, h.lo, h.hi⟩, ?_, hlies⟩
  · rw [← ev']
    exact hS'.put 1 v'
  · rw [← ev']
    exact hr.kept (X := [S]) ((Kp.refl w' [S]).put ⟨S, 1, none⟩ v' (.inl (by simp))) (fun g hg e => hSv (by simp at e; rwa [← e]))
  · exact hspec.1
  · exact ((Kp.of_below hW (S :: ob v)).trans (hkp.more (Y := S :: ob v) (fun x hx => by simp [hx])) (fun y hy => .inl hy)).put _ _ (.inl (by simp))
/-- Is one of f to t there? -/
def busy (xs : List Sp) (f t : Nat) : Bool := (List.range t).any fun k => decide (f ≤ k) && hasB xs k
theorem busy_false {xs : List Sp} {f t : Nat} : busy xs f t = false ↔ ∀ k, f ≤ k → k < t → hasB xs k = false := by
  simp only [busy, List.any_eq_false, List.mem_range, Bool.and_eq_true, decide_eq_true_eq, not_and, Bool.not_eq_true]
  exact ⟨fun h k h1 h2 => h k h2 h1, fun h k h2 h1 => h k h1 h2⟩
/-- What Fill answers, and what it makes. -/
def fillE (n : Nat) (xs : List Sp) (f t : Int) : Int := if f < 0 ∨ f > t ∨ t > n then 2 else if f = t then 0 else if busy xs f.toNat t.toNat then 6 else 0
def fillX (n : Nat) (xs : List Sp) (f t : Int) : List Sp := if (f < 0 ∨ f > t ∨ t > n) ∨ f = t ∨ busy xs f.toNat t.toNat = true then xs else fillL xs f.toNat t.toNat
theorem To.stays {w w' : World} {S n : Nat} {v : Value} {xs : List Sp} (h : St w S v n xs) (hb : Below w.heap.size w w') : To w w' S v v n xs := ⟨h.below hb, Kp.of_below hb _, fun _ hg => .inl hg⟩
set_option maxHeartbeats 2000000 in
theorem fill_c {w : World} {S n : Nat} {v : Value} {xs : List Sp} (h : St w S v n xs) (f t : Int) :
    Calls Try.prog 32 #[.pointer (some ⟨S, 0, none⟩), .int .i64 f, .int .i64 t] w fun e w' => e = .returned (.int .i64 (fillE n xs f t)) ∧ ∃ v', To w w' S v v' n (fillX n xs f t) := by
  have hM := isMade_st h
  have hstay := To.stays h (Below.refl _ w)
  have c0 := h.one.cell 0
  simp at c0
  by_cases hbad : f < 0 ∨ f > t ∨ t > n
  · have e1 : fillE n xs f t = 2 := by simp [fillE, hbad]
    have e2 : fillX n xs f t = xs := by simp [fillX, hbad]
    rw [e1, e2]
    clear e1 e2 h
    go_enter Try.func32, Try.ntmps32
    go_wp2_with (go_at_call 56; refine hM.mono ?_; clear hM; rintro e w' ⟨rfl, rfl⟩)
    all_goals first
      | (go_ret; exact ⟨rfl, _, hstay⟩)
      | (exfalso; omega)
  · have e1 : fillE n xs f t = if f = t then 0 else if busy xs f.toNat t.toNat then 6 else 0 := by simp only [fillE, if_neg hbad]
    have hf0 : 0 ≤ f := by omega
    have hft : f ≤ t := by omega
    have htn : t ≤ n := by omega
    have hn := h.hi
    obtain ⟨a, rfl⟩ := Int.eq_ofNat_of_zero_le hf0
    obtain ⟨b, rfl⟩ := Int.eq_ofNat_of_zero_le (Int.le_trans hf0 hft)
    simp only [Int.toNat_natCast] at e1
    have e2 : fillX n xs (a : Int) (b : Int) = if (a : Int) = b ∨ busy xs a b = true then xs else fillL xs a b := by
      simp only [fillX, hbad, false_or, Int.toNat_natCast]
    rw [e1, e2]
    clear e1 e2
    have g1 : ¬ ((a : Int) < 0) := by omega
    have g2 : ¬ ((b : Int) < (a : Int)) := by omega
    have g3 : ¬ ((n : Int) < (b : Int)) := by omega
    clear hbad hf0
    by_cases hab : a = b
    · subst hab
      rw [if_pos rfl, if_pos (.inl rfl)]
      clear h
      go_enter Try.func32, Try.ntmps32
      go_wp2_with (go_at_call 56; refine hM.mono ?_; clear hM; rintro e w' ⟨rfl, rfl⟩)
      go_ret
      exact ⟨rfl, _, hstay⟩
    · have habz : ¬ ((a : Int) = (b : Int)) := by omega
      have hlt : a < b := by omega
      have hB := behind_c h (a : Int)
      rw [Int.toNat_natCast] at hB
      have hbt : ∀ W, Below w.heap.size w W → W.cell? ⟨S, 1, none⟩ = some v := fun W hW => by
        have := (h.below hW).one.cell 1
        simpa using this
      rcases Bool.eq_false_or_eq_true (busy xs a b) with hbz | hbz
      · rw [if_neg habz, if_pos hbz, if_pos (.inr hbz)]
        have hnot : ¬ ∀ e, xs[bh xs a]? = some e → b ≤ e.1 := fun hall => by
          have := busy_false.2 ((free_iff h.ok hlt).2 hall)
          rw [hbz] at this
          cases this
        obtain ⟨x, hx, hxb⟩ : ∃ x, xs[bh xs a]? = some x ∧ x.1 < b := by
          cases hq : xs[bh xs a]? with
          | none => exact absurd (fun e he => by rw [hq] at he; cases he) hnot
          | some x => exact ⟨x, rfl, Nat.lt_of_not_le fun hle => hnot (fun e he => by rw [hq] at he; injection he with he; subst he; exact hle)⟩
        obtain ⟨hk, hxe⟩ := List.getElem?_eq_some_iff.1 hx
        have hstay' : ∀ W, Below w.heap.size w W → To w W S v v n xs := fun W hW => To.stays h hW
        rcases h.row.cases with ⟨rfl, rfl⟩ | ⟨g, cap, cur, rfl, hb, hg, h4, h5, h6, h7⟩
        · simp at hk
        · have hcell : ∀ W, Below w.heap.size w W → W.cell? ⟨g, bh xs a * 2, none⟩ = some (.int .i64 x.1) := fun W hW => by
            have := (row_cells ((Kp.of_below hW []).is hg (by simp)) h7 _ hk).1
            rwa [hxe] at this
          generalize bh xs a = i at *
          have hkz : (i : Int) < (xs.length : Int) := by omega
          clear h hg h6 h7 hx hxe hnot hstay hbz
          go_enter Try.func32, Try.ntmps32
          go_wp2_with (first
            | (go_at_call 56; refine hM.mono ?_; clear hM; rintro e w' ⟨rfl, rfl⟩)
            | (go_at_call 57; refine hB.mono ?_; clear hB; rintro e w1 ⟨rfl, hb1⟩; have s1 := hbt w1 hb1; have s2 := hcell w1 hb1))
          all_goals first
            | (go_ret; exact ⟨rfl, _, hstay' _ (by assumption)⟩)
            | (exfalso; omega)
      · rw [if_neg habz, if_neg (by rw [hbz]; simp), if_neg (by simp [habz, hbz])]
        have hfree := (free_iff h.ok hlt).1 (busy_false.1 hbz)
        have hjoin : ∀ W, Below w.heap.size w W → Calls Try.prog 58 #[.pointer (some ⟨S, 0, none⟩), .int .i64 (bh xs a : Nat), .int .i64 a, .int .i64 b] W fun e w' => (∃ r, e = .returned r) ∧ ∃ v', To w w' S v v' n (fillL xs a b) := fun W hW =>
          (join_c (h.below hW) hlt (by omega) hfree).mono fun e w' ⟨h1, v', h2⟩ => ⟨h1, v', h2.st, (Kp.of_below hW _).trans h2.kp (fun y hy => .inl hy), fun g hg => by
            rcases h2.lies g hg with e | e
            · exact .inl e
            · exact .inr (Nat.le_trans hW.size e)⟩
        rcases Nat.lt_or_ge (bh xs a) xs.length with hk | hk
        · rcases h.row.cases with ⟨rfl, rfl⟩ | ⟨g, cap, cur, rfl, hb, hg, h4, h5, h6, h7⟩
          · simp at hk
          · have hxb := hfree xs[bh xs a] (List.getElem?_eq_getElem hk)
            have hcell : ∀ W, Below w.heap.size w W → W.cell? ⟨g, bh xs a * 2, none⟩ = some (.int .i64 xs[bh xs a].1) := fun W hW => (row_cells ((Kp.of_below hW []).is hg (by simp)) h7 _ hk).1
            generalize xs[bh xs a] = x at *
            generalize bh xs a = i at *
            have hkz : (i : Int) < (xs.length : Int) := by omega
            have hxz : ¬ ((x.1 : Int) < (b : Int)) := by omega
            clear h hg h6 h7 hfree hstay hbz
            go_enter Try.func32, Try.ntmps32
            go_wp2_with (first
              | (go_at_call 56; refine hM.mono ?_; clear hM; rintro e w' ⟨rfl, rfl⟩)
              | (go_at_call 57; refine hB.mono ?_; clear hB; rintro e w1 ⟨rfl, hb1⟩; have s1 := hbt w1 hb1; have s2 := hcell w1 hb1)
              | (go_at_call 58; refine (hjoin _ hb1).mono ?_; clear hjoin; rintro e w2 ⟨⟨r, rfl⟩, v', hto⟩))
            go_ret
            exact ⟨rfl, v', hto⟩
        · have hke : bh xs a = xs.length := by have := bh_le xs a; omega
          obtain ⟨p, cap, rfl⟩ := h.row.len
          rw [hke] at hB hjoin
          clear h hfree hstay hbz
          go_enter Try.func32, Try.ntmps32
          go_wp2_with (first
            | (go_at_call 56; refine hM.mono ?_; clear hM; rintro e w' ⟨rfl, rfl⟩)
            | (go_at_call 57; refine hB.mono ?_; clear hB; rintro e w1 ⟨rfl, hb1⟩; have s1 := hbt w1 hb1)
            | (go_at_call 58; refine (hjoin _ hb1).mono ?_; clear hjoin; rintro e w2 ⟨⟨r, rfl⟩, v', hto⟩))
          go_ret
          exact ⟨rfl, v', hto⟩
end Go.Proofs.Ytnpjbddannkgfaa
