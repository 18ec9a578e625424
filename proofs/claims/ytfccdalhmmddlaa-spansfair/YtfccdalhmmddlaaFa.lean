/- SpansFair. Conditions: none. -/
import Derived.Test.YtfccdalhmmddlaaFr
import Derived.Test.YtfccdalhmmddlaaSpZ
namespace Go.Proofs.Ytfccdalhmmddlaa
open Go.ChangeShapes Go.WideShapes Go.RowKit Go.Spans
set_option maxRecDepth 100000
set_option maxHeartbeats 16000000 in
theorem fair_c (s0 : Nat) (hs0 : s0 < 256) (A : Option Addr) (l : List Ac) (cap : Nat) (hl : l.length ≤ maxLen) (W : World) (h : Acts W W.heap.size A l) :
    Calls Try.prog 4 #[.int .u8 (s0 : Nat), .slice A l.length cap] W fun e w' => e = .returned (.bool true) ∧ Below W.heap.size W w' := by
  unfold maxLen at hl
  have hWk := works_c
  have hb0 := Below.refl W.heap.size W
  obtain ⟨n, hn⟩ : ∃ n : Nat, n = 1 + s0 % 200 := ⟨_, rfl⟩
  have hn1 : 1 ≤ n := by omega
  have hn2 : n ≤ 200 := by omega
  have hcast : 1 + (s0 : Int) % 200 = (n : Int) := by omega
  have hN := (new_c W (n : Int)).mono (R' := fun e w' => e = .returned (.pointer (some ⟨W.heap.size, 0, none⟩)) ∧ w' = W.alloc (.cells #[.int .i64 (n : Int), .slice none 0 0] 53)) (fun e w' hh => by rcases hh with ⟨_, _, h1, h2⟩ | ⟨h1, _⟩; exact ⟨h1, h2⟩; omega)
  have hst : St (W.alloc (.cells #[.int .i64 (n : Int), .slice none 0 0] 53)) W.heap.size (.slice none 0 0) n [] := ⟨Is.new _ _ _, Rw.nil _ _, ok_nil _, by omega, by omega⟩
  have hal : Below W.heap.size W (W.alloc (.cells #[.int .i64 (n : Int), .slice none 0 0] 53)) := hb0.alloc (Nat.le_refl _) _
  have h' := Lib.hid h
  clear h
  by_cases h80 : 80 < l.length
  · have hz : (80 : Int) < (l.length : Int) := by omega
    generalize l.length = len at *
    clear hst h' hn
    go_enter Try.func4, Try.ntmps4
    go_wp2_with (first
      | (go_at_call 6; refine hN.mono ?_; clear hN hcast; rintro e w1 ⟨rfl, rfl⟩)
      | (go_at_call 8; refine (hWk _).mono ?_; clear hWk; rintro e w3 ⟨rfl, b3⟩))
    go_ret
    exact ⟨rfl, hal.trans (b3.mono (by simp))⟩
  · have hz : ¬ ((80 : Int) < (l.length : Int)) := by omega
    obtain ⟨len, hlen⟩ : ∃ len, len = l.length := ⟨_, rfl⟩
    rw [← hlen] at hz hl h80 ⊢
    have hlen' := Lib.hid hlen
    clear hlen
    obtain ⟨w1, hw1⟩ : ∃ w1, W.alloc (.cells #[.int .i64 (n : Int), .slice none 0 0] 53) = w1 := ⟨_, rfl⟩
    rw [hw1] at hN hst hal
    have hs1 : w1.heap.size = W.heap.size + 1 := by rw [← hw1]; simp
    clear hw1
    obtain ⟨i0, hi0, hz0, hz1, hz2⟩ := info_parts info4
    have hmk := run_make (P := Try.prog) w1 40 4 i0 _ Try.underlying40 hi0 hz0 .i64 .i64 (n : Int) (n : Int) (by omega) (by omega) (by rw [hz2]; omega) (by omega)
    simp only [Int.toNat_natCast, hz1, Nat.mul_one] at hmk
    obtain ⟨cs, hcs⟩ : ∃ cs, cs = madeCells (Value.bool false).cells n := ⟨_, rfl⟩
    rw [← hcs] at hmk
    have hsz : cs.size = n := by rw [hcs, size_madeCells]
    have hget : ∀ k, k < n → cs[k]? = some (.bool false) := fun k hk => by
      rw [hcs]
      simp [madeCells, Value.cells, hk, Nat.mod_one]
    have hfr : Fr W.heap.size W (w1.alloc (.cells cs 4)) W.heap.size (.slice none 0 0) n [] w1.heap.size (hasB []) :=
      ⟨⟨hst.alloc _, Nat.le_refl _, (fun g hg => by cases hg), hal.alloc (by omega) _, by simp; omega⟩, ⟨cs, Is.new w1 4 cs, hsz, fun k hk => by rw [hget k hk]; rfl⟩, by omega⟩
    have hfr' := Lib.hid hfr
    generalize hH : w1.heap.size = H at *
    clear hcs hget hsz hst hal hfr hs1 hi0 hz0 hz1 hz2 hn
    go_enter Try.func4, Try.ntmps4
    go_wp2_with (go_at_call 6; refine hN.mono ?_; clear hN hcast; rintro e w2 ⟨rfl, rfl⟩)
    go_loopw [8] (fun i wr => ∃ (k : Nat) (v : Value) (xs : List Sp), i = .int .i64 k ∧ k ≤ len ∧ Fr W.heap.size W wr W.heap.size v n xs H (hasB xs)) (fun i _ => len - (Lib.intOf i).toNat)
    case atStart => exact ⟨0, _, _, rfl, Nat.zero_le _, hfr'.out⟩
    case round =>
      obtain ⟨k, v, xs, rfl, hk, x⟩ := hrel
      clear hfr' hmk
      have xh := Lib.hid x
      clear x
      by_cases hlt : k < len
      · have hkz : (k : Int) < (len : Int) := by omega
        obtain ⟨y, hy⟩ : ∃ y, l[k]? = some y := ⟨_, List.getElem?_eq_getElem (by rw [← hlen'.out]; exact hlt)⟩
        obtain ⟨ad, rfl, ⟨hy1, hy2⟩, hac⟩ := h'.out.at hy
        obtain ⟨a0, a1, a2, a3⟩ := hac wr xh.out.ow.be
        clear hac hy
        have hm : (y.what : Int) % 5 = 0 ∨ (y.what : Int) % 5 = 1 ∨ (y.what : Int) % 5 = 2 ∨ (y.what : Int) % 5 = 3 ∨ (y.what : Int) % 5 = 4 := by omega
        have hx := Lib.hid (show Fx W.heap.size W (wr.alloc (.cells #[.int .u8 (y.what : Nat), .int .i64 y.a, .int .i64 y.b, .int .i64 y.ask] 31)) W.heap.size v n xs H (hasB xs) wr.heap.size #[.int .u8 (y.what : Nat), .int .i64 y.a, .int .i64 y.b, .int .i64 y.ask] from ⟨xh.out.later ((Below.refl _ wr).alloc (Nat.le_refl _) _), Is.new _ _ _⟩)
        rcases hm with hm | hm | hm | hm | hm
        · have hsp := give_sp xh.out.ow.st.ok y.a
          have hG := (give_c hx.out.fr.ow.st y.a hy1 hy2).mono (R' := fun e w' => e = .returned (.int .i64 (fillE n xs y.a (y.a + 1))) ∧ ∃ v', Fx W.heap.size W w' W.heap.size v' n (fillX n xs y.a (y.a + 1)) H (hasB xs) wr.heap.size #[.int .u8 (y.what : Nat), .int .i64 y.a, .int .i64 y.b, .int .i64 y.ask]) (fun _ _ ⟨h1, v', t⟩ => ⟨h1, v', hx.out.to t⟩)
          generalize fillE n xs y.a (y.a + 1) = E at *
          generalize fillX n xs y.a (y.a + 1) = ys at *
          rcases hsp with ⟨rfl, p, hp, hpn, hsp⟩ | ⟨hE, hsp⟩
          · replace hsp := Lib.hid hsp
            replace hp := Lib.hid hp
            go_wp2_with (first
              | (go_at_call 17; refine hG.mono ?_; clear hG; rintro e w3 ⟨rfl, v3, x3⟩; obtain ⟨-, e1, -⟩ := x3.box; rw [hp.out] at e1; have c3 := x3.cell p hpn; have f3 := x3.frozen p; replace x3 := Lib.hid x3)
              | (go_at_call 21; refine (((x3.out.put p true).ext (fun j _ => (hsp.out j).symm)).told).mono ?_; rintro e w5 ⟨rfl, x5⟩))
            go_roundw
            case rel => exact ⟨k + 1, v3, ys, rfl, hlt, x5⟩
            case measure => simp [Lib.intOf]; omega
          · replace hsp := Lib.hid hsp
            go_wp2_with (first
              | (go_at_call 17; refine hG.mono ?_; clear hG; rintro e w3 ⟨rfl, v3, x3⟩; replace x3 := Lib.hid x3)
              | (go_at_call 21; refine ((x3.out.ext (fun j _ => (hsp.out j).symm)).told).mono ?_; rintro e w5 ⟨rfl, x5⟩))
            go_roundw
            case rel => exact ⟨k + 1, v3, ys, rfl, hlt, x5⟩
            case measure => simp [Lib.intOf]; omega
        · have hsp := give_sp xh.out.ow.st.ok y.a
          have hG := (give_c hx.out.fr.ow.st y.a hy1 hy2).mono (R' := fun e w' => e = .returned (.int .i64 (fillE n xs y.a (y.a + 1))) ∧ ∃ v', Fx W.heap.size W w' W.heap.size v' n (fillX n xs y.a (y.a + 1)) H (hasB xs) wr.heap.size #[.int .u8 (y.what : Nat), .int .i64 y.a, .int .i64 y.b, .int .i64 y.ask]) (fun _ _ ⟨h1, v', t⟩ => ⟨h1, v', hx.out.to t⟩)
          generalize fillE n xs y.a (y.a + 1) = E at *
          generalize fillX n xs y.a (y.a + 1) = ys at *
          rcases hsp with ⟨rfl, p, hp, hpn, hsp⟩ | ⟨hE, hsp⟩
          · replace hsp := Lib.hid hsp
            replace hp := Lib.hid hp
            go_wp2_with (first
              | (go_at_call 17; refine hG.mono ?_; clear hG; rintro e w3 ⟨rfl, v3, x3⟩; obtain ⟨-, e1, -⟩ := x3.box; rw [hp.out] at e1; have c3 := x3.cell p hpn; have f3 := x3.frozen p; replace x3 := Lib.hid x3)
              | (go_at_call 21; refine (((x3.out.put p true).ext (fun j _ => (hsp.out j).symm)).told).mono ?_; rintro e w5 ⟨rfl, x5⟩))
            go_roundw
            case rel => exact ⟨k + 1, v3, ys, rfl, hlt, x5⟩
            case measure => simp [Lib.intOf]; omega
          · replace hsp := Lib.hid hsp
            go_wp2_with (first
              | (go_at_call 17; refine hG.mono ?_; clear hG; rintro e w3 ⟨rfl, v3, x3⟩; replace x3 := Lib.hid x3)
              | (go_at_call 21; refine ((x3.out.ext (fun j _ => (hsp.out j).symm)).told).mono ?_; rintro e w5 ⟨rfl, x5⟩))
            go_roundw
            case rel => exact ⟨k + 1, v3, ys, rfl, hlt, x5⟩
            case measure => simp [Lib.intOf]; omega
        · have hsp := fill_sp xh.out.ow.st.ok y.a y.b
          have hG := (fill_c hx.out.fr.ow.st y.a y.b).mono (R' := fun e w' => e = .returned (.int .i64 (fillE n xs y.a y.b)) ∧ ∃ v', Fx W.heap.size W w' W.heap.size v' n (fillX n xs y.a y.b) H (hasB xs) wr.heap.size #[.int .u8 (y.what : Nat), .int .i64 y.a, .int .i64 y.b, .int .i64 y.ask]) (fun _ _ ⟨h1, v', t⟩ => ⟨h1, v', hx.out.to t⟩)
          generalize fillE n xs y.a y.b = E at *
          generalize fillX n xs y.a y.b = ys at *
          rcases hsp with ⟨rfl, p, q, hp, hq, hpq, hqn, hsp⟩ | ⟨hE, hsp⟩
          · replace hsp := Lib.hid hsp
            replace hp := Lib.hid hp
            replace hq := Lib.hid hq
            go_wp2_with (first
              | (go_at_call 18; refine hG.mono ?_; clear hG; rintro e w3 ⟨rfl, v3, x3⟩; obtain ⟨-, e1, e2⟩ := x3.box; rw [hp.out] at e1; replace x3 := Lib.hid x3))
            go_loopw [10] (fun i wq => ∃ d : Nat, i = .int .i64 d ∧ p ≤ d ∧ d ≤ q ∧ Fx W.heap.size W wq W.heap.size v3 n ys H (fun j => hasB xs j || decide (p ≤ j ∧ j < d)) wr.heap.size #[.int .u8 (y.what : Nat), .int .i64 y.a, .int .i64 y.b, .int .i64 y.ask]) (fun i _ => q - (Lib.intOf i).toNat)
            case atStart => exact ⟨p, rfl, Nat.le_refl _, hpq, x3.out.ext fun j _ => by rw [decide_eq_false (by omega), Bool.or_false]⟩
            case round =>
              obtain ⟨d, rfl, hpd, hdq, x4⟩ := hrel
              clear x3 e1 e2
              obtain ⟨-, -, e2⟩ := x4.box
              rw [hq.out] at e2
              by_cases hdl : d < q
              · have hdz : (d : Int) < (q : Int) := by omega
                have hdn : d < n := by omega
                have c4 := x4.cell d hdn
                have f4 := x4.frozen d
                have x4' := Lib.hid x4
                clear x4
                go_wp2
                go_roundw
                case rel =>
                  refine ⟨d + 1, rfl, by omega, hdl, (x4'.out.put d true).ext fun j _ => ?_⟩
                  by_cases e : j = d
                  · subst e; simp [hpd]
                  · rw [if_neg e]; congr 1; rw [decide_eq_decide]; omega
                case measure => simp [Lib.intOf]; omega
              · have hdq' : d = q := by omega
                subst hdq'
                go_wp2_with (go_at_call 21; refine ((x4.ext (fun j _ => (hsp.out j).symm)).told).mono ?_; rintro e w5 ⟨rfl, x5⟩)
                go_roundw
                case rel => exact ⟨k + 1, v3, ys, rfl, hlt, x5⟩
                case measure => simp [Lib.intOf]; omega
          · replace hsp := Lib.hid hsp
            go_wp2_with (first
              | (go_at_call 18; refine hG.mono ?_; clear hG; rintro e w3 ⟨rfl, v3, x3⟩; replace x3 := Lib.hid x3)
              | (go_at_call 21; refine ((x3.out.ext (fun j _ => (hsp.out j).symm)).told).mono ?_; rintro e w5 ⟨rfl, x5⟩))
            go_roundw
            case rel => exact ⟨k + 1, v3, ys, rfl, hlt, x5⟩
            case measure => simp [Lib.intOf]; omega
        · have hsp := take_sp xh.out.ow.st.ok y.a
          have hlen3 := takeL_len xh.out.ow.st.ok y.a
          have hG := (take_c hx.out.fr.ow.st y.a).mono (R' := fun e w' => ∃ r v', e = .returned (.tuple #[r, .int .i64 (takeE xs y.a)]) ∧ Fx W.heap.size W w' W.heap.size v' n (takeX xs y.a) H (hasB xs) wr.heap.size #[.int .u8 (y.what : Nat), .int .i64 y.a, .int .i64 y.b, .int .i64 y.ask] ∧ ∃ B, w'.ownsRow B 3 1 r (takeL xs y.a).length (ints (takeL xs y.a))) (fun _ _ ⟨r, v', h1, t, hr⟩ => ⟨r, v', h1, hx.out.to t, _, hr⟩)
          generalize takeE xs y.a = E at *
          generalize takeX xs y.a = ys at *
          generalize takeL xs y.a = L at *
          rcases hsp with ⟨hE, hsp⟩ | ⟨rfl, m, hL, f1, f2, f3, f4⟩
          · replace hsp := Lib.hid hsp
            clear hlen3
            go_wp2_with (first
              | (go_at_call 19; refine hG.mono ?_; clear hG; rintro e w3 ⟨r, v3, rfl, x3, -⟩; replace x3 := Lib.hid x3))
            go_roundw
            case rel => exact ⟨k + 1, v3, ys, rfl, hlt, (x3.out.ext (fun j _ => (hsp.out j).symm)).fr⟩
            case measure => simp [Lib.intOf]; omega
          · have hG' := hG.mono (R' := fun e w' => ∃ g c cur v', e = .returned (.tuple #[.slice (some ⟨g, 0, none⟩) (m + 1) c, .int .i64 0]) ∧ Fx W.heap.size W w' W.heap.size v' n ys H (hasB xs) wr.heap.size #[.int .u8 (y.what : Nat), .int .i64 y.a, .int .i64 y.b, .int .i64 y.ask] ∧ Is w' g 3 cur ∧ ∀ i, i ≤ m → cur[i]? = some (.int .i64 (L.getD i 0 : Nat))) (fun e w' ⟨r, v', h1, x3, B, hr⟩ => by
              rcases hr.2 with ⟨_, h0⟩ | ⟨g, c, cur, rfl, _, hg, _, _, _, k7⟩
              · omega
              · rw [hL] at h1
                refine ⟨g, c, cur, v', h1, x3, hg, fun i hi => ?_⟩
                refine cur_get k7 ?_
                unfold ints
                rw [List.getElem?_map, List.getD_eq_getElem?_getD, List.getElem?_eq_getElem (by omega)]
                rfl)
            clear hG
            obtain ⟨M, hM⟩ : ∃ M, m + 1 = M := ⟨_, rfl⟩
            rw [hM] at hG' hL
            have hMn : M ≤ 4096 := by omega
            have hmM : m < M := by omega
            have hwm : IntKind.i64.wrap ((M : Int) - 1) = (m : Int) := by rw [wrap_small (by omega) (by omega)]; omega
            have hM0 : (0 : Int) < (M : Int) := by omega
            replace hM := Lib.hid hM
            replace hL := Lib.hid hL
            replace f1 := Lib.hid f1
            replace f2 := Lib.hid f2
            replace f3 := Lib.hid f3
            replace f4 := Lib.hid f4
            clear hlen3
            go_wp2_with (first
              | (go_at_call 19; refine hG'.mono ?_; clear hG'; rintro e w3 ⟨g, c, cur, v3, rfl, x3, hg3, hcur⟩; replace x3 := Lib.hid x3; replace hg3 := Lib.hid hg3; replace hcur := Lib.hid hcur))
            go_loopw [13] (fun i wq => ∃ d : Nat, i = .int .i64 d ∧ d ≤ M ∧ Is wq g 3 cur ∧ ∃ b C, Fx W.heap.size W wq W.heap.size v3 n ys H (fun j => hasB xs j && !decide (j ∈ L.take d)) b C) (fun i _ => M - (Lib.intOf i).toNat)
            case atStart => exact ⟨0, rfl, Nat.zero_le _, hg3.out, _, _, x3.out.ext fun j _ => by simp⟩
            case round =>
              obtain ⟨d, rfl, hd, hgq, b1, C1, x4⟩ := hrel
              clear x3 hg3
              by_cases hdl : d < M
              · have hdm : d ≤ m := by have := hM.out; omega
                have hdz : (d : Int) < (M : Int) := by omega
                obtain ⟨ga1, ga2⟩ := f1.out d hdm
                have hLn := hL.out
                have hLd : L.take (d + 1) = L.take d ++ [L.getD d 0] := by
                  rw [List.take_succ_eq_append_getElem (by omega), List.getD_eq_getElem?_getD, List.getElem?_eq_getElem (by omega), Option.getD_some]
                have hna : L.getD d 0 ∉ L.take d := fun hm' => by
                  obtain ⟨i, hi, e⟩ := List.getElem_of_mem hm'
                  rw [List.length_take] at hi
                  have hlt' := f2.out i d (by omega) hdm
                  rw [List.getElem_take] at e
                  rw [List.getD_eq_getElem?_getD, List.getElem?_eq_getElem (by omega), Option.getD_some, e] at hlt'
                  omega
                have t0 := (hgq.cell d).trans (hcur.out d hdm)
                have c4 := x4.cell _ ga1
                rw [ga2, decide_eq_false hna] at c4
                simp only [Bool.not_false, Bool.and_true] at c4
                have f5 := x4.frozen (L.getD d 0)
                have hprev : d = 0 ∨ ∃ e, d = e + 1 ∧ L.getD e 0 < L.getD d 0 ∧ wr.cell? ⟨g, e, none⟩ = some (.int .i64 (L.getD e 0 : Nat)) := by
                  rcases Nat.eq_zero_or_pos d with h0 | h0
                  · exact .inl h0
                  · exact .inr ⟨d - 1, by omega, f2.out _ _ (by omega) hdm, (hgq.cell _).trans (hcur.out _ (by omega))⟩
                replace x4 := Lib.hid x4
                replace hgq := Lib.hid hgq
                replace hLd := Lib.hid hLd
                clear ga2 hna hLn
                generalize L.getD d 0 = a at *
                have z0 : ((a : Int) < 0) = False := eq_false (by omega)
                have z1 : ((n : Int) ≤ (a : Int)) = False := eq_false (by omega)
                have hnext : ∀ wx, Fx W.heap.size W wx W.heap.size v3 n ys H (fun j => if j = a then false else (hasB xs j && !decide (j ∈ L.take d))) b1 C1 → Fx W.heap.size W wx W.heap.size v3 n ys H (fun j => hasB xs j && !decide (j ∈ L.take (d + 1))) b1 C1 := fun wx x => x.ext fun j _ => by
                  rw [hLd.out]
                  by_cases e : j = a
                  · subst e; simp
                  · simp [e]
                replace hnext := Lib.hid hnext
                rcases hprev with h0 | ⟨e0, he0, z3, t1⟩
                · have hd0 : ((0 : Int) < (d : Int)) = False := eq_false (by omega)
                  have hd0' : (0 < d) = False := eq_false (by omega)
                  replace h0 := Lib.hid h0
                  go_wp2
                  go_quiet (fail)
                  go_wp2
                  go_roundw
                  case rel => exact ⟨d + 1, rfl, hdl, (hgq.out.drewN _).other (by have := x4.out; obtain ⟨cH, hiH, _⟩ := this.fr.bs; exact hgq.out.ne hiH (by decide)) _, b1, C1, hnext.out _ ((x4.out.drewN _).put a false)⟩
                  case measure => simp [Lib.intOf]; omega
                · have hd0 : ((0 : Int) < (d : Int)) = True := eq_true (by omega)
                  have hd0' : (0 < d) = True := eq_true (by omega)
                  have hw1 : IntKind.i64.wrap ((d : Int) - 1) = (e0 : Int) := by rw [wrap_small (by omega) (by omega)]; omega
                  have he1 : e0 < M := by omega
                  generalize L.getD e0 0 = a' at *
                  have z3' : ((a : Int) ≤ (a' : Int)) = False := eq_false (by omega)
                  replace he0 := Lib.hid he0
                  clear z3
                  go_wp2
                  go_quiet (fail)
                  go_wp2
                  go_roundw
                  case rel => exact ⟨d + 1, rfl, hdl, (hgq.out.drewN _).other (by have := x4.out; obtain ⟨cH, hiH, _⟩ := this.fr.bs; exact hgq.out.ne hiH (by decide)) _, b1, C1, hnext.out _ ((x4.out.drewN _).put a false)⟩
                  case measure => simp [Lib.intOf]; omega
              · have hdM : d = M := by omega
                subst hdM
                have hdd : ¬ ((d : Int) < (d : Int)) := by omega
                have x5 := Lib.hid (x4.ext (h' := hasB ys) (fun j _ => by rw [f4.out j, List.take_of_length_le (by have := hL.out; omega)]))
                replace hgq := Lib.hid hgq
                clear x4 hdl
                go_wp2
                go_loopw [14] (fun i wq => ∃ q : Nat, i = .int .i64 q ∧ q ≤ L.getD m 0 ∧ Is wq g 3 cur ∧ ∃ b C, Fx W.heap.size W wq W.heap.size v3 n ys H (hasB ys) b C) (fun i _ => L.getD m 0 - (Lib.intOf i).toNat)
                case atStart => exact ⟨0, rfl, Nat.zero_le _, hgq.out, _, _, x5.out⟩
                case round =>
                  obtain ⟨q, rfl, hq, hgz, b, C, x6⟩ := hrel
                  clear x5 hgq
                  have t0 := (hgz.cell m).trans (hcur.out m (Nat.le_refl _))
                  obtain ⟨gm1, _⟩ := f1.out m (Nat.le_refl _)
                  by_cases hql : q < L.getD m 0
                  · have c6 := x6.cell q (by omega)
                    rw [f3.out q hql] at c6
                    have hqn : q < n := by omega
                    have hqz : (q : Int) < ((L.getD m 0 : Nat) : Int) := by omega
                    replace x6 := Lib.hid x6
                    replace hgz := Lib.hid hgz
                    generalize L.getD m 0 = z at *
                    go_wp2
                    go_roundw
                    case rel => exact ⟨q + 1, rfl, hql, hgz.out, b, C, x6.out⟩
                    case measure => simp [Lib.intOf]; omega
                  · have hqe : q = L.getD m 0 := by omega
                    have hqz : ¬ ((q : Int) < ((L.getD m 0 : Nat) : Int)) := by omega
                    clear hqe hq hql
                    generalize L.getD m 0 = z at *
                    replace hgz := Lib.hid hgz
                    go_wp2_with (go_at_call 21; refine x6.told.mono ?_; rintro e w5 ⟨rfl, x7⟩)
                    go_roundw
                    case rel => exact ⟨k + 1, v3, ys, rfl, hlt, x7⟩
                    case measure => simp [Lib.intOf]; omega
        · have hC := hx.out.copy
          go_wp2_with (first
            | (go_at_call 20; refine hC.mono ?_; clear hC; rintro e w3 ⟨S', rfl, hC⟩)
            | (go_at_call 19; refine hC.mono ?_; clear hC; rintro e w4 ⟨⟨r, E, rfl⟩, hC⟩)
            | (go_at_call 17; refine hC.mono ?_; clear hC; rintro e w4 ⟨⟨E', rfl⟩, x5⟩)
            | (go_at_call 21; refine x5.told.mono ?_; rintro e w5 ⟨rfl, x6⟩))
          go_roundw
          case rel => exact ⟨k + 1, v, xs, rfl, hlt, x6⟩
          case measure => simp [Lib.intOf]; omega
      · have hke : k = len := by omega
        subst hke
        go_wp2_with (go_at_call 8; refine (hWk _).mono ?_; clear hWk; rintro e w3 ⟨rfl, b3⟩)
        go_ret
        exact ⟨rfl, xh.out.ow.be.trans (b3.mono xh.out.ow.sz)⟩
end Go.Proofs.Ytfccdalhmmddlaa
