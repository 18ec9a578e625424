/- The document's Choose and Write. Conditions: numbers of 64 bits. The document's Choose and Write of a line; both choices beside each other. Conditions: numbers of 64 bits. A device and a line to it beside the document's, made in another order: words and steps. Conditions: numbers of 64 bits. Which superblock is chosen of any two slots, and what a Write leaves, is what the document says. Conditions: numbers of 64 bits. -/
import Derived.Test.YtlidieffaaicaaaGreatSuM
import Derived.Test.YtlidieffaaicaaaGreatSuF
import Derived.Test.YtlidieffaaicaaaGreatFsH
import Derived.Test.YtlidieffaaicaaaGreatSuH
namespace Go.Proofs.YtlidieffaaicaaaGreat
open Go.ChangeShapes Go.WideShapes Go.RowKit Go.Codec Go.Super
set_option maxRecDepth 100000
set_option linter.unusedSimpArgs false
theorem tk_gen_lt (r : List UInt8) : (tk r).1.gen < 18446744073709551616 := by
  by_cases h : (tk r).2 = 0
  · obtain ⟨h1, h2, h3, h4, h5, h6⟩ := tk_ok r h
    rw [h6]
    show (Seal.unstamp r).1 < _
    unfold Seal.unstamp at h1 ⊢
    split
    · simp
    · split
      · simp
      · split
        · exact Nat.lt_of_lt_of_le (val_lt _) (by
            have : (r.take 8).length ≤ 8 := by simp; omega
            exact Nat.le_trans (Nat.pow_le_pow_right (by decide) this) (by decide))
        · simp
  · rw [tk_none r h]; decide
theorem step_yes {k : Nat} {n : Int} {r : List UInt8} {q b : S} (h : tk r = (q, 0)) (hk : q.gen % 2 = k) (hn : q.secs = n) (hg : b.gen < q.gen) : later b (one k n r) = q := by
  have e : one k n r = q := by unfold one; rw [h]; exact if_pos ⟨rfl, hk, hn⟩
  rw [e]; exact if_pos hg
theorem step_no {k : Nat} {n : Int} {r : List UInt8} {q b : S} {x : Int} (h : tk r = (q, x)) (hno : x = 0 → q.gen % 2 = k → q.secs = n → ¬ b.gen < q.gen) : later b (one k n r) = b := by
  by_cases hc : x = 0 ∧ q.gen % 2 = k ∧ q.secs = n
  · have e : one k n r = q := by unfold one; rw [h]; exact if_pos hc
    rw [e]; exact if_neg (hno hc.1 hc.2.1 hc.2.2)
  · have e : one k n r = S.none := by unfold one; rw [h]; exact if_neg hc
    rw [e]; exact if_neg (Nat.not_lt_zero _)
theorem rslot_par (g : Nat) (hg : g < 18446744073709551616) (m : Int) (hm : ((g % 2 : Nat) : Int) = m) (w : World) : Calls Tryz.prog 39 #[.int .u64 g] w fun e w' => e = .returned (.int .i64 m) ∧ w = w' := by
  rw [← hm]
  exact rslot_c g hg w
set_option maxHeartbeats 8000000 in
theorem rchoose_go (G Bd g cap n : Nat) (rr : Nat → List UInt8) (hrr : ∀ k, (rr k).length = 128) (bb : Nat → S) (h0 : bb 0 = S.none) (hstep : ∀ k, bb (k + 1) = later (bb k) (one k n (rr k))) (r : S) (er : Int) (E3 : (if (bb 2).gen = 0 then (S.none, (5 : Int)) else (bb 2, 0)) = (r, er)) (w : World)
    (HC : Hid (∀ wx, Below w.heap.size w wx → wx.cell? ⟨G, 0, none⟩ = some (.pointer (some ⟨Bd, 0, none⟩)) ∧ wx.cell? ⟨Bd, 0, none⟩ = some (.slice (some ⟨g, 0, none⟩) n cap)))
    (HR : Hid (∀ wx, Below w.heap.size w wx → ∀ k : Nat, k < 2 → Calls Tryz.prog 61 #[.pointer (some ⟨G, 0, none⟩), .int .i64 (k : Nat)] wx fun e w' => e = .returned (.tuple #[.string (bs (rr k)), .int .i64 0]) ∧ Below wx.heap.size wx w')) :
    Calls Tryz.prog 34 #[.pointer (some ⟨G, 0, none⟩)] w fun e w' => e = .returned (.tuple #[.agg #[.int .u64 r.gen, .int .u64 r.calls, .int .i64 r.root, .int .i64 r.table, .int .i64 r.secs], .int .i64 er]) ∧ Below w.heap.size w w' := by
  obtain ⟨r0, r1, r2, r3, r4⟩ := r
  simp only
  have HE := Lib.hid E3
  have HN := Lib.hid hstep
  have HL := Lib.hid hrr
  clear E3 hstep hrr
  have H0 := Lib.hid (B2.new (Box.new w 45 #[.int .u64 0, .int .u64 0, .int .i64 0, .int .i64 0, .int .i64 0]) #[.int .u64 0, .int .u64 0, .int .i64 0, .int .i64 0, .int .i64 0])
  obtain ⟨X, hX⟩ : ∃ X, (w.alloc (.cells #[.int .u64 0, .int .u64 0, .int .i64 0, .int .i64 0, .int .i64 0] 45)).heap.size = X := ⟨_, rfl⟩
  rw [hX] at H0
  have hX' : w.heap.size + 1 = X := by rw [← hX]; simp
  clear hX
  have HX := Lib.hid hX'
  go_enter Tryz.func34, Tryz.ntmps34
  go_wp2_with fail
  clear hX'
  go_loopw [5] (fun i wr => ∃ (k : Nat) (b : S), k ≤ 2 ∧ i = .int .i64 k ∧ bb k = b ∧ B2 w 45 #[.int .u64 0, .int .u64 0, .int .i64 0, .int .i64 0, .int .i64 0] X #[.int .u64 b.gen, .int .u64 b.calls, .int .i64 b.root, .int .i64 b.table, .int .i64 b.secs] wr) (fun i _ => 2 - (intOf i).toNat)
  case atStart => exact ⟨0, S.none, by omega, rfl, h0, H0.out⟩
  case round =>
    clear H0 h0
    obtain ⟨k, ⟨b0, b1, b2, b3, b4⟩, hk, rfl, hb, hp⟩ := hrel
    simp only at hp
    have HP := Lib.hid hp
    clear hp
    by_cases hk2 : k < 2
    · have HT := Lib.hid (fun w' => rtake_c (bs (rr k)) (by rw [bs_size]; have := HL.out k; omega) w')
      rw [bs_list] at HT
      have hgl := tk_gen_lt (rr k)
      obtain ⟨⟨q0, q1, q2, q3, q4⟩, x, hq⟩ : ∃ (q : S) (x : Int), tk (rr k) = (q, x) := ⟨_, _, rfl⟩
      have hno := fun hh => (HN.out k).trans ((congrArg (fun b => later b (one k n (rr k))) hb).trans (step_no hq hh))
      have hyes := fun (hx : x = 0) hh1 hh2 hh3 => (HN.out k).trans ((congrArg (fun b => later b (one k n (rr k))) hb).trans (step_yes (hx ▸ hq) hh1 hh2 hh3))
      rw [hq] at HT hgl
      simp only at HT hgl hno hyes
      have HNO := Lib.hid hno
      have HYE := Lib.hid hyes
      clear hno hyes hq hb
      by_cases hx : x = 0
      · by_cases hs : q0 % 2 = k
        · have HS := Lib.hid (fun w' => rslot_par q0 hgl k (by rw [hs]) w')
          by_cases hn : q4 = (n : Int)
          · by_cases hgt : b0 < q0
            · have hgt' : (b0 : Int) < (q0 : Int) := by omega
              have HB1 := Lib.hid (HYE.out hx hs hn hgt)
              clear HNO HYE hgl
              subst hx hn
              go_wp2_with fail
              refine (HR.out _ HP.out.box.below k hk2).mono ?_; rintro e w1 ⟨rfl, hb⟩
              have HP1 := Lib.hid (HP.out.later hb)
              clear hb HP
              go_wp2_with fail
              refine (HT.out _).mono ?_; rintro e w2 ⟨rfl, hb⟩
              have HF := Lib.hid ((HP1.out.later hb).later (below_box w2 (.cells #[.int .u64 q0, .int .u64 q1, .int .i64 q2, .int .i64 q3, .int .i64 (n : Nat)] 45)))
              obtain ⟨k0, k1, k2, k3, k4⟩ := is5 (Is.new w2 45 #[.int .u64 q0, .int .u64 q1, .int .i64 q2, .int .i64 q3, .int .i64 (n : Nat)])
              obtain ⟨y0, y1, y2, y3, y4⟩ := is5 HF.out.two
              obtain ⟨g0, g1⟩ := HC.out _ HF.out.box.below
              have f0 := HF.out.two.frozen 0; have f1 := HF.out.two.frozen 1; have f2 := HF.out.two.frozen 2; have f3 := HF.out.two.frozen 3; have f4 := HF.out.two.frozen 4
              have hlt := HF.out.two.lt
              clear hb HP1
              obtain ⟨wy, hwy⟩ : ∃ wy, w2.alloc (.cells #[.int .u64 q0, .int .u64 q1, .int .i64 q2, .int .i64 q3, .int .i64 (n : Nat)] 45) = wy := ⟨_, rfl⟩
              rw [hwy] at HF k0 k1 k2 k3 k4 y0 y1 y2 y3 y4 g0 g1 f0 f1 f2 f3 f4 hlt
              go_wp2_with fail
              go_quiet ((exact Calls.quiet_of_same ((HS.out _).mono fun _ _ hh => ⟨hh.1, hh.2.symm⟩)))
              go_wp2_with fail
              have HG : B2 w 45 #[.int .u64 0, .int .u64 0, .int .i64 0, .int .i64 0, .int .i64 0] X #[.int .u64 q0, .int .u64 q1, .int .i64 q2, .int .i64 q3, .int .i64 (n : Nat)] _ := ((((((HF.out).later ⟨rfl, rfl, rfl, Nat.le_refl _, fun _ _ => rfl⟩ : B2 w 45 #[.int .u64 0, .int .u64 0, .int .i64 0, .int .i64 0, .int .i64 0] X #[.int .u64 b0, .int .u64 b1, .int .i64 b2, .int .i64 b3, .int .i64 b4] (wy.drewN nq)).put 0 (.int .u64 q0)).put 1 (.int .u64 q1)).put 2 (.int .i64 q2)).put 3 (.int .i64 q3)).put 4 (.int .i64 (n : Nat))
              have HG2 := Lib.hid HG
              exact ⟨⟨k + 1, ⟨q0, q1, q2, q3, (n : Nat)⟩, by omega, by go_num, HB1.out, HG2.out⟩, by simp [intOf]; omega⟩
            · have hgt' : ¬ (b0 : Int) < (q0 : Int) := by omega
              have HB1 := Lib.hid (HNO.out fun _ _ _ => hgt)
              clear HNO HYE hgl
              subst hx hn
              go_wp2_with fail
              refine (HR.out _ HP.out.box.below k hk2).mono ?_; rintro e w1 ⟨rfl, hb⟩
              have HP1 := Lib.hid (HP.out.later hb)
              clear hb HP
              go_wp2_with fail
              refine (HT.out _).mono ?_; rintro e w2 ⟨rfl, hb⟩
              have HF := Lib.hid ((HP1.out.later hb).later (below_box w2 (.cells #[.int .u64 q0, .int .u64 q1, .int .i64 q2, .int .i64 q3, .int .i64 (n : Nat)] 45)))
              obtain ⟨k0, k1, k2, k3, k4⟩ := is5 (Is.new w2 45 #[.int .u64 q0, .int .u64 q1, .int .i64 q2, .int .i64 q3, .int .i64 (n : Nat)])
              obtain ⟨y0, y1, y2, y3, y4⟩ := is5 HF.out.two
              obtain ⟨g0, g1⟩ := HC.out _ HF.out.box.below
              have f0 := HF.out.two.frozen 0; have f1 := HF.out.two.frozen 1; have f2 := HF.out.two.frozen 2; have f3 := HF.out.two.frozen 3; have f4 := HF.out.two.frozen 4
              have hlt := HF.out.two.lt
              clear hb HP1
              obtain ⟨wy, hwy⟩ : ∃ wy, w2.alloc (.cells #[.int .u64 q0, .int .u64 q1, .int .i64 q2, .int .i64 q3, .int .i64 (n : Nat)] 45) = wy := ⟨_, rfl⟩
              rw [hwy] at HF k0 k1 k2 k3 k4 y0 y1 y2 y3 y4 g0 g1 f0 f1 f2 f3 f4 hlt
              go_wp2_with fail
              go_quiet ((exact Calls.quiet_of_same ((HS.out _).mono fun _ _ hh => ⟨hh.1, hh.2.symm⟩)))
              clear k0 k1 k2 k3 k4 y0 y1 y2 y3 y4 g0 g1 f0 f1 f2 f3 f4 hlt
              go_wp2_with fail
              exact ⟨⟨k + 1, ⟨b0, b1, b2, b3, b4⟩, by omega, by go_num, HB1.out, (HF.out).later ⟨rfl, rfl, rfl, Nat.le_refl _, fun _ _ => rfl⟩⟩, by simp [intOf]; omega⟩
          · have hn' : (q4 == (n : Int)) = false := by simpa using hn
            have HB1 := Lib.hid (HNO.out fun _ _ h => absurd h hn)
            clear HNO HYE hgl hn
            subst hx
            go_wp2_with fail
            refine (HR.out _ HP.out.box.below k hk2).mono ?_; rintro e w1 ⟨rfl, hb⟩
            have HP1 := Lib.hid (HP.out.later hb)
            clear hb HP
            go_wp2_with fail
            refine (HT.out _).mono ?_; rintro e w2 ⟨rfl, hb⟩
            have HF := Lib.hid ((HP1.out.later hb).later (below_box w2 (.cells #[.int .u64 q0, .int .u64 q1, .int .i64 q2, .int .i64 q3, .int .i64 q4] 45)))
            obtain ⟨k0, k1, k2, k3, k4⟩ := is5 (Is.new w2 45 #[.int .u64 q0, .int .u64 q1, .int .i64 q2, .int .i64 q3, .int .i64 q4])
            obtain ⟨y0, y1, y2, y3, y4⟩ := is5 HF.out.two
            obtain ⟨g0, g1⟩ := HC.out _ HF.out.box.below
            have f0 := HF.out.two.frozen 0; have f1 := HF.out.two.frozen 1; have f2 := HF.out.two.frozen 2; have f3 := HF.out.two.frozen 3; have f4 := HF.out.two.frozen 4
            have hlt := HF.out.two.lt
            clear hb HP1
            obtain ⟨wy, hwy⟩ : ∃ wy, w2.alloc (.cells #[.int .u64 q0, .int .u64 q1, .int .i64 q2, .int .i64 q3, .int .i64 q4] 45) = wy := ⟨_, rfl⟩
            rw [hwy] at HF k0 k1 k2 k3 k4 y0 y1 y2 y3 y4 g0 g1 f0 f1 f2 f3 f4 hlt
            go_wp2_with fail
            go_quiet ((exact Calls.quiet_of_same ((HS.out _).mono fun _ _ hh => ⟨hh.1, hh.2.symm⟩)))
            clear k0 k1 k2 k3 k4 y0 y1 y2 y3 y4 g0 g1 f0 f1 f2 f3 f4 hlt
            go_wp2_with fail
            exact ⟨⟨k + 1, ⟨b0, b1, b2, b3, b4⟩, by omega, by go_num, HB1.out, (HF.out).later ⟨rfl, rfl, rfl, Nat.le_refl _, fun _ _ => rfl⟩⟩, by simp [intOf]; omega⟩
        · have HS := Lib.hid (fun w' => rslot_par q0 hgl _ rfl w')
          have hs' : ((((q0 % 2 : Nat) : Int)) == (k : Int)) = false := by simp only [beq_eq_false_iff_ne, ne_eq]; omega
          have HB1 := Lib.hid (HNO.out fun _ h _ => absurd h hs)
          clear HNO HYE hgl hs
          subst hx
          generalize ((q0 % 2 : Nat) : Int) = m at HS hs'
          go_wp2_with fail
          refine (HR.out _ HP.out.box.below k hk2).mono ?_; rintro e w1 ⟨rfl, hb⟩
          have HP1 := Lib.hid (HP.out.later hb)
          clear hb HP
          go_wp2_with fail
          refine (HT.out _).mono ?_; rintro e w2 ⟨rfl, hb⟩
          have HF := Lib.hid ((HP1.out.later hb).later (below_box w2 (.cells #[.int .u64 q0, .int .u64 q1, .int .i64 q2, .int .i64 q3, .int .i64 q4] 45)))
          obtain ⟨k0, k1, k2, k3, k4⟩ := is5 (Is.new w2 45 #[.int .u64 q0, .int .u64 q1, .int .i64 q2, .int .i64 q3, .int .i64 q4])
          obtain ⟨y0, y1, y2, y3, y4⟩ := is5 HF.out.two
          obtain ⟨g0, g1⟩ := HC.out _ HF.out.box.below
          have f0 := HF.out.two.frozen 0; have f1 := HF.out.two.frozen 1; have f2 := HF.out.two.frozen 2; have f3 := HF.out.two.frozen 3; have f4 := HF.out.two.frozen 4
          have hlt := HF.out.two.lt
          clear hb HP1
          obtain ⟨wy, hwy⟩ : ∃ wy, w2.alloc (.cells #[.int .u64 q0, .int .u64 q1, .int .i64 q2, .int .i64 q3, .int .i64 q4] 45) = wy := ⟨_, rfl⟩
          rw [hwy] at HF k0 k1 k2 k3 k4 y0 y1 y2 y3 y4 g0 g1 f0 f1 f2 f3 f4 hlt
          go_wp2_with fail
          go_quiet ((exact Calls.quiet_of_same ((HS.out _).mono fun _ _ hh => ⟨hh.1, hh.2.symm⟩)))
          clear k0 k1 k2 k3 k4 y0 y1 y2 y3 y4 g0 g1 f0 f1 f2 f3 f4 hlt
          go_wp2_with fail
          exact ⟨⟨k + 1, ⟨b0, b1, b2, b3, b4⟩, by omega, by go_num, HB1.out, (HF.out).later ⟨rfl, rfl, rfl, Nat.le_refl _, fun _ _ => rfl⟩⟩, by simp [intOf]; omega⟩
      · have hx' : (x == 0) = false := by simpa using hx
        have HB1 := Lib.hid (HNO.out fun h _ _ => absurd h hx)
        clear HNO HYE hgl hx
        go_wp2_with fail
        refine (HR.out _ HP.out.box.below k hk2).mono ?_; rintro e w1 ⟨rfl, hb⟩
        have HP1 := Lib.hid (HP.out.later hb)
        clear hb HP
        go_wp2_with fail
        refine (HT.out _).mono ?_; rintro e w2 ⟨rfl, hb⟩
        have HF := Lib.hid ((HP1.out.later hb).later (below_box w2 (.cells #[.int .u64 q0, .int .u64 q1, .int .i64 q2, .int .i64 q3, .int .i64 q4] 45)))
        obtain ⟨k0, k1, k2, k3, k4⟩ := is5 (Is.new w2 45 #[.int .u64 q0, .int .u64 q1, .int .i64 q2, .int .i64 q3, .int .i64 q4])
        obtain ⟨y0, y1, y2, y3, y4⟩ := is5 HF.out.two
        obtain ⟨g0, g1⟩ := HC.out _ HF.out.box.below
        have f0 := HF.out.two.frozen 0; have f1 := HF.out.two.frozen 1; have f2 := HF.out.two.frozen 2; have f3 := HF.out.two.frozen 3; have f4 := HF.out.two.frozen 4
        have hlt := HF.out.two.lt
        clear hb HP1
        obtain ⟨wy, hwy⟩ : ∃ wy, w2.alloc (.cells #[.int .u64 q0, .int .u64 q1, .int .i64 q2, .int .i64 q3, .int .i64 q4] 45) = wy := ⟨_, rfl⟩
        rw [hwy] at HF k0 k1 k2 k3 k4 y0 y1 y2 y3 y4 g0 g1 f0 f1 f2 f3 f4 hlt
        go_wp2_with fail
        go_quiet (fail)
        clear k0 k1 k2 k3 k4 y0 y1 y2 y3 y4 g0 g1 f0 f1 f2 f3 f4 hlt
        go_wp2_with fail
        exact ⟨⟨k + 1, ⟨b0, b1, b2, b3, b4⟩, by omega, by go_num, HB1.out, (HF.out).later ⟨rfl, rfl, rfl, Nat.le_refl _, fun _ _ => rfl⟩⟩, by simp [intOf]; omega⟩
    · obtain rfl : k = 2 := by omega
      have e := HE.out
      rw [hb] at e
      by_cases h : b0 = 0
      · simp only [h, if_true, S.none, Prod.mk.injEq, S.mk.injEq] at e
        obtain ⟨⟨rfl, rfl, rfl, rfl, rfl⟩, rfl⟩ := e
        have h' : (b0 : Int) = 0 := by omega
        obtain ⟨y0, y1, y2, y3, y4⟩ := is5 HP.out.two
        obtain ⟨k0, k1, k2, k3, k4⟩ := HP.out.box.c5
        have f0 := HP.out.box.one.frozen 0; have f1 := HP.out.box.one.frozen 1; have f2 := HP.out.box.one.frozen 2; have f3 := HP.out.box.one.frozen 3; have f4 := HP.out.box.one.frozen 4
        have hlt := HP.out.box.one.lt
        go_wp2_with fail
        have HF := Lib.hid (Box.five (a' := .int .u64 0) (b' := .int .u64 0) (c' := .int .i64 0) (d' := .int .i64 0) (e' := .int .i64 0) HP.out.box)
        obtain ⟨d0, d1, d2, d3, d4⟩ := HF.out.c5
        exact bodyPost_ret (v := .tuple #[.agg #[.int .u64 0, .int .u64 0, .int .i64 0, .int .i64 0, .int .i64 0], .int .i64 5]) (by simp [results, Tryz.results34, go_sem, d0, d1, d2, d3, d4, hlt]) rfl ⟨rfl, HF.out.below⟩
      · simp only [h, if_false, Prod.mk.injEq, S.mk.injEq] at e
        obtain ⟨⟨rfl, rfl, rfl, rfl, rfl⟩, rfl⟩ := e
        have h' : ¬ (b0 : Int) = 0 := by omega
        obtain ⟨y0, y1, y2, y3, y4⟩ := is5 HP.out.two
        obtain ⟨k0, k1, k2, k3, k4⟩ := HP.out.box.c5
        have f0 := HP.out.box.one.frozen 0; have f1 := HP.out.box.one.frozen 1; have f2 := HP.out.box.one.frozen 2; have f3 := HP.out.box.one.frozen 3; have f4 := HP.out.box.one.frozen 4
        have hlt := HP.out.box.one.lt
        go_wp2_with fail
        have HF := Lib.hid (Box.five (a' := .int .u64 b0) (b' := .int .u64 b1) (c' := .int .i64 b2) (d' := .int .i64 b3) (e' := .int .i64 b4) HP.out.box)
        obtain ⟨d0, d1, d2, d3, d4⟩ := HF.out.c5
        exact bodyPost_ret (v := .tuple #[.agg #[.int .u64 b0, .int .u64 b1, .int .i64 b2, .int .i64 b3, .int .i64 b4], .int .i64 0]) (by simp [results, Tryz.results34, go_sem, d0, d1, d2, d3, d4, hlt]) rfl ⟨rfl, HF.out.below⟩
theorem rchoose_err (G : Nat) (er : Int) (he : ¬ er = 0) (w : World)
    (HR : Hid (∀ wx, Below w.heap.size w wx → Calls Tryz.prog 61 #[.pointer (some ⟨G, 0, none⟩), .int .i64 0] wx fun e w' => e = .returned (.tuple #[.string ⟨#[]⟩, .int .i64 er]) ∧ Below wx.heap.size wx w')) :
    Calls Tryz.prog 34 #[.pointer (some ⟨G, 0, none⟩)] w fun e w' => e = .returned (.tuple #[.agg #[.int .u64 0, .int .u64 0, .int .i64 0, .int .i64 0, .int .i64 0], .int .i64 er]) ∧ Below w.heap.size w w' := by
  have H0 := Lib.hid ((Box.new w 45 #[.int .u64 0, .int .u64 0, .int .i64 0, .int .i64 0, .int .i64 0]).alloc (.cells #[.int .u64 0, .int .u64 0, .int .i64 0, .int .i64 0, .int .i64 0] 45))
  go_enter Tryz.func34, Tryz.ntmps34
  go_wp2_with fail
  go_loopw [5] (fun i wr => i = .int .i64 0 ∧ Box w 45 #[.int .u64 0, .int .u64 0, .int .i64 0, .int .i64 0, .int .i64 0] wr) (fun _ _ => 0)
  case atStart => exact ⟨rfl, H0.out⟩
  case round =>
    obtain ⟨rfl, hp⟩ := hrel
    have HP := Lib.hid hp
    clear hp H0
    go_wp2_with fail
    refine (HR.out _ HP.out.below).mono ?_; rintro e w1 ⟨rfl, hb⟩
    have HQ := Lib.hid (HP.out.later hb)
    clear hb
    obtain ⟨k0, k1, k2, k3, k4⟩ := HQ.out.c5
    have f0 := HQ.out.one.frozen 0; have f1 := HQ.out.one.frozen 1; have f2 := HQ.out.one.frozen 2; have f3 := HQ.out.one.frozen 3; have f4 := HQ.out.one.frozen 4
    have hlt := HQ.out.one.lt
    go_wp2_with fail
    have HF := Lib.hid (Box.five (a' := .int .u64 0) (b' := .int .u64 0) (c' := .int .i64 0) (d' := .int .i64 0) (e' := .int .i64 0) HQ.out)
    obtain ⟨d0, d1, d2, d3, d4⟩ := HF.out.c5
    exact bodyPost_ret (v := .tuple #[.agg #[.int .u64 0, .int .u64 0, .int .i64 0, .int .i64 0, .int .i64 0], .int .i64 er]) (by simp [results, Tryz.results34, go_sem, d0, d1, d2, d3, d4, hlt]) rfl ⟨rfl, HF.out.below⟩
end Go.Proofs.YtlidieffaaicaaaGreat
namespace Go.Proofs.YtlidieffaaicaaaGreat
open Go.ChangeShapes Go.WideShapes Go.RowKit Go.Codec Go.Super
set_option maxRecDepth 100000
set_option linter.unusedSimpArgs false
section
variable {W w : World} {G Bd g : Nat} {L : List Fu.Sc} {z : Int} {v : Value} {xs : List Int} {k : Nat}
theorem cel_of {L : List Fu.Sc} {i : Nat} {x : Fu.Cel} (h : (Fu.cels L)[i]? = some x) : ∃ y, L[i]? = some y ∧ y.cel = x := by
  unfold Fu.cels at h
  rw [List.getElem?_map] at h
  cases hy : L[i]? with
  | none => rw [hy] at h; simp at h
  | some y => rw [hy] at h; exact ⟨y, rfl, by simpa using h⟩
theorem cel_len (h : Fu.Small L) {i : Nat} {x : Fu.Cel} (hx : (Fu.cels L)[i]? = some x) : x.r.length = 128 := by
  obtain ⟨y, hy, rfl⟩ := cel_of hx
  obtain ⟨h1, h2⟩ := h i y hy
  obtain ⟨s, t, b⟩ := y
  simp only at h1 h2
  unfold Fu.Sc.cel Fu.Cel.r
  cases b
  · simp only [Bool.false_eq_true, if_false, Option.getD_none]
    exact Fu.full_len (by rw [← Lib.size_eq]; exact h1)
  · simp only [if_true, Option.getD_some]
    exact Fu.full_len (by rw [← Lib.size_eq]; exact h2)
theorem rchoose_up (h : Fu.Rl W w G Bd g L z v xs k false) {x0 x1 : Fu.Cel} (hx0 : (Fu.cels L)[0]? = some x0) (hx1 : (Fu.cels L)[1]? = some x1) :
    Calls Tryz.prog 34 #[.pointer (some ⟨G, 0, none⟩)] w fun e w' => e = .returned (.tuple #[.agg #[.int .u64 (choose L.length x0.r x1.r).1.gen, .int .u64 (choose L.length x0.r x1.r).1.calls, .int .i64 (choose L.length x0.r x1.r).1.root, .int .i64 (choose L.length x0.r x1.r).1.table, .int .i64 (choose L.length x0.r x1.r).1.secs], .int .i64 (choose L.length x0.r x1.r).2]) ∧ Below w.heap.size w w' := by
  have l0 := cel_len h.dev.small hx0
  have l1 := cel_len h.dev.small hx1
  obtain ⟨cap, hi⟩ := h.dev.one
  refine rchoose_go G Bd g cap L.length (fun k => if k = 0 then x0.r else x1.r) (fun k => by show (if k = 0 then x0.r else x1.r).length = 128; split <;> assumption)
    (fun k => Nat.rec S.none (fun k b => later b (one k L.length (if k = 0 then x0.r else x1.r))) k) rfl (fun k => rfl) _ _ rfl w (Lib.hid fun wx hb => ?_) (Lib.hid fun wx hb k hk => ?_)
  · refine ⟨(h.below hb).cells.1, ?_⟩
    have hj : Is w Bd 68 #[.slice (some ⟨g, 0, none⟩) L.length cap] := hi
    rw [(is_below hj hb).cell 0]
    rfl
  · obtain rfl | rfl : k = 0 ∨ k = 1 := by omega
    · obtain ⟨y, hy, rfl⟩ := cel_of hx0
      exact Fu.rlread_up (h.below hb) _ _ _ (Fu.rread_in (h.below hb).dev hy)
    · obtain ⟨y, hy, rfl⟩ := cel_of hx1
      exact Fu.rlread_up (h.below hb) _ _ _ (Fu.rread_in (h.below hb).dev hy)
theorem rchoose_cut (h : Fu.Rl W w G Bd g L z v xs k true) :
    Calls Tryz.prog 34 #[.pointer (some ⟨G, 0, none⟩)] w fun e w' => e = .returned (.tuple #[.agg #[.int .u64 0, .int .u64 0, .int .i64 0, .int .i64 0, .int .i64 0], .int .i64 8]) ∧ Below w.heap.size w w' :=
  rchoose_err G 8 (by decide) w (Lib.hid fun wx hb => (Fu.rlread_cut (h.below hb) 0).mono fun _ _ ⟨h1, h2⟩ => ⟨h1, h2 ▸ Below.refl _ _⟩)
end
theorem rwrite_no (v : Value) (s : S) (hg : s.gen < 18446744073709551616) (hc : s.calls < 18446744073709551616) (hs : ¬ s.Ok) (w : World) : Calls Tryz.prog 16 #[v, .agg #[.int .u64 s.gen, .int .u64 s.calls, .int .i64 s.root, .int .i64 s.table, .int .i64 s.secs]] w fun e w' => e = .returned (.int .i64 4) ∧ Below w.heap.size w w' := by
  have HP := Lib.hid (fun w' => rput_c s hg hc w')
  have e : put s = ([], 4) := if_neg hs
  rw [e] at HP
  obtain ⟨g, c, r, t, n⟩ := s
  simp only at HP ⊢
  generalize bs [] = q at *
  clear e hs hg hc
  have HX := Lib.hid (Box.new w 45 #[.int .u64 g, .int .u64 c, .int .i64 r, .int .i64 t, .int .i64 n])
  obtain ⟨c0, c1, c2, c3, c4⟩ := HX.out.c5
  go_enter Tryz.func16, Tryz.ntmps16
  go_wp2_with fail
  refine (HP.out _).mono ?_; rintro e w1 ⟨rfl, hb⟩
  have HA := Lib.hid (HX.out.later hb)
  clear hb c0 c1 c2 c3 c4
  go_wp2_with fail
  go_ret
  exact ⟨rfl, HA.out.below⟩
theorem rwrite_by (v : Value) (s : S) (hg : s.gen < 18446744073709551616) (hc : s.calls < 18446744073709551616) (hs : s.Ok) (er : Int) (P : World → Prop) (w : World)
    (H : ∀ wx, Below w.heap.size w wx → Calls Tryz.prog 38 #[v, .int .i64 (s.gen % 2 : Nat), .string (bs (put s).1)] wx fun e w' => e = .returned (.int .i64 er) ∧ P w') :
    Calls Tryz.prog 16 #[v, .agg #[.int .u64 s.gen, .int .u64 s.calls, .int .i64 s.root, .int .i64 s.table, .int .i64 s.secs]] w fun e w' => e = .returned (.int .i64 er) ∧ P w' := by
  have HP := Lib.hid (fun w' => rput_c s hg hc w')
  have e : (put s).2 = 0 := by unfold put; rw [if_pos hs]
  rw [e] at HP
  have HW := Lib.hid H
  obtain ⟨g, c, r, t, n⟩ := s
  simp only at HP HW hg ⊢
  generalize bs (put ⟨g, c, r, t, n⟩).1 = q at *
  have HS := Lib.hid (fun w' => rslot_par g hg _ rfl w')
  generalize ((g % 2 : Nat) : Int) = m at *
  clear e hs H hg hc
  have HX := Lib.hid (Box.new w 45 #[.int .u64 g, .int .u64 c, .int .i64 r, .int .i64 t, .int .i64 n])
  obtain ⟨c0, c1, c2, c3, c4⟩ := HX.out.c5
  go_enter Tryz.func16, Tryz.ntmps16
  go_wp2_with fail
  refine (HP.out _).mono ?_; rintro e w1 ⟨rfl, hb⟩
  have HA := Lib.hid (HX.out.later hb)
  clear hb c0 c1 c2 c3 c4
  obtain ⟨c0, c1, c2, c3, c4⟩ := HA.out.c5
  go_wp2_with fail
  refine (HS.out _).mono ?_; rintro e w2 ⟨rfl, rfl⟩
  go_wp2_with fail
  refine (HW.out _ HA.out.below).mono ?_; rintro e w3 ⟨rfl, hp⟩
  go_wp2_with fail
  go_ret
  exact ⟨rfl, hp⟩
section
variable {W w : World} {G Bd g : Nat} {L : List Fu.Sc} {z : Int} {v : Value} {xs : List Int} {k : Nat}
theorem rwrite_up (hW : W.heap.size ≤ w.heap.size) (h : Fu.Rl W w G Bd g L z v xs k false) (hk : k < 1000000) (s : S) (hg : s.gen < 18446744073709551616) (hc : s.calls < 18446744073709551616) (hs : s.Ok) (hlo : 512 ≤ L.length) :
    Calls Tryz.prog 16 #[.pointer (some ⟨G, 0, none⟩), .agg #[.int .u64 s.gen, .int .u64 s.calls, .int .i64 s.root, .int .i64 s.table, .int .i64 s.secs]] w fun e w' => e = .returned (.int .i64 (if (k : Int) = z then 8 else 0)) ∧ ∃ L', Fu.cels L' = Fu.aft (Fu.cels L) (Fu.wrS (Fu.cels L) (s.gen % 2) (put s).1) xs z k ∧ Fu.Rl W w' G Bd g L' z v xs (k + 1) (decide ((k : Int) = z)) ∧ Fu.Kp w w' [G, g] := by
  refine rwrite_by _ s hg hc hs _ _ w (fun wx hb => ?_)
  have hl := put_length s hs
  have h0 : Fu.ck (Fu.cels L).length ((s.gen % 2 : Nat) : Int) = 0 := Fu.ck_in (by rw [Fu.cels_len]; omega)
  have he : Fu.errW (Fu.cels L) ((s.gen % 2 : Nat) : Int) (bs (put s).1) = 0 := by
    unfold Fu.errW
    rw [h0, if_neg (by decide), if_neg (by rw [bs_size, hl]; decide)]
  have hw : Fu.stW (Fu.cels L) ((s.gen % 2 : Nat) : Int) (bs (put s).1) = Fu.wrS (Fu.cels L) (s.gen % 2) (put s).1 := by
    unfold Fu.stW
    rw [if_pos he, bs_list, Int.toNat_natCast]
  refine (Fu.rlwrite_up (Nat.le_trans hW hb.size) (h.below hb) hk _ _).mono ?_
  rintro e w' ⟨rfl, L', h1, h2, h3⟩
  rw [he]
  rw [hw] at h1
  exact ⟨rfl, L', h1, h2, Fu.grow_kp hb h3⟩
end
/-- Both choose alike. -/
theorem chosen_c (v u : Value) (s : S) (er : Int) (w : World)
    (HA : Hid (∀ wx, Below w.heap.size w wx → Calls Tryz.prog 22 #[v] wx fun e w' => e = .returned (.tuple #[.agg #[.int .u64 s.gen, .int .u64 s.calls, .int .i64 s.root, .int .i64 s.table, .int .i64 s.secs], .int .i64 er]) ∧ Below wx.heap.size wx w'))
    (HB : Hid (∀ wx, Below w.heap.size w wx → Calls Tryz.prog 34 #[u] wx fun e w' => e = .returned (.tuple #[.agg #[.int .u64 s.gen, .int .u64 s.calls, .int .i64 s.root, .int .i64 s.table, .int .i64 s.secs], .int .i64 er]) ∧ Below wx.heap.size wx w')) :
    Calls Tryz.prog 14 #[v, u] w fun e w' => e = .returned (.bool true) ∧ Below w.heap.size w w' := by
  obtain ⟨g, c, r, t, n⟩ := s
  simp only at HA HB
  have H0 : Hid (Below w.heap.size w w) := Lib.hid (Below.refl _ _)
  go_enter Tryz.func14, Tryz.ntmps14
  go_wp2_with fail
  refine (HA.out _ H0.out).mono ?_; rintro e w1 ⟨rfl, hb⟩
  have H1 := Lib.hid ((hb.trans ((below_box w1 (.cells #[.int .u64 g, .int .u64 c, .int .i64 r, .int .i64 t, .int .i64 n] 28)).mono hb.size)))
  have hi := Lib.hid (Is.new w1 28 #[.int .u64 g, .int .u64 c, .int .i64 r, .int .i64 t, .int .i64 n])
  clear hb
  go_wp2_with fail
  refine (HB.out _ H1.out).mono ?_; rintro e w2 ⟨rfl, hb⟩
  have hj := (is_below hi.out hb).alloc (.cells #[.int .u64 g, .int .u64 c, .int .i64 r, .int .i64 t, .int .i64 n] 45)
  have hh := H1.out.trans (hb.mono H1.out.size)
  have H2 := Lib.hid (hh.trans ((below_box w2 (.cells #[.int .u64 g, .int .u64 c, .int .i64 r, .int .i64 t, .int .i64 n] 45)).mono hh.size))
  obtain ⟨c0, c1, c2, c3, c4⟩ := is5 hj
  obtain ⟨d0, d1, d2, d3, d4⟩ := is5 (Is.new w2 45 #[.int .u64 g, .int .u64 c, .int .i64 r, .int .i64 t, .int .i64 n])
  clear hj hh hb hi
  go_wp2_with fail
  go_ret
  exact ⟨rfl, H2.out⟩
end Go.Proofs.YtlidieffaaicaaaGreat
namespace Go.Proofs.YtlidieffaaicaaaGreat
open Go.ChangeShapes Go.WideShapes Go.RowKit Go.Codec Go.Super
set_option maxRecDepth 100000
set_option linter.unusedSimpArgs false
/-- Both devices, of the call's own. -/
structure J0 (W w : World) (B b c : Nat) (st : List Fu.Cel) (Bd g : Nat) (L : List Fu.Sc) : Prop where
  own : Fu.Own W w B b c st
  rv : Fu.Rv w Bd g L
  new : W.heap.size ≤ Bd ∧ W.heap.size ≤ g
section
variable {W w w' : World} {B b c Bd g : Nat} {st st' : List Fu.Cel} {L L' : List Fu.Sc}
theorem J0.later (h : J0 W w B b c st Bd g L) (hb : Below w.heap.size w w') : J0 W w' B b c st Bd g L := ⟨h.own.later hb, h.rv.below hb, h.new⟩
theorem J0.stepA (h : J0 W w B b c st Bd g L) (hd : Fu.Dv w' B b c st') (hk : Fu.Kp w w' [b, c]) : J0 W w' B b c st' Bd g L := by
  obtain ⟨cap, hi⟩ := h.rv.one
  obtain ⟨cur, hj, _⟩ := h.rv.row
  have hm2 := Fu.Is.nomap hi h.own.dev
  have hm3 := Fu.Is.nomap hj h.own.dev
  exact ⟨h.own.step hd hk (by simp), h.rv.kept hk (by simp; omega) (by simp; omega), h.new⟩
theorem J0.stepB (h : J0 W w B b c st Bd g L) (hd : Fu.Rv w' Bd g L') (hk : Fu.Kp w w' [g]) : J0 W w' B b c st Bd g L' := by
  obtain ⟨cur, hj, _⟩ := h.rv.row
  have hm3 := Fu.Is.nomap hj h.own.dev
  have hB := Fu.Is.ne hj h.own.dev.one (by decide)
  have hn := h.new
  exact ⟨⟨h.own.dev.kept hk (by simp; omega) (by simp; omega) (by simp; omega), h.own.below.trans (hk.below h.own.below.size (by simp; omega)), h.own.new⟩, hd, h.new⟩
theorem J0.writeA (h : J0 W w B b c st Bd g L) (i : Int) (s : ByteArray) : Calls Tryz.prog 9 #[.pointer (some ⟨B, 0, none⟩), .int .i64 i, .string s] w fun e w' => (∃ x, e = .returned (.int .i64 x)) ∧ J0 W w' B b c (Fu.stW st i s) Bd g L := by
  refine (Fu.write_any h.own.dev i s).mono ?_
  rintro e w' ⟨rfl, hd, hk⟩
  exact ⟨⟨_, rfl⟩, h.stepA hd hk⟩
theorem J0.writeB (h : J0 W w B b c st Bd g L) (i : Int) (s : ByteArray) : Calls Tryz.prog 10 #[.pointer (some ⟨Bd, 0, none⟩), .int .i64 i, .string s] w fun e w' => (∃ x, e = .returned (.int .i64 x)) ∧ ∃ L', Fu.cels L' = Fu.stW (Fu.cels L) i s ∧ J0 W w' B b c st Bd g L' := by
  refine (Fu.rwrite_any h.rv i s).mono ?_
  rintro e w' ⟨rfl, L', hL, hd, hk⟩
  exact ⟨⟨_, rfl⟩, L', hL, h.stepB hd hk⟩
theorem J0.barA (h : J0 W w B b c st Bd g L) : Calls Tryz.prog 11 #[.pointer (some ⟨B, 0, none⟩)] w fun e w' => e = .returned (.tuple #[]) ∧ J0 W w' B b c (Fu.bar st) Bd g L := by
  refine (Fu.barrier_yes h.own.dev).mono ?_
  rintro e w' ⟨rfl, hd, hk⟩
  exact ⟨rfl, h.stepA hd hk⟩
theorem J0.barB (h : J0 W w B b c st Bd g L) : Calls Tryz.prog 12 #[.pointer (some ⟨Bd, 0, none⟩)] w fun e w' => e = .returned (.tuple #[]) ∧ ∃ L', Fu.cels L' = Fu.bar (Fu.cels L) ∧ J0 W w' B b c st Bd g L' := by
  refine (Fu.rbarrier_any h.rv).mono ?_
  rintro e w' ⟨rfl, L', hL, hd, hk⟩
  exact ⟨rfl, L', hL, h.stepB hd hk⟩
end
theorem sw_kept {w w' : World} {F T : Nat} {u : Value} {xs : List Int} {X : List Nat} (h : Fu.Sw w F u xs) (uo : ∀ y, u.ownBlock = some y → T ≤ y) (hk : Fu.Kp w w' X) (hX : ∀ y ∈ X, y < T ∨ F ≤ y) : Fu.Sw w' F u xs := by
  obtain ⟨a, c, rfl, hx⟩ := h
  refine ⟨a, c, rfl, fun j x hj => ?_⟩
  obtain ⟨ad, e, hlt, hc⟩ := hx j x hj
  refine ⟨ad, e, hlt, ?_⟩
  subst e
  have hb : (ad.add j).block < w.heap.size := World.block_lt_of_cell? w _ hc
  have hT := uo ad.block rfl
  have he : (ad.add j).block = ad.block := by unfold Addr.add; split <;> rfl
  have hn : (ad.add j).block ∉ X := fun hm => by
    rcases hX _ hm with h1 | h1
    · omega
    · omega
  unfold World.cell? at hc ⊢
  rw [hk.block _ hb hn]
  exact hc
/-- Both lines, of the call's own. -/
structure Jz (W w : World) (F B b c : Nat) (st : List Fu.Cel) (k : Nat) (cut : Bool) (G Bd g : Nat) (L : List Fu.Sc) (k2 : Nat) (cut2 : Bool) (z : Int) (u v : Value) (xs : List Int) (T : Nat) : Prop where
  lo : Fu.Lo W w F B b c st z u xs k cut
  rl : Fu.Rl W w G Bd g L z v xs k2 cut2
  lt : F < G
  gt : Bd < T ∧ g < T
  uo : ∀ y, u.ownBlock = some y → T ≤ y
section
variable {W w w' : World} {F B b c G Bd g T : Nat} {st st' : List Fu.Cel} {L L' : List Fu.Sc} {z : Int} {u v : Value} {xs : List Int} {k k' k2 k2' : Nat} {cut cut' cut2 cut2' : Bool}
theorem Jz.later (h : Jz W w F B b c st k cut G Bd g L k2 cut2 z u v xs T) (hb : Below w.heap.size w w') : Jz W w' F B b c st k cut G Bd g L k2 cut2 z u v xs T := ⟨h.lo.later hb, h.rl.below hb, h.lt, h.gt, h.uo⟩
theorem Jz.stepA (h : Jz W w F B b c st k cut G Bd g L k2 cut2 z u v xs T) (hl : Fu.Ln w' F B b c st' z u xs k' cut') (hk : Fu.Kp w w' [F, b, c]) : Jz W w' F B b c st' k' cut' G Bd g L k2 cut2 z u v xs T := by
  have hm := Fu.Is.nomap h.rl.one h.lo.ln.dev
  obtain ⟨cap, hi⟩ := h.rl.dev.one
  obtain ⟨cur, hj, _⟩ := h.rl.dev.row
  have hm2 := Fu.Is.nomap hi h.lo.ln.dev
  have hm3 := Fu.Is.nomap hj h.lo.ln.dev
  have e1 := Fu.Is.ne h.rl.one h.lo.ln.one (by decide)
  have e2 := Fu.Is.ne hi h.lo.ln.one (by decide)
  have e3 := Fu.Is.ne hj h.lo.ln.one (by decide)
  have hn := h.lo.new
  exact ⟨h.lo.step hl hk, h.rl.kept hk (by simp; omega) (by simp; omega) (by simp; omega) (by simp; omega), h.lt, h.gt, h.uo⟩
theorem Jz.stepB (h : Jz W w F B b c st k cut G Bd g L k2 cut2 z u v xs T) (hl : Fu.Rl W w' G Bd g L' z v xs k2' cut2') (hk : Fu.Kp w w' [G, g]) : Jz W w' F B b c st k cut G Bd g L' k2' cut2' z u v xs T := by
  have hm := Fu.Is.nomap h.rl.one h.lo.ln.dev
  obtain ⟨cur, hj, _⟩ := h.rl.dev.row
  have hm3 := Fu.Is.nomap hj h.lo.ln.dev
  have hB1 := Fu.Is.ne h.rl.one h.lo.ln.dev.one (by decide)
  have hB2 := Fu.Is.ne hj h.lo.ln.dev.one (by decide)
  have e3 := Fu.Is.ne hj h.lo.ln.one (by decide)
  have hlt := h.lt
  have hgt := h.gt
  have hn := h.rl.new
  exact ⟨⟨⟨hk.is h.lo.ln.one (by simp; omega), h.lo.ln.dev.kept hk (by simp; omega) (by simp; omega) (by simp; omega), sw_kept h.lo.ln.ch h.uo hk (fun y hy => by simp at hy; omega), h.lo.ln.ne⟩, h.lo.below.trans (hk.below h.lo.below.size (by simp; omega)), h.lo.new⟩, hl, h.lt, h.gt, h.uo⟩
/-- Both lines choose alike. -/
theorem chosen_ln {F2 G2 : Nat} {z1 z2 : Int} {u1 v1 : Value} {xs1 xs2 : List Int} {k1 : Nat} (hl : Fu.Ln w F2 B b c st z1 u1 xs1 k cut) (hr : Fu.Rl W w G2 Bd g L z2 v1 xs2 k1 cut) (hc : Fu.cels L = st) :
    Calls Tryz.prog 14 #[.pointer (some ⟨F2, 0, none⟩), .pointer (some ⟨G2, 0, none⟩)] w fun e w' => e = .returned (.bool true) ∧ Below w.heap.size w w' := by
  cases cut with
  | true => exact chosen_c _ _ S.none 8 w (Lib.hid fun wx hb => choose_cut (hl.below hb)) (Lib.hid fun wx hb => rchoose_cut (hr.below hb))
  | false =>
    have hlen : st.length = L.length := by rw [← hc, Fu.cels_len]
    have hlo := hl.dev.lo
    obtain ⟨x0, h0⟩ : ∃ x, st[0]? = some x := ⟨_, List.getElem?_eq_getElem (by omega)⟩
    obtain ⟨x1, h1⟩ : ∃ x, st[1]? = some x := ⟨_, List.getElem?_eq_getElem (by omega)⟩
    refine chosen_c _ _ (choose st.length x0.r x1.r).1 (choose st.length x0.r x1.r).2 w (Lib.hid fun wx hb => choose_up (hl.below hb) h0 h1) (Lib.hid fun wx hb => ?_)
    rw [hlen]
    exact rchoose_up (hr.below hb) (by rw [hc]; exact h0) (by rw [hc]; exact h1)
/-- The first Write of both. -/
theorem Jz.write (h : Jz W w F B b c st 0 false G Bd g L 0 false z u v xs T) (hc : Fu.cels L = st) (s : S) (hg : s.gen < 18446744073709551616) (hca : s.calls < 18446744073709551616) :
    ∃ (E : Int) (st' : List Fu.Cel) (k' : Nat) (cut' : Bool), k' ≤ 1 ∧
      Calls Tryz.prog 15 #[.pointer (some ⟨F, 0, none⟩), .agg #[.int .u64 s.gen, .int .u64 s.calls, .int .i64 s.root, .int .i64 s.table, .int .i64 s.secs]] w (fun e w' => e = .returned (.int .i64 E) ∧ Jz W w' F B b c st' k' cut' G Bd g L 0 false z u v xs T) ∧
      ∀ wy, Jz W wy F B b c st' k' cut' G Bd g L 0 false z u v xs T →
        Calls Tryz.prog 16 #[.pointer (some ⟨G, 0, none⟩), .agg #[.int .u64 s.gen, .int .u64 s.calls, .int .i64 s.root, .int .i64 s.table, .int .i64 s.secs]] wy (fun e w' => e = .returned (.int .i64 E) ∧ ∃ L', Fu.cels L' = st' ∧ Jz W w' F B b c st' k' cut' G Bd g L' k' cut' z u v xs T) := by
  by_cases hs : s.Ok
  · refine ⟨if ((0 : Nat) : Int) = z then 8 else 0, Fu.aft st (Fu.wrS st (s.gen % 2) (put s).1) xs z 0, 1, decide (((0 : Nat) : Int) = z), Nat.le_refl 1, (write_up h.lo.ln (by decide) s hs).mono ?_, fun wy hy => (rwrite_up hy.lo.below.size hy.rl (by decide) s hg hca hs ?_).mono ?_⟩
    · rintro e w' ⟨rfl, hl, hk⟩
      exact ⟨rfl, h.stepA hl hk⟩
    · have := h.lo.ln.dev.lo
      rw [← hc, Fu.cels_len] at this
      exact this
    · rintro e w' ⟨rfl, L', hL, hl, hk⟩
      exact ⟨rfl, L', by rw [hL, hc], hy.stepB hl hk⟩
  · refine ⟨4, st, 0, false, by decide, (write_no _ s hs w).mono ?_, fun wy hy => (rwrite_no _ s hg hca hs wy).mono ?_⟩
    · rintro e w' ⟨rfl, hb⟩
      exact ⟨rfl, h.later hb⟩
    · rintro e w' ⟨rfl, hb⟩
      exact ⟨rfl, L, hc, hy.later hb⟩
/-- Both lines are blown. -/
theorem Jz.blow (h : Jz W w F B b c st k cut G Bd g L k2 cut z u v xs T) (hc : Fu.cels L = st) :
    ∃ st', Calls Tryz.prog 18 #[.pointer (some ⟨F, 0, none⟩)] w (fun e w' => e = .returned (.tuple #[]) ∧ Jz W w' F B b c st' k true G Bd g L k2 cut z u v xs T) ∧
      ∀ wy, Jz W wy F B b c st' k true G Bd g L k2 cut z u v xs T →
        Calls Tryz.prog 19 #[.pointer (some ⟨G, 0, none⟩)] wy (fun e w' => e = .returned (.tuple #[]) ∧ ∃ L', Fu.cels L' = st' ∧ Jz W w' F B b c st' k true G Bd g L' k2 true z u v xs T) := by
  cases cut with
  | true =>
    refine ⟨st, (Fu.blow_down h.lo.ln).mono ?_, fun wy hy => (Fu.rblow_cut hy.rl).mono ?_⟩
    · rintro e w' ⟨rfl, rfl⟩
      exact ⟨rfl, h⟩
    · rintro e w' ⟨rfl, rfl⟩
      exact ⟨rfl, L, hc, hy⟩
  | false =>
    refine ⟨Fu.crash st xs, (Fu.blow_up h.lo.ln).mono ?_, fun wy hy => (Fu.rblow_up hy.lo.below.size hy.rl).mono ?_⟩
    · rintro e w' ⟨rfl, hl, hk⟩
      exact ⟨rfl, h.stepA hl hk⟩
    · rintro e w' ⟨rfl, L', hL, hl, hk⟩
      exact ⟨rfl, L', by rw [hL, hc], hy.stepB hl hk⟩
end
end Go.Proofs.YtlidieffaaicaaaGreat
namespace Go.Proofs.YtlidieffaaicaaaGreat
open Go.ChangeShapes Go.WideShapes Go.RowKit Go.Codec Go.Super
set_option maxRecDepth 100000
set_option linter.unusedSimpArgs false
theorem newN (n : Nat) (h0 : 512 ≤ n) (h1 : n ≤ 4096) (w : World) : Calls Tryz.prog 7 #[.int .i64 (n : Nat)] w fun e w' => ∃ B b c, e = .returned (.pointer (some ⟨B, 0, none⟩)) ∧ Fu.Own w w' B b c (Fu.fresh n) := by
  refine (Fu.new_any n w).mono ?_
  rintro e w' ⟨v, rfl, h⟩
  cases h with
  | none h hw => omega
  | some m B bs bw hn h0 h1 hd hB hb =>
    obtain rfl : n = m := by omega
    exact ⟨B, bs, bw, rfl, hd, hb, hB⟩
theorem rnewN (n : Nat) (h0 : 512 ≤ n) (h1 : n ≤ 4096) (w : World) : Calls Tryz.prog 8 #[.int .i64 (n : Nat)] w fun e w' => ∃ B g, e = .returned (.pointer (some ⟨B, 0, none⟩)) ∧ Fu.Rv w' B g (List.replicate n Fu.sc0) ∧ (w.heap.size ≤ B ∧ w.heap.size ≤ g) ∧ Below w.heap.size w w' := by
  refine (Fu.rnew_any n w).mono ?_
  rintro e w' ⟨v, rfl, h⟩
  cases h with
  | none h hw => omega
  | some m B g hn h0 h1 hd hB hb =>
    obtain rfl : n = m := by omega
    exact ⟨B, g, rfl, hd, hB, hb⟩
theorem tm100 (n : Nat) : Int.tmod (n : Int) 100 = ((n % 100 : Nat) : Int) := by
  rw [Int.tmod_eq_emod_of_nonneg (by omega)]; omega
set_option maxHeartbeats 8000000 in
theorem chooses_c (m : Nat) (s0 s1 : ByteArray) (z : Int) (v : Value) (xs : List Int) (s : S) (hg : s.gen < 18446744073709551616) (hca : s.calls < 18446744073709551616) (w : World) (hv : Fu.Sw w w.heap.size v xs) :
    Calls Tryz.prog 3 #[.agg #[.int .u8 (m : Nat), .string s0, .string s1, .int .i64 z, v], .agg #[.int .u64 s.gen, .int .u64 s.calls, .int .i64 s.root, .int .i64 s.table, .int .i64 s.secs]] w fun e w' => e = .returned (.bool true) ∧ Below w.heap.size w w' := by
  have HWk := Lib.hid works_c
  obtain ⟨a, cp, rfl, hx⟩ : ∃ a c, v = .slice a xs.length c ∧ ∀ j x, xs[j]? = some x → ∃ ad, a = some ad ∧ (ad.add j).block < w.heap.size ∧ w.cell? (ad.add j) = some (.int .i64 x) := hv
  obtain ⟨nx, hnx⟩ : ∃ nx, xs.length = nx := ⟨_, rfl⟩
  rw [hnx]
  obtain ⟨W, eW⟩ : ∃ W, (w.alloc (.cells #[.int .u8 (m : Nat), .string s0, .string s1, .int .i64 z, .slice a nx cp] 25)).alloc (.cells #[.int .u64 s.gen, .int .u64 s.calls, .int .i64 s.root, .int .i64 s.table, .int .i64 s.secs] 28) = W := ⟨_, rfl⟩
  have hbW : Below w.heap.size w W := by
    rw [← eW]
    have h1 := below_box w (.cells #[.int .u8 (m : Nat), .string s0, .string s1, .int .i64 z, .slice a nx cp] 25)
    exact h1.trans ((below_box _ _).mono h1.size)
  have hsz : w.heap.size + 2 = W.heap.size := by rw [← eW]; simp
  have hvW : Fu.Sw W W.heap.size (.slice a nx cp) xs := by
    refine ⟨a, cp, by rw [hnx], fun j x hj => ?_⟩
    obtain ⟨ad, e, h1, h2⟩ := hx j x hj
    exact ⟨ad, e, by omega, (hbW.cell (p := ad.add j) h1).trans h2⟩
  have hi : Is W w.heap.size 25 #[.int .u8 (m : Nat), .string s0, .string s1, .int .i64 z, .slice a nx cp] := by
    rw [← eW]; exact (Is.new _ _ _).alloc _
  have hj : Is W (w.heap.size + 1) 28 #[.int .u64 s.gen, .int .u64 s.calls, .int .i64 s.root, .int .i64 s.table, .int .i64 s.secs] := by
    have := Is.new (w.alloc (.cells #[.int .u8 (m : Nat), .string s0, .string s1, .int .i64 z, .slice a nx cp] 25)) 28 #[.int .u64 s.gen, .int .u64 s.calls, .int .i64 s.root, .int .i64 s.table, .int .i64 s.secs]
    rw [eW] at this
    simpa using this
  have HX := Lib.hid (fun wx (hb : Below W.heap.size W wx) => is5 (is_below hi hb))
  have HY := Lib.hid (fun wx (hb : Below W.heap.size W wx) => is5 (is_below hj hb))
  have HV := Lib.hid hvW
  have HBW := Lib.hid hbW
  have HXL := Lib.hid hnx
  have H0 : Hid (Below W.heap.size W W) := Lib.hid (Below.refl _ _)
  have HS := Lib.hid (And.intro hg hca)
  clear hx hnx hbW hsz hvW hi hj hg hca
  obtain ⟨p, hp⟩ : ∃ p, w.heap.size = p := ⟨_, rfl⟩
  rw [hp] at HX HY
  obtain ⟨x0, x1, x2, x3, x4⟩ := HX.out _ H0.out
  go_enter Tryz.func3, Tryz.ntmps3
  by_cases b0 : (300 : Int) < (s0.size : Int)
  · go_wp2_with fail
    refine (HWk.out _).mono ?_; rintro e w1 ⟨rfl, hb⟩
    have HE := Lib.hid (HBW.out.trans (hb.mono HBW.out.size))
    clear hb
    go_wp2_with fail
    go_ret
    exact ⟨rfl, HE.out⟩
  · by_cases b1 : (300 : Int) < (s1.size : Int)
    · go_wp2_with fail
      refine (HWk.out _).mono ?_; rintro e w1 ⟨rfl, hb⟩
      have HE := Lib.hid (HBW.out.trans (hb.mono HBW.out.size))
      clear hb
      go_wp2_with fail
      go_ret
      exact ⟨rfl, HE.out⟩
    · by_cases b2 : (10 : Int) < (nx : Int)
      · go_wp2_with fail
        refine (HWk.out _).mono ?_; rintro e w1 ⟨rfl, hb⟩
        have HE := Lib.hid (HBW.out.trans (hb.mono HBW.out.size))
        clear hb
        go_wp2_with fail
        go_ret
        exact ⟨rfl, HE.out⟩
      · have t1 := tm100 m
        have m1 := Nat.mod_lt m (show 0 < 100 by decide)
        generalize m % 100 = y at t1 m1
        have HD : Hid (∀ wx, Calls Tryz.prog 7 #[.int .i64 (512 + (y : Int))] wx fun e w' => ∃ B b c, e = .returned (.pointer (some ⟨B, 0, none⟩)) ∧ Fu.Own wx w' B b c (Fu.fresh (512 + y))) := Lib.hid fun wx => by
          have := newN (512 + y) (by omega) (by omega) wx
          rwa [show ((512 + y : Nat) : Int) = 512 + (y : Int) from by omega] at this
        have HC : Hid (∀ wx, Calls Tryz.prog 8 #[.int .i64 (512 + (y : Int))] wx fun e w' => ∃ B g, e = .returned (.pointer (some ⟨B, 0, none⟩)) ∧ Fu.Rv w' B g (List.replicate (512 + y) Fu.sc0) ∧ (wx.heap.size ≤ B ∧ wx.heap.size ≤ g) ∧ Below wx.heap.size wx w') := Lib.hid fun wx => by
          have := rnewN (512 + y) (by omega) (by omega) wx
          rwa [show ((512 + y : Nat) : Int) = 512 + (y : Int) from by omega] at this
        go_wp2_with fail
        refine (HD.out _).mono ?_; rintro e w1 ⟨B, b, c, rfl, ho⟩
        have HO := Lib.hid ho
        clear ho HD
        go_wp2_with fail
        refine (HC.out _).mono ?_; rintro e w2 ⟨Bd, g, rfl, hrv, hnew, hb⟩
        have HJ0 : Hid (J0 W w2 B b c (Fu.fresh (512 + y)) Bd g (List.replicate (512 + y) Fu.sc0)) := Lib.hid ⟨HO.out.later hb, hrv, ⟨Nat.le_trans HO.out.below.size hnew.1, Nat.le_trans HO.out.below.size hnew.2⟩⟩
        clear HO HC hrv hnew hb x0 x1 x2 x3 x4 t1
        have HE0 := Lib.hid (Fu.cels_new (512 + y))
        generalize List.replicate (512 + y) Fu.sc0 = L0 at HJ0 HE0
        generalize Fu.fresh (512 + y) = st0 at HJ0 HE0
        go_wp2_with fail
        go_loopw [8] (fun i wr => ∃ (k : Nat) (st : List Fu.Cel) (L : List Fu.Sc), k ≤ 2 ∧ i = .int .i64 (k : Int) ∧ Fu.cels L = st ∧ J0 W wr B b c st Bd g L) (fun i _ => 2 - (intOf i).toNat)
        case atStart => exact ⟨0, st0, L0, by omega, rfl, HE0.out, HJ0.out⟩
        case round =>
          clear HJ0 HE0
          obtain ⟨k, st, L, hk, rfl, hc, hj⟩ := hrel
          have HJ := Lib.hid hj
          have HC := Lib.hid hc
          clear hc hj
          obtain ⟨x0, x1, x2, x3, x4⟩ := HX.out _ HJ.out.own.below
          obtain rfl | rfl | rfl : k = 0 ∨ k = 1 ∨ k = 2 := by omega
          · have C1 := Lib.hid (HJ.out.writeA 0 s0)
            go_wp2_with fail
            refine C1.out.mono ?_; rintro e w3 ⟨⟨_, rfl⟩, hj⟩
            have C2 := Lib.hid (hj.writeB 0 s0)
            clear x0 x1 x2 x3 x4
            obtain ⟨x0, x1, x2, x3, x4⟩ := HX.out _ hj.own.below
            clear hj C1
            go_wp2_with fail
            refine C2.out.mono ?_; rintro e w4 ⟨⟨_, rfl⟩, L', hL, hj⟩
            have HJ2 := Lib.hid hj
            have HC2 := Lib.hid hL
            clear hj hL C2 x0 x1 x2 x3 x4
            go_wp2_with fail
            exact ⟨⟨1, _, L', by omega, rfl, by rw [HC2.out, HC.out], HJ2.out⟩, by simp [intOf]⟩
          · have C1 := Lib.hid (HJ.out.writeA 1 s1)
            go_wp2_with fail
            refine C1.out.mono ?_; rintro e w3 ⟨⟨_, rfl⟩, hj⟩
            have C2 := Lib.hid (hj.writeB 1 s1)
            clear x0 x1 x2 x3 x4
            obtain ⟨x0, x1, x2, x3, x4⟩ := HX.out _ hj.own.below
            clear hj C1
            go_wp2_with fail
            refine C2.out.mono ?_; rintro e w4 ⟨⟨_, rfl⟩, L', hL, hj⟩
            have HJ2 := Lib.hid hj
            have HC2 := Lib.hid hL
            clear hj hL C2 x0 x1 x2 x3 x4
            go_wp2_with fail
            exact ⟨⟨2, _, L', by omega, rfl, by rw [HC2.out, HC.out], HJ2.out⟩, by simp [intOf]⟩
          · have C1 := Lib.hid HJ.out.barA
            clear x0 x1 x2 x3 x4
            go_wp2_with fail
            refine C1.out.mono ?_; rintro e w3 ⟨rfl, hj⟩
            have C2 := Lib.hid hj.barB
            clear hj C1
            go_wp2_with fail
            refine C2.out.mono ?_; rintro e w4 ⟨rfl, L2, hL, hj⟩
            have HJ2 := Lib.hid hj
            have HC2 : Hid (Fu.cels L2 = Fu.bar st) := Lib.hid (by rw [hL, HC.out])
            clear hL hj C2 HJ HC
            generalize Fu.bar st = st2 at HJ2 HC2
            have HL := Lib.hid (Fu.lo_new HJ2.out.own ((HV.out.kept HJ2.out.own.below).sl) (by have := HXL.out; omega) z)
            obtain ⟨x0, x1, x2, x3, x4⟩ := HX.out _ HJ2.out.own.below
            go_wp2_with fail
            refine HL.out.mono ?_; rintro e w5 ⟨F, u, rfl, hlo, -, hb, huo⟩
            have hrv : Fu.Rv (w5.alloc (.cells #[.pointer (some ⟨Bd, 0, none⟩), .int .i64 z, .slice a nx cp, .int .i64 0, .bool false] 41)) Bd g L2 := (HJ2.out.rv.below hb).below (below_box w5 _)
            have hlo2 := hlo.later (below_box w5 (.cells #[.pointer (some ⟨Bd, 0, none⟩), .int .i64 z, .slice a nx cp, .int .i64 0, .bool false] 41))
            have hz : Jz W (w5.alloc (.cells #[.pointer (some ⟨Bd, 0, none⟩), .int .i64 z, .slice a nx cp, .int .i64 0, .bool false] 41)) F B b c st2 0 false w5.heap.size Bd g L2 0 false z u (.slice a nx cp) xs w4.heap.size :=
              ⟨hlo2, ⟨Is.new _ _ _, hrv, HV.out.kept hlo2.below, hlo.below.size, HJ2.out.new⟩, hlo.ln.one.lt, ⟨by obtain ⟨cap, hi⟩ := HJ2.out.rv.one; exact hi.lt, HJ2.out.rv.row.lt⟩, huo⟩
            have HZ := Lib.hid hz
            clear x0 x1 x2 x3 x4 hrv hlo2 hz
            obtain ⟨x0, x1, x2, x3, x4⟩ := HX.out _ hlo.below
            have HJ3 := Lib.hid (HJ2.out.later hb)
            clear hlo hb huo HL HJ2
            have C3 := Lib.hid (chosen_ln HZ.out.lo.ln HZ.out.rl HC2.out)
            obtain ⟨G, eG⟩ : ∃ G, w5.heap.size = G := ⟨_, rfl⟩
            rw [eG] at HZ C3
            go_wp2_with fail
            refine C3.out.mono ?_; rintro e w6 ⟨rfl, hb⟩
            have HZ2 := Lib.hid (HZ.out.later hb)
            clear hb C3 HZ x0 x1 x2 x3 x4 eG
            obtain ⟨E, st3, k3, cut3, hk3, hA, hB⟩ := HZ2.out.write HC2.out s HS.out.1 HS.out.2
            have CA := Lib.hid hA
            have CB := Lib.hid hB
            clear hA hB
            obtain ⟨y0, y1, y2, y3, y4⟩ := HY.out _ HZ2.out.lo.below
            go_wp2_with fail
            refine CA.out.mono ?_; rintro e w7 ⟨rfl, hz⟩
            have HZ3 := Lib.hid hz
            have hzd : Jz W w7.drew F B b c st3 k3 cut3 G Bd g L2 0 false z u (.slice a nx cp) xs w4.heap.size := hz.later ⟨rfl, rfl, rfl, Nat.le_refl _, fun _ _ => rfl⟩
            clear y0 y1 y2 y3 y4 CA HZ2
            obtain ⟨y0, y1, y2, y3, y4⟩ := HY.out _ hzd.lo.below
            have C16 := Lib.hid (CB.out _ hzd)
            clear CB hz hzd
            go_wp2_with fail
            go_region_with (first
              | (go_at_call 16; refine C16.out.mono ?_; rintro e w8 ⟨rfl, L3, hL3, hz⟩; (obtain ⟨d0, d1, d2, d3, d4⟩ := hz.rl.cells); have C17 := Lib.hid (Fu.count_any hz.lo.ln); have C14 := Lib.hid (chosen_ln hz.lo.ln hz.rl hL3); have HZ4 := Lib.hid hz; have HL3 := Lib.hid hL3; clear hz hL3)
              | (go_at_call 17; refine C17.out.mono ?_; rintro e w9 ⟨rfl, rfl⟩)
              | (go_at_call 14; refine C14.out.mono ?_; rintro e w9 ⟨rfl, hb9⟩))
            all_goals
              have HZ5 := Lib.hid (HZ4.out.later hb9)
              clear d0 d1 d2 d3 d4 y0 y1 y2 y3 y4 C14 C17 C16 HZ3 HZ4 hb9
              obtain ⟨st4, hA, hB⟩ := HZ5.out.blow HL3.out
              have CA := Lib.hid hA
              have CB := Lib.hid hB
              clear hA hB
              go_wp2_with fail
              refine CA.out.mono ?_; rintro e w10 ⟨rfl, hz⟩
              have C19 := Lib.hid (CB.out _ hz)
              clear hz CA CB HZ5 HL3
              go_wp2_with fail
              refine C19.out.mono ?_; rintro e w11 ⟨rfl, L4, hL4, hz⟩
              have HZ6 := Lib.hid hz
              have HL4 := Lib.hid hL4
              have HF := Lib.hid (Fu.lnew_any hz.lo.ln.dev (Fu.sl_nil w11) (by simp) (-1))
              clear hz hL4 C19
              go_wp2_with fail
              refine HF.out.mono ?_; rintro e w12 ⟨F2, u2, rfl, hn2, -, hb, -⟩
              have hz := (HZ6.out.later hb).later (below_box w12 (.cells #[.pointer (some ⟨Bd, 0, none⟩), .int .i64 (-1), .slice none 0 0, .int .i64 0, .bool false] 41))
              have hn3 := hn2.below (below_box w12 (.cells #[.pointer (some ⟨Bd, 0, none⟩), .int .i64 (-1), .slice none 0 0, .int .i64 0, .bool false] 41))
              have hr3 : Fu.Rl W (w12.alloc (.cells #[.pointer (some ⟨Bd, 0, none⟩), .int .i64 (-1), .slice none 0 0, .int .i64 0, .bool false] 41)) w12.heap.size Bd g L4 (-1) (.slice none 0 0) [] 0 false :=
                ⟨Is.new _ _ _, hz.rl.dev, ⟨none, 0, rfl, fun j x hj => by simp at hj⟩, ⟨(HZ6.out.later hb).lo.below.size, hz.rl.new.2⟩⟩
              have C1 := Lib.hid (chosen_ln hn3 hr3 HL4.out)
              have HZ7 := Lib.hid hz
              clear hz hn3 hr3 hn2 hb HF HZ6
              go_wp2_with fail
              refine C1.out.mono ?_; rintro e w13 ⟨rfl, hb⟩
              have HZ8 := Lib.hid (HZ7.out.later hb)
              have C2 := Lib.hid (chosen_ln HZ8.out.lo.ln HZ8.out.rl HL4.out)
              clear hb C1 HZ7
              go_wp2_with fail
              refine C2.out.mono ?_; rintro e w14 ⟨rfl, hb⟩
              have HZ9 := Lib.hid (HZ8.out.later hb)
              clear hb C2 HZ8
              go_wp2_with fail
              refine (HWk.out _).mono ?_; rintro e w15 ⟨rfl, hb⟩
              have HE := Lib.hid (HBW.out.trans ((HZ9.out.later hb).lo.below.mono HBW.out.size))
              clear hb
              go_wp2_with fail
              go_ret
              exact ⟨rfl, HE.out⟩
end Go.Proofs.YtlidieffaaicaaaGreat
