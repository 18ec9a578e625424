/- Which superblock is chosen. Conditions: none. -/
import Derived.Test.YtlidieffaaicaaaGreatSuK
namespace Go.Proofs.YtlidieffaaicaaaGreat
open Go.ChangeShapes Go.WideShapes Go.RowKit Go.Codec Go.Super
set_option maxRecDepth 100000
set_option linter.unusedSimpArgs false
set_option maxHeartbeats 4000000 in
theorem tell_err (v : Value) (n er : Int) (he : ¬ er = 0) (s : ByteArray) (w : World)
    (R0 : ∀ wx, Below w.heap.size w wx → Calls Tryz.prog 47 #[v, .int .i64 0] wx fun e w' => e = .returned (.tuple #[.string s, .int .i64 er]) ∧ wx = w') :
    Calls Tryz.prog 46 #[.func (.func 47) #[v] #[], .int .i64 n] w fun e w' => e = .returned (.tuple #[.agg #[.int .u64 0, .int .u64 0, .int .i64 0, .int .i64 0, .int .i64 0, .int .u64 0, .int .u64 0, .int .i64 0, .int .i64 0, .int .i64 0], .int .i64 er]) ∧ Below w.heap.size w w' := by
  have HR := Lib.hid R0
  have h0 := Box.new w 93 #[.int .u64 0, .int .u64 0, .int .i64 0, .int .i64 0, .int .i64 0, .int .u64 0, .int .u64 0, .int .i64 0, .int .i64 0, .int .i64 0]
  have h1 := h0.alloc (.cells #[.int .u64 0, .int .u64 0, .int .i64 0, .int .i64 0, .int .i64 0, .int .u64 0, .int .u64 0, .int .i64 0, .int .i64 0, .int .i64 0] 93)
  have HX := Lib.hid h1
  clear R0 h0 h1
  go_enter Tryz.func46, Tryz.ntmps46
  go_wp2_with fail
  go_loopw [11] (fun i wr => i = .int .i64 0 ∧ Box w 93 #[.int .u64 0, .int .u64 0, .int .i64 0, .int .i64 0, .int .i64 0, .int .u64 0, .int .u64 0, .int .i64 0, .int .i64 0, .int .i64 0] wr) (fun i _ => 2 - (intOf i).toNat)
  case atStart => exact ⟨rfl, HX.out⟩
  case round =>
    obtain ⟨rfl, hx⟩ := hrel
    clear HX
    have HX := Lib.hid hx
    clear hx
    obtain ⟨⟨c0, c1, c2, c3, c4⟩, c5, c6, c7, c8, c9⟩ := is10 HX.out.one
    have f0 := HX.out.one.frozen 0; have f1 := HX.out.one.frozen 1; have f2 := HX.out.one.frozen 2; have f3 := HX.out.one.frozen 3; have f4 := HX.out.one.frozen 4; have f5 := HX.out.one.frozen 5; have f6 := HX.out.one.frozen 6; have f7 := HX.out.one.frozen 7; have f8 := HX.out.one.frozen 8; have f9 := HX.out.one.frozen 9
    have hlt := HX.out.one.lt
    go_wp2_with fail
    refine (HR.out _ HX.out.below).mono ?_; rintro e w3 ⟨rfl, rfl⟩
    go_wp2_with fail
    have g0 : Box w 93 #[.int .u64 0, .int .u64 0, .int .i64 0, .int .i64 0, .int .i64 0, .int .u64 0, .int .u64 0, .int .i64 0, .int .i64 0, .int .i64 0] _ := HX.out.put 0 (.int .u64 0)
    have g1 : Box w 93 #[.int .u64 0, .int .u64 0, .int .i64 0, .int .i64 0, .int .i64 0, .int .u64 0, .int .u64 0, .int .i64 0, .int .i64 0, .int .i64 0] _ := g0.put 1 (.int .u64 0)
    have g2 : Box w 93 #[.int .u64 0, .int .u64 0, .int .i64 0, .int .i64 0, .int .i64 0, .int .u64 0, .int .u64 0, .int .i64 0, .int .i64 0, .int .i64 0] _ := g1.put 2 (.int .i64 0)
    have g3 : Box w 93 #[.int .u64 0, .int .u64 0, .int .i64 0, .int .i64 0, .int .i64 0, .int .u64 0, .int .u64 0, .int .i64 0, .int .i64 0, .int .i64 0] _ := g2.put 3 (.int .i64 0)
    have g4 : Box w 93 #[.int .u64 0, .int .u64 0, .int .i64 0, .int .i64 0, .int .i64 0, .int .u64 0, .int .u64 0, .int .i64 0, .int .i64 0, .int .i64 0] _ := g3.put 4 (.int .i64 0)
    have g5 : Box w 93 #[.int .u64 0, .int .u64 0, .int .i64 0, .int .i64 0, .int .i64 0, .int .u64 0, .int .u64 0, .int .i64 0, .int .i64 0, .int .i64 0] _ := g4.put 5 (.int .u64 0)
    have g6 : Box w 93 #[.int .u64 0, .int .u64 0, .int .i64 0, .int .i64 0, .int .i64 0, .int .u64 0, .int .u64 0, .int .i64 0, .int .i64 0, .int .i64 0] _ := g5.put 6 (.int .u64 0)
    have g7 : Box w 93 #[.int .u64 0, .int .u64 0, .int .i64 0, .int .i64 0, .int .i64 0, .int .u64 0, .int .u64 0, .int .i64 0, .int .i64 0, .int .i64 0] _ := g6.put 7 (.int .i64 0)
    have g8 : Box w 93 #[.int .u64 0, .int .u64 0, .int .i64 0, .int .i64 0, .int .i64 0, .int .u64 0, .int .u64 0, .int .i64 0, .int .i64 0, .int .i64 0] _ := g7.put 8 (.int .i64 0)
    have g9 : Box w 93 #[.int .u64 0, .int .u64 0, .int .i64 0, .int .i64 0, .int .i64 0, .int .u64 0, .int .u64 0, .int .i64 0, .int .i64 0, .int .i64 0] _ := g8.put 9 (.int .i64 0)
    have HG : Box w 93 #[.int .u64 0, .int .u64 0, .int .i64 0, .int .i64 0, .int .i64 0, .int .u64 0, .int .u64 0, .int .i64 0, .int .i64 0, .int .i64 0] ((((((((((wr.setCell ⟨w.heap.size, 0, none⟩ (.int .u64 0)).setCell ⟨w.heap.size, 1, none⟩ (.int .u64 0)).setCell ⟨w.heap.size, 2, none⟩ (.int .i64 0)).setCell ⟨w.heap.size, 3, none⟩ (.int .i64 0)).setCell ⟨w.heap.size, 4, none⟩ (.int .i64 0)).setCell ⟨w.heap.size, 5, none⟩ (.int .u64 0)).setCell ⟨w.heap.size, 6, none⟩ (.int .u64 0)).setCell ⟨w.heap.size, 7, none⟩ (.int .i64 0)).setCell ⟨w.heap.size, 8, none⟩ (.int .i64 0)).setCell ⟨w.heap.size, 9, none⟩ (.int .i64 0)) := g9
    clear g0 g1 g2 g3 g4 g5 g6 g7 g8 g9
    generalize ((((((((((wr.setCell ⟨w.heap.size, 0, none⟩ (.int .u64 0)).setCell ⟨w.heap.size, 1, none⟩ (.int .u64 0)).setCell ⟨w.heap.size, 2, none⟩ (.int .i64 0)).setCell ⟨w.heap.size, 3, none⟩ (.int .i64 0)).setCell ⟨w.heap.size, 4, none⟩ (.int .i64 0)).setCell ⟨w.heap.size, 5, none⟩ (.int .u64 0)).setCell ⟨w.heap.size, 6, none⟩ (.int .u64 0)).setCell ⟨w.heap.size, 7, none⟩ (.int .i64 0)).setCell ⟨w.heap.size, 8, none⟩ (.int .i64 0)).setCell ⟨w.heap.size, 9, none⟩ (.int .i64 0)) = W at HG ⊢
    obtain ⟨⟨m0, m1, m2, m3, m4⟩, m5, m6, m7, m8, m9⟩ := is10 HG.one
    have hlt := HG.one.lt
    exact bodyPost_ret (v := .tuple #[.agg #[.int .u64 0, .int .u64 0, .int .i64 0, .int .i64 0, .int .i64 0, .int .u64 0, .int .u64 0, .int .i64 0, .int .i64 0, .int .i64 0], .int .i64 er]) (by simp [results, Tryz.results46, go_sem, m0, m1, m2, m3, m4, m5, m6, m7, m8, m9, hlt]) rfl ⟨rfl, HG.below⟩
/-- The later one of two. -/
def later (c s : S) : S := if c.gen < s.gen then s else c
/-- What is chosen. -/
noncomputable def choose (n : Int) (r0 r1 : List UInt8) : S × Int := if (later (later S.none (one 0 n r0)) (one 1 n r1)).gen = 0 then (S.none, 5) else (later (later S.none (one 0 n r0)) (one 1 n r1), 0)
theorem B2.alloc {w wx : World} {t : TypeId} {arr brr : Array Value} {X : Nat} (h : B2 w t arr X brr wx) (o : Obj) : B2 w t arr X brr (wx.alloc o) := h.later (below_box wx o)
set_option maxHeartbeats 4000000 in
theorem choose_err (v d : Value) (n er : Int) (he : ¬ er = 0) (w : World)
    (HD : Hid (∀ wx, Below w.heap.size w wx → Calls Tryz.prog 48 #[v] wx fun e w' => e = .returned d ∧ wx = w'))
    (HS : Hid (∀ wx, Below w.heap.size w wx → Calls Tryz.prog 49 #[d] wx fun e w' => e = .returned (.int .i64 n) ∧ wx = w'))
    (HT : Hid (∀ wx, Below w.heap.size w wx → Calls Tryz.prog 46 #[.func (.func 47) #[v] #[], .int .i64 n] wx fun e w' => e = .returned (.tuple #[.agg #[.int .u64 0, .int .u64 0, .int .i64 0, .int .i64 0, .int .i64 0, .int .u64 0, .int .u64 0, .int .i64 0, .int .i64 0, .int .i64 0], .int .i64 er]) ∧ Below wx.heap.size wx w')) :
    Calls Tryz.prog 22 #[v] w fun e w' => e = .returned (.tuple #[.agg #[.int .u64 0, .int .u64 0, .int .i64 0, .int .i64 0, .int .i64 0], .int .i64 er]) ∧ Below w.heap.size w w' := by
  have H0 := Lib.hid (Box.new w 28 #[.int .u64 0, .int .u64 0, .int .i64 0, .int .i64 0, .int .i64 0])
  go_enter Tryz.func22, Tryz.ntmps22
  go_wp2_with fail
  refine (HD.out _ H0.out.below).mono ?_; rintro e w1 ⟨rfl, rfl⟩
  go_wp2_with fail
  refine (HS.out _ H0.out.below).mono ?_; rintro e w1 ⟨rfl, rfl⟩
  go_wp2_with fail
  refine (HT.out _ H0.out.below).mono ?_; rintro e w1 ⟨rfl, hb⟩
  have H1 := Lib.hid (H0.out.later hb)
  clear hb H0
  have H2 := Lib.hid (H1.out.alloc (.cells #[.int .u64 0, .int .u64 0, .int .i64 0, .int .i64 0, .int .i64 0, .int .u64 0, .int .u64 0, .int .i64 0, .int .i64 0, .int .i64 0] 93))
  obtain ⟨c0, c1, c2, c3, c4⟩ := H2.out.c5
  have f0 := H2.out.one.frozen 0; have f1 := H2.out.one.frozen 1; have f2 := H2.out.one.frozen 2; have f3 := H2.out.one.frozen 3; have f4 := H2.out.one.frozen 4
  have hlt := H2.out.one.lt
  clear H1
  go_wp2_with fail
  have HF := Lib.hid (Box.five (a' := .int .u64 0) (b' := .int .u64 0) (c' := .int .i64 0) (d' := .int .i64 0) (e' := .int .i64 0) H2.out)
  obtain ⟨d0, d1, d2, d3, d4⟩ := HF.out.c5
  exact bodyPost_ret (v := .tuple #[.agg #[.int .u64 0, .int .u64 0, .int .i64 0, .int .i64 0, .int .i64 0], .int .i64 er]) (by simp [results, Tryz.results22, go_sem, d0, d1, d2, d3, d4, hlt]) rfl ⟨rfl, HF.out.below⟩
set_option maxHeartbeats 8000000 in
theorem choose_go (v d : Value) (n : Int) (a b c g : S) (E1 : later S.none a = c) (E2 : later c b = g) (r : S) (er : Int) (E3 : (if g.gen = 0 then (S.none, (5 : Int)) else (g, 0)) = (r, er)) (w : World)
    (HD : Hid (∀ wx, Below w.heap.size w wx → Calls Tryz.prog 48 #[v] wx fun e w' => e = .returned d ∧ wx = w'))
    (HS : Hid (∀ wx, Below w.heap.size w wx → Calls Tryz.prog 49 #[d] wx fun e w' => e = .returned (.int .i64 n) ∧ wx = w'))
    (HT : Hid (∀ wx, Below w.heap.size w wx → Calls Tryz.prog 46 #[.func (.func 47) #[v] #[], .int .i64 n] wx fun e w' => e = .returned (.tuple #[.agg #[.int .u64 a.gen, .int .u64 a.calls, .int .i64 a.root, .int .i64 a.table, .int .i64 a.secs, .int .u64 b.gen, .int .u64 b.calls, .int .i64 b.root, .int .i64 b.table, .int .i64 b.secs], .int .i64 0]) ∧ Below wx.heap.size wx w')) :
    Calls Tryz.prog 22 #[v] w fun e w' => e = .returned (.tuple #[.agg #[.int .u64 r.gen, .int .u64 r.calls, .int .i64 r.root, .int .i64 r.table, .int .i64 r.secs], .int .i64 er]) ∧ Below w.heap.size w w' := by
  obtain ⟨a0, a1, a2, a3, a4⟩ := a
  obtain ⟨b0, b1, b2, b3, b4⟩ := b
  obtain ⟨c0, c1, c2, c3, c4⟩ := c
  obtain ⟨g0, g1, g2, g3, g4⟩ := g
  obtain ⟨r0, r1, r2, r3, r4⟩ := r
  simp only at HT E3 ⊢
  have F1 := Lib.hid E1
  have F2 := Lib.hid E2
  have F3 := Lib.hid E3
  clear E1 E2 E3
  have H0 := Lib.hid (Box.new w 28 #[.int .u64 0, .int .u64 0, .int .i64 0, .int .i64 0, .int .i64 0])
  go_enter Tryz.func22, Tryz.ntmps22
  go_wp2_with fail
  refine (HD.out _ H0.out.below).mono ?_; rintro e w1 ⟨rfl, rfl⟩
  go_wp2_with fail
  refine (HS.out _ H0.out.below).mono ?_; rintro e w1 ⟨rfl, rfl⟩
  go_wp2_with fail
  refine (HT.out _ H0.out.below).mono ?_; rintro e w1 ⟨rfl, hb⟩
  have H1 := Lib.hid (H0.out.later hb)
  clear hb H0
  have HB := Lib.hid (B2.new (H1.out.alloc (.cells #[.int .u64 a0, .int .u64 a1, .int .i64 a2, .int .i64 a3, .int .i64 a4, .int .u64 b0, .int .u64 b1, .int .i64 b2, .int .i64 b3, .int .i64 b4] 93)) #[.int .u64 0, .int .u64 0, .int .i64 0, .int .i64 0, .int .i64 0])
  have ht := (Is.new w1 93 #[.int .u64 a0, .int .u64 a1, .int .i64 a2, .int .i64 a3, .int .i64 a4, .int .u64 b0, .int .u64 b1, .int .i64 b2, .int .i64 b3, .int .i64 b4]).alloc (.cells #[.int .u64 0, .int .u64 0, .int .i64 0, .int .i64 0, .int .i64 0] 28)
  obtain ⟨⟨x0, x1, x2, x3, x4⟩, x5, x6, x7, x8, x9⟩ := is10 ht
  clear ht H1
  have i0 : ∀ wx, (Instr.index 93 (.agg #[.int .u64 a0, .int .u64 a1, .int .i64 a2, .int .i64 a3, .int .i64 a4, .int .u64 b0, .int .u64 b1, .int .i64 b2, .int .i64 b3, .int .i64 b4]) (.int .i64 0)).run Tryz.prog wx = .ok (.agg #[.int .u64 a0, .int .u64 a1, .int .i64 a2, .int .i64 a3, .int .i64 a4]) wx := fun _ => by kernel_rfl
  have i1 : ∀ wx, (Instr.index 93 (.agg #[.int .u64 a0, .int .u64 a1, .int .i64 a2, .int .i64 a3, .int .i64 a4, .int .u64 b0, .int .u64 b1, .int .i64 b2, .int .i64 b3, .int .i64 b4]) (.int .i64 1)).run Tryz.prog wx = .ok (.agg #[.int .u64 b0, .int .u64 b1, .int .i64 b2, .int .i64 b3, .int .i64 b4]) wx := fun _ => by kernel_rfl
  have j0 : ∀ wx, (Instr.index 93 (.agg #[.int .u64 a0, .int .u64 a1, .int .i64 a2, .int .i64 a3, .int .i64 a4, .int .u64 b0, .int .u64 b1, .int .i64 b2, .int .i64 b3, .int .i64 b4]) (.int .i64 ((0 : Nat) : Int))).run Tryz.prog wx = .ok (.agg #[.int .u64 a0, .int .u64 a1, .int .i64 a2, .int .i64 a3, .int .i64 a4]) wx := i0
  have j1 : ∀ wx, (Instr.index 93 (.agg #[.int .u64 a0, .int .u64 a1, .int .i64 a2, .int .i64 a3, .int .i64 a4, .int .u64 b0, .int .u64 b1, .int .i64 b2, .int .i64 b3, .int .i64 b4]) (.int .i64 ((1 : Nat) : Int))).run Tryz.prog wx = .ok (.agg #[.int .u64 b0, .int .u64 b1, .int .i64 b2, .int .i64 b3, .int .i64 b4]) wx := i1
  go_wp2_with fail
  clear x0 x1 x2 x3 x4 x5 x6 x7 x8 x9
  obtain ⟨X, hX⟩ : ∃ X, (w1.alloc (.cells #[.int .u64 a0, .int .u64 a1, .int .i64 a2, .int .i64 a3, .int .i64 a4, .int .u64 b0, .int .u64 b1, .int .i64 b2, .int .i64 b3, .int .i64 b4] 93)).heap.size = X := ⟨_, rfl⟩
  rw [hX] at HB
  have hX' : w1.heap.size + 1 = X := by rw [← hX]; simp
  simp only [hX']
  go_loopw [23] (fun i wr => ∃ k : Nat, k ≤ 2 ∧ i = .int .i64 k ∧ (k = 0 → B2 w 28 #[.int .u64 0, .int .u64 0, .int .i64 0, .int .i64 0, .int .i64 0] X #[.int .u64 0, .int .u64 0, .int .i64 0, .int .i64 0, .int .i64 0] wr)
      ∧ (k = 1 → B2 w 28 #[.int .u64 0, .int .u64 0, .int .i64 0, .int .i64 0, .int .i64 0] X #[.int .u64 c0, .int .u64 c1, .int .i64 c2, .int .i64 c3, .int .i64 c4] wr)
      ∧ (k = 2 → B2 w 28 #[.int .u64 0, .int .u64 0, .int .i64 0, .int .i64 0, .int .i64 0] X #[.int .u64 g0, .int .u64 g1, .int .i64 g2, .int .i64 g3, .int .i64 g4] wr)) (fun i _ => 2 - (intOf i).toNat)
  case atStart => exact ⟨0, by omega, rfl, fun _ => HB.out, by omega, by omega⟩
  case round =>
    clear HB hX hX'
    obtain ⟨k, hk, rfl, hn0, hn1, hn2⟩ := hrel
    obtain rfl | rfl | rfl : k = 0 ∨ k = 1 ∨ k = 2 := by omega
    · have HP := Lib.hid (hn0 rfl)
      clear hn0 hn1 hn2
      by_cases h : 0 < a0
      · have e := F1.out
        rw [show later S.none ⟨a0, a1, a2, a3, a4⟩ = ⟨a0, a1, a2, a3, a4⟩ from if_pos h] at e
        simp only [S.mk.injEq] at e
        obtain ⟨rfl, rfl, rfl, rfl, rfl⟩ := e
        have h' : (0 : Int) < (a0 : Int) := by omega
        have HF := Lib.hid (HP.out.alloc (.cells #[.int .u64 a0, .int .u64 a1, .int .i64 a2, .int .i64 a3, .int .i64 a4] 28))
        obtain ⟨k0, k1, k2, k3, k4⟩ := is5 (Is.new wr 28 #[.int .u64 a0, .int .u64 a1, .int .i64 a2, .int .i64 a3, .int .i64 a4])
        obtain ⟨y0, y1, y2, y3, y4⟩ := is5 HF.out.two
        have f0 := HF.out.two.frozen 0; have f1 := HF.out.two.frozen 1; have f2 := HF.out.two.frozen 2; have f3 := HF.out.two.frozen 3; have f4 := HF.out.two.frozen 4
        have hlt := HF.out.two.lt
        clear HP
        go_wp2_with fail
        have HG : B2 w 28 #[.int .u64 0, .int .u64 0, .int .i64 0, .int .i64 0, .int .i64 0] X #[.int .u64 a0, .int .u64 a1, .int .i64 a2, .int .i64 a3, .int .i64 a4] _ := (((((HF.out).put 0 (.int .u64 a0)).put 1 (.int .u64 a1)).put 2 (.int .i64 a2)).put 3 (.int .i64 a3)).put 4 (.int .i64 a4)
        have HF := Lib.hid HG
        exact ⟨⟨1, by omega, rfl, by omega, fun _ => HF.out, by omega⟩, by simp [intOf]⟩
      · have e := F1.out
        rw [show later S.none ⟨a0, a1, a2, a3, a4⟩ = S.none from if_neg h] at e
        simp only [S.none, S.mk.injEq] at e
        obtain ⟨rfl, rfl, rfl, rfl, rfl⟩ := e
        have h' : ¬ (0 : Int) < (a0 : Int) := by omega
        have HF := Lib.hid (HP.out.alloc (.cells #[.int .u64 a0, .int .u64 a1, .int .i64 a2, .int .i64 a3, .int .i64 a4] 28))
        obtain ⟨k0, k1, k2, k3, k4⟩ := is5 (Is.new wr 28 #[.int .u64 a0, .int .u64 a1, .int .i64 a2, .int .i64 a3, .int .i64 a4])
        obtain ⟨y0, y1, y2, y3, y4⟩ := is5 HF.out.two
        clear HP
        go_wp2_with fail
        exact ⟨⟨1, by omega, rfl, by omega, fun _ => HF.out, by omega⟩, by simp [intOf]⟩
    · have HP := Lib.hid (hn1 rfl)
      clear hn0 hn1 hn2
      by_cases h : c0 < b0
      · have e := F2.out
        rw [show later ⟨c0, c1, c2, c3, c4⟩ ⟨b0, b1, b2, b3, b4⟩ = ⟨b0, b1, b2, b3, b4⟩ from if_pos h] at e
        simp only [S.mk.injEq] at e
        obtain ⟨rfl, rfl, rfl, rfl, rfl⟩ := e
        have h' : (c0 : Int) < (b0 : Int) := by omega
        have HF := Lib.hid (HP.out.alloc (.cells #[.int .u64 b0, .int .u64 b1, .int .i64 b2, .int .i64 b3, .int .i64 b4] 28))
        obtain ⟨k0, k1, k2, k3, k4⟩ := is5 (Is.new wr 28 #[.int .u64 b0, .int .u64 b1, .int .i64 b2, .int .i64 b3, .int .i64 b4])
        obtain ⟨y0, y1, y2, y3, y4⟩ := is5 HF.out.two
        have f0 := HF.out.two.frozen 0; have f1 := HF.out.two.frozen 1; have f2 := HF.out.two.frozen 2; have f3 := HF.out.two.frozen 3; have f4 := HF.out.two.frozen 4
        have hlt := HF.out.two.lt
        clear HP
        go_wp2_with fail
        have HG : B2 w 28 #[.int .u64 0, .int .u64 0, .int .i64 0, .int .i64 0, .int .i64 0] X #[.int .u64 b0, .int .u64 b1, .int .i64 b2, .int .i64 b3, .int .i64 b4] _ := (((((HF.out).put 0 (.int .u64 b0)).put 1 (.int .u64 b1)).put 2 (.int .i64 b2)).put 3 (.int .i64 b3)).put 4 (.int .i64 b4)
        have HF := Lib.hid HG
        exact ⟨⟨2, by omega, rfl, by omega, by omega, fun _ => HF.out⟩, by simp [intOf]⟩
      · have e := F2.out
        rw [show later ⟨c0, c1, c2, c3, c4⟩ ⟨b0, b1, b2, b3, b4⟩ = ⟨c0, c1, c2, c3, c4⟩ from if_neg h] at e
        simp only [S.none, S.mk.injEq] at e
        obtain ⟨rfl, rfl, rfl, rfl, rfl⟩ := e
        have h' : ¬ (c0 : Int) < (b0 : Int) := by omega
        have HF := Lib.hid (HP.out.alloc (.cells #[.int .u64 b0, .int .u64 b1, .int .i64 b2, .int .i64 b3, .int .i64 b4] 28))
        obtain ⟨k0, k1, k2, k3, k4⟩ := is5 (Is.new wr 28 #[.int .u64 b0, .int .u64 b1, .int .i64 b2, .int .i64 b3, .int .i64 b4])
        obtain ⟨y0, y1, y2, y3, y4⟩ := is5 HF.out.two
        clear HP
        go_wp2_with fail
        exact ⟨⟨2, by omega, rfl, by omega, by omega, fun _ => HF.out⟩, by simp [intOf]⟩
    · have HP := Lib.hid (hn2 rfl)
      clear hn0 hn1 hn2
      by_cases h : g0 = 0
      · have e := F3.out
        simp only [h, if_true, S.none, Prod.mk.injEq, S.mk.injEq] at e
        obtain ⟨⟨rfl, rfl, rfl, rfl, rfl⟩, rfl⟩ := e
        have h' : (g0 : Int) = 0 := by omega
        obtain ⟨y0, y1, y2, y3, y4⟩ := is5 HP.out.two
        obtain ⟨k0, k1, k2, k3, k4⟩ := HP.out.box.c5
        have f0 := HP.out.box.one.frozen 0; have f1 := HP.out.box.one.frozen 1; have f2 := HP.out.box.one.frozen 2; have f3 := HP.out.box.one.frozen 3; have f4 := HP.out.box.one.frozen 4
        have hlt := HP.out.box.one.lt
        go_wp2_with fail
        have HF := Lib.hid (Box.five (a' := .int .u64 0) (b' := .int .u64 0) (c' := .int .i64 0) (d' := .int .i64 0) (e' := .int .i64 0) HP.out.box)
        obtain ⟨d0, d1, d2, d3, d4⟩ := HF.out.c5
        exact bodyPost_ret (v := .tuple #[.agg #[.int .u64 0, .int .u64 0, .int .i64 0, .int .i64 0, .int .i64 0], .int .i64 5]) (by simp [results, Tryz.results22, go_sem, d0, d1, d2, d3, d4, hlt]) rfl ⟨rfl, HF.out.below⟩
      · have e := F3.out
        simp only [h, if_false, Prod.mk.injEq, S.mk.injEq] at e
        obtain ⟨⟨rfl, rfl, rfl, rfl, rfl⟩, rfl⟩ := e
        have h' : ¬ (g0 : Int) = 0 := by omega
        obtain ⟨y0, y1, y2, y3, y4⟩ := is5 HP.out.two
        obtain ⟨k0, k1, k2, k3, k4⟩ := HP.out.box.c5
        have f0 := HP.out.box.one.frozen 0; have f1 := HP.out.box.one.frozen 1; have f2 := HP.out.box.one.frozen 2; have f3 := HP.out.box.one.frozen 3; have f4 := HP.out.box.one.frozen 4
        have hlt := HP.out.box.one.lt
        go_wp2_with fail
        have HF := Lib.hid (Box.five (a' := .int .u64 g0) (b' := .int .u64 g1) (c' := .int .i64 g2) (d' := .int .i64 g3) (e' := .int .i64 g4) HP.out.box)
        obtain ⟨d0, d1, d2, d3, d4⟩ := HF.out.c5
        exact bodyPost_ret (v := .tuple #[.agg #[.int .u64 g0, .int .u64 g1, .int .i64 g2, .int .i64 g3, .int .i64 g4], .int .i64 0]) (by simp [results, Tryz.results22, go_sem, d0, d1, d2, d3, d4, hlt]) rfl ⟨rfl, HF.out.below⟩
end Go.Proofs.YtlidieffaaicaaaGreat
