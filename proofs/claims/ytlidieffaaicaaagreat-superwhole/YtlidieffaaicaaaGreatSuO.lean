/- The examples of the chapter hold. Conditions: none. -/
import Derived.Test.YtlidieffaaicaaaGreatSuN
namespace Go.Proofs.YtlidieffaaicaaaGreat
open Go.ChangeShapes Go.WideShapes Go.RowKit Go.Codec Go.Super
set_option maxRecDepth 100000
set_option linter.unusedSimpArgs false
def ga : S := ⟨0, 2, 66, 70, 512⟩
def gb : S := ⟨1, 2, 65, 70, 512⟩
def gc : S := ⟨1, 2, 66, 512, 512⟩
def gd : S := ⟨1, 2, 66, 70, 511⟩
def gx : S := ⟨2, 2, 66, 70, 512⟩
theorem gx_ok : gx.Ok := by decide
/-- Superblocks of the call's own. -/
structure KB (w : World) (L : List (Nat × Array Value)) (wx : World) : Prop where
  below : Below w.heap.size w wx
  all : ∀ p ∈ L, Is wx p.1 28 p.2
section
variable {w wx wy W : World} {L : List (Nat × Array Value)} {F B b c : Nat} {st st' : List Fu.Cel} {z : Int} {u : Value} {xs : List Int} {k k' : Nat} {cut cut' : Bool}
theorem KB.later (h : KB w L wx) (hb : Below wx.heap.size wx wy) : KB w L wy := ⟨h.below.trans (hb.mono h.below.size), fun p hp => is_below (h.all p hp) hb⟩
theorem KB.add (h : KB w L wx) (arr : Array Value) {n : Nat} (hn : wx.heap.size = n) : KB w ((n, arr) :: L) (wx.alloc (.cells arr 28)) := by
  have h2 := h.later (below_box wx (.cells arr 28))
  refine ⟨h2.below, fun p hp => ?_⟩
  simp only [List.mem_cons] at hp
  rcases hp with rfl | hp
  · rw [← hn]; exact Is.new _ _ _
  · exact h2.all p hp
theorem KB.get (h : KB w L wx) {n : Nat} {a0 a1 a2 a3 a4 : Value} (hm : (n, #[a0, a1, a2, a3, a4]) ∈ L) :
    wx.cell? ⟨n, 0, none⟩ = some a0 ∧ wx.cell? ⟨n, 1, none⟩ = some a1 ∧ wx.cell? ⟨n, 2, none⟩ = some a2 ∧ wx.cell? ⟨n, 3, none⟩ = some a3 ∧ wx.cell? ⟨n, 4, none⟩ = some a4 := is5 (h.all _ hm)
theorem KB.line (h : KB w L W) (hl : Fu.Lo W wx F B b c st z u xs k cut) : KL w L W F B b c st z u xs k cut wx :=
  ⟨h.below.trans (hl.below.mono h.below.size), fun p hp => is_below (h.all p hp) hl.below, hl, h.below.size⟩
theorem KL.write (h : KL w L W F B b c st (-1) u xs k false wx) (hk : k < 1000000) (s : S) (hs : s.Ok) :
    Calls Tryz.prog 15 #[.pointer (some ⟨F, 0, none⟩), .agg #[.int .u64 s.gen, .int .u64 s.calls, .int .i64 s.root, .int .i64 s.table, .int .i64 s.secs]] wx fun e w' => e = .returned (.int .i64 0) ∧ KL w L W F B b c (Fu.wrS st (s.gen % 2) (put s).1) (-1) u xs (k + 1) false w' := by
  refine (write_up h.lo.ln hk s hs).mono ?_
  rintro e w' ⟨rfl, hl, hkp⟩
  have hz : ¬ (k : Int) = -1 := by omega
  unfold Fu.aft at hl
  rw [if_neg hz, decide_eq_false hz] at hl
  rw [if_neg hz]
  exact ⟨rfl, h.step hl hkp⟩
theorem KL.blow (h : KL w L W F B b c st z u xs k false wx) : Calls Tryz.prog 18 #[.pointer (some ⟨F, 0, none⟩)] wx fun e w' => e = .returned (.tuple #[]) ∧ KL w L W F B b c (Fu.crash st xs) z u xs k true w' := by
  refine (Fu.blow_up h.lo.ln).mono ?_
  rintro e w' ⟨rfl, hl, hkp⟩
  exact ⟨rfl, h.step hl hkp⟩
theorem KL.chooses (h : KL w L W F B b c st z u xs k false wx) {x0 x1 : Fu.Cel} (hx0 : st[0]? = some x0) (hx1 : st[1]? = some x1) {s : S} {er : Int} (hs : choose st.length x0.r x1.r = (s, er)) :
    Calls Tryz.prog 22 #[.pointer (some ⟨F, 0, none⟩)] wx fun e w' => e = .returned (.tuple #[.agg #[.int .u64 s.gen, .int .u64 s.calls, .int .i64 s.root, .int .i64 s.table, .int .i64 s.secs], .int .i64 er]) ∧ KL w L W F B b c st z u xs k false w' := by
  have := choose_up h.lo.ln hx0 hx1
  rw [hs] at this
  exact h.carry this
end
theorem later_none (s : S) (h : 0 < s.gen) : later S.none s = s := if_pos h
theorem choose_nought (n : Int) : choose n Fu.nought Fu.nought = (S.none, 5) := by
  unfold choose
  rw [nought_none, nought_none]
  rfl
theorem c1_fresh : (Fu.fresh 512)[0]? = some ⟨Fu.nought, none⟩ ∧ (Fu.fresh 512)[1]? = some ⟨Fu.nought, none⟩ := ⟨Fu.fresh_get (by omega), Fu.fresh_get (by omega)⟩
theorem pick_g5 (n : Int) (hn : n = 512) : choose n Fu.nought (put g5).1 = (g5, 0) := by
  subst hn
  unfold choose
  rw [nought_none, one_put g5_ok (by decide) (by decide) (by decide) (by decide)]
  rfl
theorem pick_gx (n : Int) (hn : n = 512) : choose n (put gx).1 (put g5).1 = (gx, 0) := by
  subst hn
  unfold choose
  rw [one_put g5_ok (by decide) (by decide) (by decide) (by decide), one_put gx_ok (by decide) (by decide) (by decide) (by decide)]
  rfl
theorem cells3 {w wx W : World} {L : List (Nat × Array Value)} {F B b c : Nat} {st : List Fu.Cel} {z : Int} {u : Value} {xs : List Int} {k : Nat} {cut : Bool} {N M P : Nat} {a0 a1 a2 a3 a4 b0 b1 b2 b3 b4 c0 c1 c2 c3 c4 : Value}
    (h : KL w ((P, #[c0, c1, c2, c3, c4]) :: (N, #[a0, a1, a2, a3, a4]) :: (M, #[b0, b1, b2, b3, b4]) :: L) W F B b c st z u xs k cut wx) :
    (wx.cell? ⟨N, 0, none⟩ = some a0 ∧ wx.cell? ⟨N, 1, none⟩ = some a1 ∧ wx.cell? ⟨N, 2, none⟩ = some a2 ∧ wx.cell? ⟨N, 3, none⟩ = some a3 ∧ wx.cell? ⟨N, 4, none⟩ = some a4)
    ∧ (wx.cell? ⟨M, 0, none⟩ = some b0 ∧ wx.cell? ⟨M, 1, none⟩ = some b1 ∧ wx.cell? ⟨M, 2, none⟩ = some b2 ∧ wx.cell? ⟨M, 3, none⟩ = some b3 ∧ wx.cell? ⟨M, 4, none⟩ = some b4)
    ∧ (wx.cell? ⟨P, 0, none⟩ = some c0 ∧ wx.cell? ⟨P, 1, none⟩ = some c1 ∧ wx.cell? ⟨P, 2, none⟩ = some c2 ∧ wx.cell? ⟨P, 3, none⟩ = some c3 ∧ wx.cell? ⟨P, 4, none⟩ = some c4) :=
  ⟨h.get (by simp), h.get (by simp), h.get (by simp)⟩
set_option maxHeartbeats 8000000 in
theorem known_c (w : World) : Calls Tryz.prog 5 #[] w fun e w' => e = .returned (.bool true) ∧ Below w.heap.size w w' := by
  have hl : (put g5).1.length = 128 := put_length g5 g5_ok
  have hlx : (put gx).1.length = 128 := put_length gx gx_ok
  have hx : (bs (put g5).1).extract 12 28 = ⟨#[0, 14, 0, 0, 0, 0, 0, 0, 0, 2, 0, 66, 0, 70, 2, 0]⟩ := by decide +kernel
  have hz : (bs (put g5).1).size = 128 := by rw [bs_size]; exact hl
  have hz' : ((bs (put g5).1).size : Int) = 128 := by omega
  have HG := Lib.hid given_c
  have HW := Lib.hid works_c
  have HT := Lib.hid (fun w' => text_c g5 w')
  simp only [show g5.gen = 1 from rfl, show g5.calls = 2 from rfl, show g5.root = 66 from rfl, show g5.table = 70 from rfl, show g5.secs = 512 from rfl] at HT
  have HF := Lib.hid (fun w' => fails_true ((bs (put g5).1).extract 0 127) (by rw [ByteArray.size_extract, hz]; decide) 4 (tk_len (by rw [← Lib.size_eq, ByteArray.size_extract, hz]; decide) (by rw [← Lib.size_eq, ByteArray.size_extract, hz]; decide) (by rw [← Lib.size_eq, ByteArray.size_extract, hz]; decide)) w')
  have HRa := Lib.hid (fun w' => refused_true ga (by decide) w')
  have HRb := Lib.hid (fun w' => refused_true gb (by decide) w')
  have HRc := Lib.hid (fun w' => refused_true gc (by decide) w')
  have HRd := Lib.hid (fun w' => refused_true gd (by decide) w')
  simp only [ga, gb, gc, gd] at HRa HRb HRc HRd
  generalize bs (put g5).1 = q at *
  go_enter Tryz.func5, Tryz.ntmps5
  go_wp2_with fail
  refine (HG.out _).mono ?_; rintro e w1 ⟨rfl, hb1⟩
  go_wp2_with fail
  refine (HT.out _).mono ?_; rintro e w2 ⟨rfl, hb2⟩
  have H2 := Lib.hid (hb1.trans (hb2.mono hb1.size))
  clear hb1 hb2 HT
  go_wp2_with fail
  refine (HG.out _).mono ?_; rintro e w3 ⟨rfl, hb⟩
  have H3 := Lib.hid (H2.out.trans (hb.mono H2.out.size))
  clear hb H2
  go_wp2_with fail
  refine (HG.out _).mono ?_; rintro e w4 ⟨rfl, hb⟩
  have H4 := Lib.hid (H3.out.trans (hb.mono H3.out.size))
  clear hb H3
  go_wp2_with fail
  refine (HG.out _).mono ?_; rintro e w5 ⟨rfl, hb⟩
  have H5 := Lib.hid (H4.out.trans (hb.mono H4.out.size))
  clear hb H4
  go_wp2_with fail
  refine (HG.out _).mono ?_; rintro e w6 ⟨rfl, hb⟩
  have H6 := Lib.hid (H5.out.trans (hb.mono H5.out.size))
  clear hb H5
  go_wp2_with fail
  refine (HG.out _).mono ?_; rintro e w7 ⟨rfl, hb⟩
  have H7 : KB w [] w7 := ⟨H6.out.trans (hb.mono H6.out.size), fun p hp => by simp at hp⟩
  clear hb H6
  have k1 := H7.add #[.int .u64 0, .int .u64 2, .int .i64 66, .int .i64 70, .int .i64 512] (n := w7.heap.size) rfl
  have k2 := k1.add #[.int .u64 1, .int .u64 2, .int .i64 65, .int .i64 70, .int .i64 512] (n := w7.heap.size + 1) (by simp)
  have k3 := k2.add #[.int .u64 1, .int .u64 2, .int .i64 66, .int .i64 512, .int .i64 512] (n := w7.heap.size + 1 + 1) (by simp)
  have k4 := k3.add #[.int .u64 1, .int .u64 2, .int .i64 66, .int .i64 70, .int .i64 511] (n := w7.heap.size + 1 + 1 + 1) (by simp)
  have k5 := k4.add #[.int .u64 2, .int .u64 2, .int .i64 66, .int .i64 70, .int .i64 512] (n := w7.heap.size + 1 + 1 + 1 + 1) (by simp)
  have K5 := Lib.hid k5
  clear k1 k2 k3 k4 k5 H7
  go_wp2_with fail
  obtain ⟨N, hN⟩ : ∃ N, w7.heap.size = N := ⟨_, rfl⟩
  rw [hN] at K5
  simp only [hN]
  clear hN
  refine (HW.out _).mono ?_; rintro e w8 ⟨rfl, hb⟩
  have K8 := Lib.hid (K5.out.later hb)
  clear hb K5
  go_wp2_with fail
  refine (HF.out _).mono ?_; rintro e w9 ⟨rfl, hb⟩
  have K9 := Lib.hid (K8.out.later hb)
  clear hb K8 HF
  obtain ⟨c0, c1, c2, c3, c4⟩ := K9.out.get (.tail _ (.tail _ (.tail _ (.tail _ (.head _)))))
  go_wp2_with fail
  refine (HRa.out _).mono ?_; rintro e w10 ⟨rfl, hb⟩
  have K10 := Lib.hid (K9.out.later hb)
  clear hb K9 HRa c0 c1 c2 c3 c4
  obtain ⟨c0, c1, c2, c3, c4⟩ := K10.out.get (.tail _ (.tail _ (.tail _ (.head _))))
  go_wp2_with fail
  refine (HRb.out _).mono ?_; rintro e w11 ⟨rfl, hb⟩
  have K11 := Lib.hid (K10.out.later hb)
  clear hb K10 HRb c0 c1 c2 c3 c4
  obtain ⟨c0, c1, c2, c3, c4⟩ := K11.out.get (.tail _ (.tail _ (.head _)))
  go_wp2_with fail
  refine (HRc.out _).mono ?_; rintro e w12 ⟨rfl, hb⟩
  have K12 := Lib.hid (K11.out.later hb)
  clear hb K11 HRc c0 c1 c2 c3 c4
  obtain ⟨c0, c1, c2, c3, c4⟩ := K12.out.get (.tail _ (.head _))
  go_wp2_with fail
  refine (HRd.out _).mono ?_; rintro e w13 ⟨rfl, hb⟩
  have K13 := Lib.hid (K12.out.later hb)
  clear hb K12 HRd c0 c1 c2 c3 c4
  have KC : Hid (KB w [(N, #[.int .u64 0, .int .u64 2, .int .i64 66, .int .i64 70, .int .i64 512]), (N + 1 + 1 + 1 + 1, #[.int .u64 2, .int .u64 2, .int .i64 66, .int .i64 70, .int .i64 512])] w13) := Lib.hid ⟨K13.out.below, fun p hp => by
    simp only [List.mem_cons, List.not_mem_nil, or_false] at hp
    rcases hp with rfl | rfl
    · exact K13.out.all _ (.tail _ (.tail _ (.tail _ (.tail _ (.head _)))))
    · exact K13.out.all _ (.head _)⟩
  clear K13
  obtain ⟨M, hM⟩ : ∃ M, N + 1 + 1 + 1 + 1 = M := ⟨_, rfl⟩
  rw [hM] at KC
  simp only [hM]
  clear hM
  have HD := Lib.hid Fu.new512
  go_wp2_with fail
  refine (HD.out _).mono ?_; rintro e w14 ⟨B, b, c, rfl, ho⟩
  have HL := Lib.hid (Fu.lo_new ho (Fu.sl_nil w14) (by simp) (-1))
  clear ho HD
  go_wp2_with fail
  refine HL.out.mono ?_; rintro e w15 ⟨F, u, rfl, hlo, -, -, -⟩
  have KD := Lib.hid (KC.out.line hlo)
  clear hlo HL KC
  have C1 := Lib.hid (KD.out.chooses c1_fresh.1 c1_fresh.2 (choose_nought _))
  simp only [S.none] at C1
  go_wp2_with fail
  refine C1.out.mono ?_; rintro e w16 ⟨rfl, hk⟩
  have KE := Lib.hid (hk.later (below_box _ (.cells #[.int .u64 0, .int .u64 0, .int .i64 0, .int .i64 0, .int .i64 0] 28)))
  clear hk C1 KD
  go_wp2_with fail
  refine (HG.out _).mono ?_; rintro e w17 ⟨rfl, hb⟩
  have KF := Lib.hid (KE.out.later hb)
  clear hb KE
  have C2 := Lib.hid (KF.out.write (by decide) g5 g5_ok)
  simp only [show g5.gen = 1 from rfl, show g5.calls = 2 from rfl, show g5.root = 66 from rfl, show g5.table = 70 from rfl, show g5.secs = 512 from rfl] at C2
  clear KF
  go_wp2_with fail
  refine C2.out.mono ?_; rintro e w18 ⟨rfl, hk⟩
  obtain ⟨st1, hst1⟩ : ∃ s, s = Fu.wrS (Fu.fresh 512) (1 % 2) (put g5).1 := ⟨_, rfl⟩
  rw [← hst1] at hk
  have y0 : st1[0]? = some ⟨Fu.nought, none⟩ := by rw [hst1, wr_off _ (by decide)]; exact c1_fresh.1
  have y1 : st1[1]? = some ⟨Fu.nought, some (put g5).1⟩ := by rw [hst1]; exact wr_at c1_fresh.2 hl
  have yl : st1.length = 512 := by rw [hst1, Fu.wrS_len, Fu.fresh_len]
  have Y := Lib.hid (And.intro y0 (And.intro y1 yl))
  have C3 := Lib.hid (hk.chooses y0 y1 (pick_g5 _ (by omega)))
  simp only [show g5.gen = 1 from rfl, show g5.calls = 2 from rfl, show g5.root = 66 from rfl, show g5.table = 70 from rfl, show g5.secs = 512 from rfl] at C3
  clear hk C2 hst1 y0 y1 yl
  go_wp2_with fail
  refine C3.out.mono ?_; rintro e w19 ⟨rfl, hk⟩
  have hp : KL w ((w19.heap.size, #[.int .u64 1, .int .u64 2, .int .i64 66, .int .i64 70, .int .i64 512]) :: (N, #[.int .u64 0, .int .u64 2, .int .i64 66, .int .i64 70, .int .i64 512]) :: (M, #[.int .u64 2, .int .u64 2, .int .i64 66, .int .i64 70, .int .i64 512]) :: []) w13 F B b c st1 (-1) u [] 1 false (w19.alloc (.cells #[.int .u64 1, .int .u64 2, .int .i64 66, .int .i64 70, .int .i64 512] 28)) := hk.add _
  have hpd := hp.drew
  clear hk C3
  have D1 := Lib.hid (fun wx (hx : KL w ((w19.heap.size, #[.int .u64 1, .int .u64 2, .int .i64 66, .int .i64 70, .int .i64 512]) :: (N, #[.int .u64 0, .int .u64 2, .int .i64 66, .int .i64 70, .int .i64 512]) :: (M, #[.int .u64 2, .int .u64 2, .int .i64 66, .int .i64 70, .int .i64 512]) :: []) w13 F B b c st1 (-1) u [] 1 false wx) => hx.carry (HG.out wx))
  obtain ⟨st2, hst2⟩ : ∃ s, s = Fu.wrS st1 (2 % 2) (put gx).1 := ⟨_, rfl⟩
  have D2 : Hid (∀ wx, KL w ((w19.heap.size, #[.int .u64 1, .int .u64 2, .int .i64 66, .int .i64 70, .int .i64 512]) :: (N, #[.int .u64 0, .int .u64 2, .int .i64 66, .int .i64 70, .int .i64 512]) :: (M, #[.int .u64 2, .int .u64 2, .int .i64 66, .int .i64 70, .int .i64 512]) :: []) w13 F B b c st1 (-1) u [] 1 false wx → Calls Tryz.prog 15 #[.pointer (some ⟨F, 0, none⟩), .agg #[.int .u64 2, .int .u64 2, .int .i64 66, .int .i64 70, .int .i64 512]] wx fun e w' => e = .returned (.int .i64 0) ∧ KL w ((w19.heap.size, #[.int .u64 1, .int .u64 2, .int .i64 66, .int .i64 70, .int .i64 512]) :: (N, #[.int .u64 0, .int .u64 2, .int .i64 66, .int .i64 70, .int .i64 512]) :: (M, #[.int .u64 2, .int .u64 2, .int .i64 66, .int .i64 70, .int .i64 512]) :: []) w13 F B b c st2 (-1) u [] 2 false w') := Lib.hid (fun wx hx => by rw [hst2]; exact hx.write (by decide) gx gx_ok)
  have D3 : Hid (∀ wx, KL w ((w19.heap.size, #[.int .u64 1, .int .u64 2, .int .i64 66, .int .i64 70, .int .i64 512]) :: (N, #[.int .u64 0, .int .u64 2, .int .i64 66, .int .i64 70, .int .i64 512]) :: (M, #[.int .u64 2, .int .u64 2, .int .i64 66, .int .i64 70, .int .i64 512]) :: []) w13 F B b c st2 (-1) u [] 2 false wx → Calls Tryz.prog 15 #[.pointer (some ⟨F, 0, none⟩), .agg #[.int .u64 0, .int .u64 2, .int .i64 66, .int .i64 70, .int .i64 512]] wx fun e w' => e = .returned (.int .i64 4) ∧ KL w ((w19.heap.size, #[.int .u64 1, .int .u64 2, .int .i64 66, .int .i64 70, .int .i64 512]) :: (N, #[.int .u64 0, .int .u64 2, .int .i64 66, .int .i64 70, .int .i64 512]) :: (M, #[.int .u64 2, .int .u64 2, .int .i64 66, .int .i64 70, .int .i64 512]) :: []) w13 F B b c st2 (-1) u [] 2 false w') := Lib.hid (fun wx hx => hx.carry (write_no (.pointer (some ⟨F, 0, none⟩)) ga (by decide) wx))
  have z0 : st2[0]? = some ⟨Fu.nought, some (put gx).1⟩ := by rw [hst2]; exact wr_at Y.out.1 hlx
  have z1 : st2[1]? = some ⟨Fu.nought, some (put g5).1⟩ := by rw [hst2, wr_off _ (by decide)]; exact Y.out.2.1
  have zl : st2.length = 512 := by rw [hst2, Fu.wrS_len]; exact Y.out.2.2
  have ZZ := Lib.hid (And.intro z0 (And.intro z1 zl))
  clear hst2 z0 z1 zl Y hl hlx
  go_wp2_with fail
  go_region_held3 (fun wx => (wx.cell? ⟨N, 0, none⟩ = some (.int .u64 0) ∧ wx.cell? ⟨N, 1, none⟩ = some (.int .u64 2) ∧ wx.cell? ⟨N, 2, none⟩ = some (.int .i64 66) ∧ wx.cell? ⟨N, 3, none⟩ = some (.int .i64 70) ∧ wx.cell? ⟨N, 4, none⟩ = some (.int .i64 512))
      ∧ (wx.cell? ⟨M, 0, none⟩ = some (.int .u64 2) ∧ wx.cell? ⟨M, 1, none⟩ = some (.int .u64 2) ∧ wx.cell? ⟨M, 2, none⟩ = some (.int .i64 66) ∧ wx.cell? ⟨M, 3, none⟩ = some (.int .i64 70) ∧ wx.cell? ⟨M, 4, none⟩ = some (.int .i64 512))
      ∧ (wx.cell? ⟨w19.heap.size, 0, none⟩ = some (.int .u64 1) ∧ wx.cell? ⟨w19.heap.size, 1, none⟩ = some (.int .u64 2) ∧ wx.cell? ⟨w19.heap.size, 2, none⟩ = some (.int .i64 66) ∧ wx.cell? ⟨w19.heap.size, 3, none⟩ = some (.int .i64 70) ∧ wx.cell? ⟨w19.heap.size, 4, none⟩ = some (.int .i64 512)))
    (first | (with_reducible exact cells3 (by assumption)))
    (first
      | (with_reducible refine (D1.out _ (by assumption)).mono ?_; rintro e w1 ⟨rfl, hp⟩)
      | (with_reducible refine (D2.out _ (by assumption)).mono ?_; rintro e w1 ⟨rfl, hp⟩)
      | (with_reducible refine (D3.out _ (by assumption)).mono ?_; rintro e w1 ⟨rfl, hp⟩))
  all_goals
    rename_i hp hcs
    have KG := Lib.hid hp
    have C4 := Lib.hid (KG.out.chooses ZZ.out.1 ZZ.out.2.1 (pick_gx _ (by have := ZZ.out.2.2; omega)))
    simp only [show gx.gen = 2 from rfl, show gx.calls = 2 from rfl, show gx.root = 66 from rfl, show gx.table = 70 from rfl, show gx.secs = 512 from rfl] at C4
    clear hp hcs D1 D2 D3 hpd
    go_wp2_with fail
    refine C4.out.mono ?_; rintro e w20 ⟨rfl, hk⟩
    have KI := Lib.hid (hk.add #[.int .u64 2, .int .u64 2, .int .i64 66, .int .i64 70, .int .i64 512])
    clear hk C4 KG
    have C5 := Lib.hid KI.out.blow
    go_wp2_with fail
    refine C5.out.mono ?_; rintro e w21 ⟨rfl, hk⟩
    have KJ := Lib.hid hk
    clear hk C5 KI
    have C6 := Lib.hid (KJ.out.carry (choose_cut KJ.out.lo.ln))
    go_wp2_with fail
    refine C6.out.mono ?_; rintro e w22 ⟨rfl, hk⟩
    have KK := Lib.hid (hk.later (below_box _ (.cells #[.int .u64 0, .int .u64 0, .int .i64 0, .int .i64 0, .int .i64 0] 28)))
    clear hk C6 KJ
    have C7 := Lib.hid (KK.out.carry (choose_nil _))
    go_wp2_with fail
    refine C7.out.mono ?_; rintro e w23 ⟨rfl, hk⟩
    have KM := Lib.hid (hk.later (below_box _ (.cells #[.int .u64 0, .int .u64 0, .int .i64 0, .int .i64 0, .int .i64 0] 28)))
    clear hk C7 KK
    have C8 : Hid (Calls Tryz.prog 15 #[.pointer (some ⟨F, 0, none⟩), .agg #[.int .u64 2, .int .u64 2, .int .i64 66, .int .i64 70, .int .i64 512]] (w23.alloc (.cells #[.int .u64 0, .int .u64 0, .int .i64 0, .int .i64 0, .int .i64 0] 28)) fun e w' => e = .returned (.int .i64 8) ∧ _) := Lib.hid (KM.out.carry (write_cut KM.out.lo.ln gx gx_ok))
    obtain ⟨e0, e1, e2, e3, e4⟩ := KM.out.get (.head _)
    obtain ⟨c0, c1, c2, c3, c4⟩ := KM.out.get (.tail _ (.tail _ (.tail _ (.head _))))
    go_wp2_with fail
    refine C8.out.mono ?_; rintro e w24 ⟨rfl, hk⟩
    have KN := Lib.hid hk
    have C9 : Hid (Calls Tryz.prog 15 #[.pointer none, .agg #[.int .u64 2, .int .u64 2, .int .i64 66, .int .i64 70, .int .i64 512]] w24 fun e w' => e = .returned (.int .i64 1) ∧ _) := Lib.hid (KN.out.carry (write_nil gx gx_ok w24))
    clear hk C8 KM e0 e1 e2 e3 e4 c0 c1 c2 c3 c4
    obtain ⟨c0, c1, c2, c3, c4⟩ := KN.out.get (.tail _ (.tail _ (.tail _ (.head _))))
    go_wp2_with fail
    refine C9.out.mono ?_; rintro e w25 ⟨rfl, hk⟩
    have KO := Lib.hid hk
    clear hk C9 KN c0 c1 c2 c3 c4
    go_wp2_with fail
    refine (HW.out _).mono ?_; rintro e w26 ⟨rfl, hb⟩
    have KP := Lib.hid (KO.out.later hb)
    clear hb KO
    go_wp2_with fail
    go_ret
    exact ⟨rfl, KP.out.below⟩
end Go.Proofs.YtlidieffaaicaaaGreat
