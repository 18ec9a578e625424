/- Drop. Conditions: none. -/
import Derived.Test.YtnpjbddannkgfaaAlD
namespace Go.Proofs.Ytnpjbddannkgfaa
open Go.ChangeShapes Go.WideShapes Go.RowKit Go.Maps Go.Spans Go.Alloc
set_option maxRecDepth 100000
section
variable {w : World} {A S : Nat} {v : Value} {bc bw n : Nat} {xs : List Sp} {L : List Ch} {W : List Nat}
theorem drop_bad {v : Value} {p : Int} {P : Option Addr} {n c : Nat} {r : Int} {s : Bool} {E : Int} (hf : Fd w v p P n c r s E) (hE : ¬ E = 0) : Calls Try.prog 29 #[v, .int .i64 p] w fun e w' => e = .returned (.tuple #[.bool false, .int .i64 E]) ∧ Below w.heap.size w w' := by
  unfold Fd at hf
  go_enter Try.func29, Try.ntmps29
  go_wp2_with (go_at_call 52; refine hf.mono ?_; rintro e w' ⟨rfl, hb⟩)
  go_ret2
  exact ⟨rfl, below_alloc hb _⟩
set_option maxHeartbeats 1000000 in
theorem drop_down (h : Am w A S v bc bw n xs L W) (hs : Srt L) (hl : L.length ≤ 8192) {c : Ch} (hc : c ∈ L) (hn : c.place ≤ 4096) (hr : 1 < c.refs) (hr2 : c.refs ≤ 65535) :
    Calls Try.prog 29 #[.pointer (some ⟨A, 0, none⟩), .int .i64 (c.place : Nat)] w fun e w' => e = .returned (.tuple #[.bool false, .int .i64 0]) ∧ Am w' A S v bc bw n xs (setC L (c.place : Nat) fun c => { c with refs := c.refs - 1 }) W ∧ Kp w w' [bc] := by
  obtain ⟨P, N, C, hrow, hf⟩ := find_some h hc hn
  unfold Fd at hf
  have hlt := h.ch.lt
  obtain ⟨m1, m2, m3⟩ := setC_mem hs hc (g := fun c => { c with refs := c.refs - 1 }) (fun _ => rfl)
  have hup : ∀ V, Below w.heap.size w V → ∃ w', (Instr.mapUpdate 58 (.map (some bc)) (.int .i64 (c.place : Nat)) (.agg #[.slice P N C, .int .i64 (((c.refs - 1 : Nat) : Int)), .bool c.sure])).run Try.prog V = .ok () w' ∧ Am w' A S v bc bw n xs (setC L (c.place : Nat) fun c => { c with refs := c.refs - 1 }) W ∧ V.grownBy w' (some bc) :=
    fun V hb => up_ch (h.below hb) hs hl (c := { c with refs := c.refs - 1 }) (hrow.kept (Kp.of_below hb []) (noI_nil w)) hn m1 m2 m3
  have h1 : ∀ V, Below w.heap.size w V → V.cell? ⟨A, 1, none⟩ = some (.map (some bc)) := fun V hb => by have := (h.below hb).one.cell 1; simpa using this
  rw [show (((c.refs - 1 : Nat) : Int)) = ((c.refs : Nat) : Int) - 1 by omega] at hup
  obtain ⟨r, er⟩ : ∃ r : Int, ((c.refs : Nat) : Int) = r := ⟨_, rfl⟩
  obtain ⟨p, ep⟩ : ∃ p : Int, ((c.place : Nat) : Int) = p := ⟨_, rfl⟩
  obtain ⟨s, es⟩ : ∃ s, c.sure = s := ⟨_, rfl⟩
  have hr1 : 1 < r := by omega
  have hr3 : r ≤ 65535 := by omega
  have hw : IntKind.i64.wrap (r - 1) = r - 1 := wrap_small (by omega) (by omega)
  rw [er, ep, es] at hup hf
  rw [ep]
  generalize (setC L p fun c => { c with refs := c.refs - 1 }) = M at hup
  clear h hrow m1 m2 m3 er ep es hr hr2 hn hc
  have HU := Lib.hid hup
  have H1 := Lib.hid h1
  clear hup h1
  go_enter Try.func29, Try.ntmps29
  go_wp2_with (go_at_call 52; refine hf.mono ?_; rintro e w' ⟨rfl, hb⟩)
  have i2 := Is.new w' 78 #[.slice P N C, .int .i64 (r - 1), .bool s]
  have hb2 : Below w.heap.size w (w'.alloc (.cells #[.slice P N C, .int .i64 (r - 1), .bool s] 78)).drew := below_drew (below_alloc hb _)
  have hlt2 : bc ≠ w'.heap.size := by have := hb.size; omega
  generalize w'.alloc (.cells #[.slice P N C, .int .i64 (r - 1), .bool s] 78) = w2 at i2 hb2 ⊢
  obtain ⟨w3, hrun3, hA3, hg3⟩ := HU.out _ hb2
  have i3 : Is w3 w'.heap.size 78 #[.slice P N C, .int .i64 (r - 1), .bool s] := (show Is w2.drew w'.heap.size 78 _ from i2).kept hg3 (by simpa using fun e => hlt2 e.symm)
  have hb3 : Kp w w3 [bc] := (Kp.of_below hb2 [bc]).trans (Kp.of_grown hg3) (fun y hy => .inl hy)
  have a3 := hA3.one.cell 1
  have S2 := And.intro (H1.out _ hb2) (And.intro (i2.cell 0) (And.intro (i2.cell 1) (i2.cell 2)))
  have S3 := And.intro a3 (And.intro (i3.cell 0) (And.intro (i3.cell 1) (i3.cell 2)))
  simp at S2 S3
  generalize w'.heap.size = g at S2 S3 ⊢
  clear i2 i3 hlt2 hg3 a3 hb hb2 hlt
  have HA := Lib.hid hA3
  have HK := Lib.hid hb3
  clear hA3 hb3
  go_region_held3 (fun wx => wx.cell? ⟨A, 1, none⟩ = some (.map (some bc)) ∧ wx.cell? ⟨g, 0, none⟩ = some (.slice P N C) ∧ wx.cell? ⟨g, 1, none⟩ = some (.int .i64 (r - 1)) ∧ wx.cell? ⟨g, 2, none⟩ = some (.bool s)) (first | exact S2 | exact S3)
    (fail)
  go_wp2
  go_ret2
  exact ⟨rfl, HA.out, HK.out⟩
set_option maxHeartbeats 1000000 in
/-- The last reference is let go; whatever letGo makes of it. -/
theorem drop_last (h : Am w A S v bc bw n xs L W) {c : Ch} (hc : c ∈ L) (hn : c.place ≤ 4096) (hr : c.refs = 1) (Q : World → Prop)
    (hQ : ∀ (V : World) (P : Option Addr) (N C : Nat), Kp w V [bc] → Am V A S v bc bw n xs (eraC L (c.place : Nat)) W → In V (.slice P N C) c.secs → Calls Try.prog 55 #[.pointer (some ⟨A, 0, none⟩), .agg #[.slice P N C, .int .i64 1, .bool c.sure]] V fun e w' => e = .returned (.tuple #[]) ∧ Q w') :
    Calls Try.prog 29 #[.pointer (some ⟨A, 0, none⟩), .int .i64 (c.place : Nat)] w fun e w' => e = .returned (.tuple #[.bool true, .int .i64 0]) ∧ Q w' := by
  obtain ⟨P, N, C, hrow, hf⟩ := find_some h hc hn
  unfold Fd at hf
  rw [hr] at hf
  have hdel : ∀ V, Below w.heap.size w V → ∃ w', (Builtin.delete_ #[58, 3] 0 #[.map (some bc), .int .i64 (c.place : Nat)]).run Try.prog (V.alloc (.cells #[.slice P N C, .int .i64 1, .bool c.sure] 78)) = .ok (.tuple #[]) w' ∧
      Is w' V.heap.size 78 #[.slice P N C, .int .i64 1, .bool c.sure] ∧ Calls Try.prog 55 #[.pointer (some ⟨A, 0, none⟩), .agg #[.slice P N C, .int .i64 1, .bool c.sure]] w' fun e w' => e = .returned (.tuple #[]) ∧ Q w' := by
    intro V hb
    have hb2 := below_alloc hb (.cells #[.slice P N C, .int .i64 1, .bool c.sure] 78)
    obtain ⟨w', h1, h2, h3⟩ := del_ch (h.below hb2) c.place hn 0
    have hk := (Kp.of_below hb2 [bc]).trans h3 (fun y hy => .inl hy)
    have hlt := h.ch.lt
    refine ⟨w', h1, h3.is (Is.new V 78 _) (by have := hb.size; simp; omega), hQ _ P N C hk h2 (hrow.kept hk (NoI.cons (fun cs => h.ch.no cs 3) (noI_nil w)))⟩
  have h1 : ∀ V, Below w.heap.size w V → V.cell? ⟨A, 1, none⟩ = some (.map (some bc)) := fun V hb => by have := (h.below hb).one.cell 1; simpa using this
  obtain ⟨p, ep⟩ : ∃ p : Int, ((c.place : Nat) : Int) = p := ⟨_, rfl⟩
  obtain ⟨s, es⟩ : ∃ s, c.sure = s := ⟨_, rfl⟩
  rw [ep, es] at hdel hf
  rw [ep]
  clear h hrow hQ hc hn hr ep es
  have HU := Lib.hid hdel
  have H1 := Lib.hid h1
  clear hdel h1
  go_enter Try.func29, Try.ntmps29
  go_wp2_with (first
    | (go_at_call 52; refine hf.mono ?_; rintro e w' ⟨rfl, hb⟩; (obtain ⟨w3, hrun, hi, hcall⟩ := HU.out _ hb); (have a1 := H1.out _ (below_alloc hb (.cells #[.slice P N C, .int .i64 1, .bool s] 78))); (have d0 := hi.cell 0); (have d1 := hi.cell 1); (have d2 := hi.cell 2); simp at d0 d1 d2; have HC := Lib.hid hcall; clear hi hcall)
    | (go_at_call 55; refine HC.out.mono ?_; rintro e w4 ⟨rfl, hq⟩))
  go_ret2
  exact ⟨rfl, hq⟩
end
end Go.Proofs.Ytnpjbddannkgfaa
