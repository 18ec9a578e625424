/- Hold; a chain is put into the map, or goes out of it. Conditions: none. -/
import Derived.Test.YtnpjbddannkgfaaAlB
import Derived.Test.YtnpjbddannkgfaaSpQ
namespace Go.Proofs.Ytnpjbddannkgfaa
open Go.ChangeShapes Go.WideShapes Go.RowKit Go.Maps Go.Spans Go.Alloc
set_option maxRecDepth 100000
section
variable {w : World} {A S : Nat} {v : Value} {bc bw n : Nat} {xs : List Sp} {L : List Ch} {W : List Nat}
/-- A chain comes into the map, or another one in its place. -/
theorem up_ch (h : Am w A S v bc bw n xs L W) (hs : Srt L) (hl : L.length ≤ 8192) {c : Ch} {u : Value} (hrow : In w u c.secs) (hp : c.place ≤ 4096) {M : List Ch}
    (hc : c ∈ M) (hM : ∀ y ∈ M, y = c ∨ (y ∈ L ∧ y.place ≠ c.place)) (hL : ∀ y ∈ L, y.place ≠ c.place → y ∈ M) :
    ∃ w', (Instr.mapUpdate 58 (.map (some bc)) (.int .i64 (c.place : Nat)) (.agg #[u, .int .i64 (c.refs : Nat), .bool c.sure])).run Try.prog w = .ok () w' ∧ Am w' A S v bc bw n xs M W ∧ w.grownBy w' (some bc) := by
  obtain ⟨k, D, ho, hD⟩ := h.ch
  have hsz := size_of ho (srt_nodup hs) hD.iff
  rw [List.length_map] at hsz
  obtain ⟨x, ex, e1, e2, e3⟩ := hrow.cn (c.refs : Nat) c.sure
  obtain ⟨w', hrun, hown, hg⟩ := (tight ho).update law Try.underlying58 (by unfold maxLen; omega) (kof (c.place : Nat) (by omega) (by omega)) (RC_mk x)
  rw [← ex] at hrun
  have kk : Kp w w' [bc] := Kp.of_grown hg
  have hX : NoI w [bc] := NoI.cons (fun cs => h.ch.no cs 3) (noI_nil w)
  have hf : Fits w' x c := ⟨e2, e3, by rw [e1]; exact hrow.kept kk hX⟩
  have hset : St w' S v n xs := h.set.kept kk (by have := h.sc; simpa using this) (fun g hgv hm => by simp at hm; subst hm; exact h.vc hgv)
  exact ⟨w', hrun, ⟨kk.is h.one (by have := h.ac; simpa using this), hset, ⟨_, _, hown, (hD.kept kk hX).put (ho.tidy law).isMap hf hc hM hL⟩, h.wt.kept kk (by have := h.ne; simp; omega), h.ne⟩, hg⟩
/-- A chain goes out of the map. -/
theorem del_ch (h : Am w A S v bc bw n xs L W) (p : Nat) (hp : p ≤ 4096) (ty : TypeId) :
    ∃ w', (Builtin.delete_ #[58, 3] ty #[.map (some bc), .int .i64 (p : Nat)]).run Try.prog w = .ok (.tuple #[]) w' ∧ Am w' A S v bc bw n xs (eraC L (p : Nat)) W ∧ Kp w w' [bc] := by
  obtain ⟨k, D, ho, hD⟩ := h.ch
  obtain ⟨w', hrun, hown, ht⟩ := ho.drop law Try.underlying58 (kof (p : Nat) (by omega) (by omega)) ty
  have kk : Kp w w' [bc] := Kp.of_grown ht.grown
  have hX : NoI w [bc] := NoI.cons (fun cs => h.ch.no cs 3) (noI_nil w)
  have hset : St w' S v n xs := h.set.kept kk (by have := h.sc; simpa using this) (fun g hgv hm => by simp at hm; subst hm; exact h.vc hgv)
  exact ⟨w', hrun, ⟨kk.is h.one (by have := h.ac; simpa using this), hset, ⟨_, _, hown, (hD.kept kk hX).del _⟩, h.wt.kept kk (by have := h.ne; simp; omega), h.ne⟩, kk⟩
/-- One that waits comes in. -/
theorem up_wt (h : Am w A S v bc bw n xs L W) (hW : W.Nodup) (hl : W.length ≤ 8192) {p : Nat} (hp : p ≤ 4096) :
    ∃ w', (Instr.mapUpdate 59 (.map (some bw)) (.int .i64 (p : Nat)) (.agg #[])).run Try.prog w = .ok () w' ∧ Am w' A S v bc bw n xs L (p :: W) ∧ w.grownBy w' (some bw) := by
  obtain ⟨k, D, ho, hD⟩ := h.wt
  have hsz := size_of ho hW hD
  obtain ⟨w', hrun, hown, hg⟩ := (tight ho).update law Try.underlying59 (by unfold maxLen; omega) (kof (p : Nat) (by omega) (by omega)) unitElem_mk
  have kk : Kp w w' [bw] := Kp.of_grown hg
  have hX : NoI w [bw] := NoI.cons (fun cs => h.wt.no cs 3) (noI_nil w)
  have hset : St w' S v n xs := h.set.kept kk (by have := h.sw; simpa using this) (fun g hgv hm => by simp at hm; subst hm; exact h.vw hgv)
  refine ⟨w', hrun, ⟨kk.is h.one (by have := h.aw; simpa using this), hset, h.ch.kept kk (by have := h.ne; simpa using this) hX, ⟨_, _, hown, fun kl => ?_⟩, h.ne⟩, hg⟩
  by_cases e : kl = ky (p : Nat)
  · subst e
    rw [has_put_same (ho.tidy law).isMap (ky_is _)]
    simp
  · rw [has_put_other e, hD kl]
    constructor
    · rintro ⟨i, hi, e'⟩
      exact ⟨i, by simp [hi], e'⟩
    · rintro ⟨i, hi, e'⟩
      rcases List.mem_cons.1 hi with rfl | hi
      · exact absurd e' e
      · exact ⟨i, hi, e'⟩
theorem hold_bad {v : Value} {p : Int} {P : Option Addr} {n c : Nat} {r : Int} {s : Bool} {E : Int} (hf : Fd w v p P n c r s E) (hE : ¬ E = 0) : Calls Try.prog 21 #[v, .int .i64 p] w fun e w' => e = .returned (.int .i64 E) ∧ Below w.heap.size w w' := by
  unfold Fd at hf
  go_enter Try.func21, Try.ntmps21
  go_wp2_with (go_at_call 52; refine hf.mono ?_; rintro e w' ⟨rfl, hb⟩)
  go_ret
  exact ⟨rfl, below_alloc hb _⟩
theorem hold_full {v : Value} {p : Int} {P : Option Addr} {n c : Nat} {s : Bool} (hf : Fd w v p P n c 65535 s 0) : Calls Try.prog 21 #[v, .int .i64 p] w fun e w' => e = .returned (.int .i64 3) ∧ Below w.heap.size w w' := by
  unfold Fd at hf
  go_enter Try.func21, Try.ntmps21
  go_wp2_with (go_at_call 52; refine hf.mono ?_; rintro e w' ⟨rfl, hb⟩)
  go_ret
  exact ⟨rfl, below_alloc hb _⟩
theorem setC_mem {L : List Ch} (hs : Srt L) {c : Ch} (hc : c ∈ L) {g : Ch → Ch} (hg : ∀ c, (g c).secs = c.secs) :
    g c ∈ setC L (c.place : Nat) g ∧ (∀ y ∈ setC L (c.place : Nat) g, y = g c ∨ (y ∈ L ∧ y.place ≠ (g c).place)) ∧ (∀ y ∈ L, y.place ≠ (g c).place → y ∈ setC L (c.place : Nat) g) := by
  have hpl : (g c).place = c.place := by unfold Ch.place; rw [hg]
  unfold setC
  refine ⟨List.mem_map.2 ⟨c, hc, by simp⟩, fun y hy => ?_, fun y hy hne => List.mem_map.2 ⟨y, hy, by rw [if_neg (by rw [hpl] at hne; omega)]⟩⟩
  obtain ⟨d, hd, rfl⟩ := List.mem_map.1 hy
  by_cases e : ((d.place : Nat) : Int) = (c.place : Nat)
  · have : d = c := hs.inj hd hc (by omega)
    subst this
    exact .inl (by simp)
  · rw [if_neg e]
    exact .inr ⟨hd, by rw [hpl]; omega⟩
set_option maxHeartbeats 1000000 in
theorem hold_up (h : Am w A S v bc bw n xs L W) (hs : Srt L) (hl : L.length ≤ 8192) {c : Ch} (hc : c ∈ L) (hn : c.place ≤ 4096) (hr : c.refs < 65535) :
    Calls Try.prog 21 #[.pointer (some ⟨A, 0, none⟩), .int .i64 (c.place : Nat)] w fun e w' => e = .returned (.int .i64 0) ∧ Am w' A S v bc bw n xs (setC L (c.place : Nat) fun c => { c with refs := c.refs + 1 }) W ∧ Kp w w' [bc] := by
  obtain ⟨P, N, C, hrow, hf⟩ := find_some h hc hn
  unfold Fd at hf
  have hlt := h.ch.lt
  obtain ⟨m1, m2, m3⟩ := setC_mem hs hc (g := fun c => { c with refs := c.refs + 1 }) (fun _ => rfl)
  have hup : ∀ V, Below w.heap.size w V → ∃ w', (Instr.mapUpdate 58 (.map (some bc)) (.int .i64 (c.place : Nat)) (.agg #[.slice P N C, .int .i64 ((c.refs : Nat) + 1 : Int), .bool c.sure])).run Try.prog V = .ok () w' ∧ Am w' A S v bc bw n xs (setC L (c.place : Nat) fun c => { c with refs := c.refs + 1 }) W ∧ V.grownBy w' (some bc) :=
    fun V hb => up_ch (h.below hb) hs hl (c := { c with refs := c.refs + 1 }) (hrow.kept (Kp.of_below hb []) (noI_nil w)) hn m1 m2 m3
  have h1 : ∀ V, Below w.heap.size w V → V.cell? ⟨A, 1, none⟩ = some (.map (some bc)) := fun V hb => by have := (h.below hb).one.cell 1; simpa using this
  obtain ⟨r, er⟩ : ∃ r : Int, ((c.refs : Nat) : Int) = r := ⟨_, rfl⟩
  obtain ⟨p, ep⟩ : ∃ p : Int, ((c.place : Nat) : Int) = p := ⟨_, rfl⟩
  obtain ⟨s, es⟩ : ∃ s, c.sure = s := ⟨_, rfl⟩
  have hr1 : ¬ r = 65535 := by omega
  have hw : IntKind.i64.wrap (r + 1) = r + 1 := wrap_small (by omega) (by omega)
  rw [er, ep, es] at hup hf
  rw [ep]
  generalize (setC L p fun c => { c with refs := c.refs + 1 }) = M at hup
  clear h hrow m1 m2 m3 er ep es hr hn hc
  have HU := Lib.hid hup
  have H1 := Lib.hid h1
  clear hup h1
  go_enter Try.func21, Try.ntmps21
  go_wp2_with (go_at_call 52; refine hf.mono ?_; rintro e w' ⟨rfl, hb⟩)
  have i2 := Is.new w' 78 #[.slice P N C, .int .i64 (r + 1), .bool s]
  have hb2 : Below w.heap.size w (w'.alloc (.cells #[.slice P N C, .int .i64 (r + 1), .bool s] 78)).drew := below_drew (below_alloc hb _)
  have hlt2 : bc ≠ w'.heap.size := by have := hb.size; omega
  generalize w'.alloc (.cells #[.slice P N C, .int .i64 (r + 1), .bool s] 78) = w2 at i2 hb2 ⊢
  obtain ⟨w3, hrun3, hA3, hg3⟩ := HU.out _ hb2
  have i3 : Is w3 w'.heap.size 78 #[.slice P N C, .int .i64 (r + 1), .bool s] := (show Is w2.drew w'.heap.size 78 _ from i2).kept hg3 (by simpa using fun e => hlt2 e.symm)
  have hb3 : Kp w w3 [bc] := (Kp.of_below hb2 [bc]).trans (Kp.of_grown hg3) (fun y hy => .inl hy)
  have a3 := hA3.one.cell 1
  have S2 := And.intro (H1.out _ hb2) (And.intro (i2.cell 0) (And.intro (i2.cell 1) (i2.cell 2)))
  have S3 := And.intro a3 (And.intro (i3.cell 0) (And.intro (i3.cell 1) (i3.cell 2)))
  simp at S2 S3
  generalize w'.heap.size = g at S2 S3 ⊢
  clear i2 i3 hlt2 hg3 a3 hb hb2 hlt
  have HA := Lib.hid hA3
  have HK := Lib.hid hb3
  clear hA3 hb3
  go_region_held3 (fun wx => wx.cell? ⟨A, 1, none⟩ = some (.map (some bc)) ∧ wx.cell? ⟨g, 0, none⟩ = some (.slice P N C) ∧ wx.cell? ⟨g, 1, none⟩ = some (.int .i64 (r + 1)) ∧ wx.cell? ⟨g, 2, none⟩ = some (.bool s)) (first | exact S2 | exact S3)
    (fail)
  go_wp2
  go_ret
  exact ⟨rfl, HA.out, HK.out⟩
end
end Go.Proofs.Ytnpjbddannkgfaa
