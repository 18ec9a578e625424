/- Alloc. Conditions: none. -/
import Derived.Test.YtnpjbddannkgfaaAlD
namespace Go.Proofs.Ytnpjbddannkgfaa
open Go.ChangeShapes Go.WideShapes Go.RowKit Go.Maps Go.Spans Go.Alloc
set_option maxRecDepth 100000
theorem own_shape {w : World} {base e size n : Nat} {v : Value} {cs : List Value} (h : w.ownsRow base e size v n cs) : ∃ P C, v = .slice P n C := by
  rcases h.2 with ⟨h1, h2⟩ | ⟨g, cap, cur, h1, _⟩
  · exact ⟨none, 0, by rw [h1, h2]⟩
  · exact ⟨_, _, h1⟩
theorem row_kp {w w' : World} {base size n : Nat} {v : Value} {cs : List Value} {X : List Nat} (h : w.ownsRow base 3 size v n cs) (hk : Kp w w' X) (hX : NoI w X) : w'.ownsRow base 3 size v n cs := by
  obtain ⟨h0, h⟩ := h
  refine ⟨h0, ?_⟩
  rcases h with h | ⟨g, cap, cur, h1, h2, h3, h4⟩
  · exact .inl h
  · exact .inr ⟨g, cap, cur, h1, h2, (hk.is (g := g) h3 (fun hm => hX g hm _ h3)), h4⟩
theorem clone_sl {w : World} {v : Value} {xs : List Int} (h : Sl w v xs) (hl : xs.length ≤ 8192) : Calls Try.prog 36 #[v] w fun e w' => ∃ P C, e = .returned (.slice P xs.length C) ∧ w'.ownsRow w.heap.size 3 1 (.slice P xs.length C) xs.length (zs xs) ∧ Below w.heap.size w w' := by
  refine (clone_any h hl).mono ?_
  rintro e w' ⟨v', rfl, hr, hb⟩
  obtain ⟨P, C, rfl⟩ := own_shape hr
  exact ⟨P, C, rfl, hr, hb⟩
theorem map_offC {w : World} {bc : Nat} {L : List Ch} (h : MC w bc L) {g : Nat} {t : TypeId} {cs : Array Value} (hi : Is w g t cs) : g ∉ [bc] := by
  intro hm
  simp at hm
  subst hm
  exact h.no _ _ hi
section
variable {w : World} {A S : Nat} {v : Value} {bc bw n : Nat} {xs : List Sp} {L : List Ch} {W : List Nat}
theorem take_al (h : Am w A S v bc bw n xs L W) (k : Int) : Calls Try.prog 51 #[.pointer (some ⟨S, 0, none⟩), .int .i64 k] w fun e w' => ∃ P C v', e = .returned (.tuple #[.slice P (takeL xs k).length C, .int .i64 (takeE xs k)]) ∧
    Ta w w' A S v v' bc bw n (takeX xs k) L W ∧ w'.ownsRow w.heap.size 3 1 (.slice P (takeL xs k).length C) (takeL xs k).length (ints (takeL xs k)) := by
  refine (take_c h.set k).mono ?_
  rintro e w' ⟨r, v', rfl, hto, hr⟩
  obtain ⟨P, C, rfl⟩ := own_shape hr
  refine ⟨P, C, v', rfl, ⟨h.to hto, hto.kp.more ?_, hto.lies⟩, hr⟩
  intro g hg
  simp only [bl, List.mem_cons] at hg ⊢
  rcases hg with rfl | hg
  · simp
  · simp [hg]
theorem alloc_fail (h : Am w A S v bc bw n xs L W) (k : Int) {E : Int} (hE : takeE xs k = E) (hE0 : ¬ E = 0) : Calls Try.prog 20 #[.pointer (some ⟨A, 0, none⟩), .int .i64 k] w fun e w' => e = .returned (.tuple #[.slice none 0 0, .int .i64 E]) ∧ ∃ v', Ta w w' A S v v' bc bw n (takeX xs k) L W := by
  have hm := made_yes h
  have ht := take_al h k
  rw [hE] at ht
  have c0 := h.one.cell 0
  simp at c0
  have HT := Lib.hid ht
  clear h ht hE
  go_enter Try.func20, Try.ntmps20
  go_wp2_with (first
    | (go_at_call 33; refine hm.mono ?_; rintro e w' ⟨rfl, rfl⟩)
    | (go_at_call 51; refine HT.out.mono ?_; rintro e w' ⟨P, C, v', rfl, hta, hr⟩; have HA := Lib.hid hta; clear hta hr))
  go_ret2
  exact ⟨rfl, _, HA.out⟩
set_option maxHeartbeats 1000000 in
theorem alloc_ok (h : Am w A S v bc bw n xs L W) (hs : Srt L) (hl : L.length ≤ 8192) (k : Int) (hE : takeE xs k = 0) {T : List Nat} (hT : takeL xs k = T) {p : Nat} (hp : T[0]? = some p) (hp4 : p ≤ 4096) (hTl : T.length ≤ 8192) (hnew : ∀ x ∈ L, x.place ≠ p) :
    Calls Try.prog 20 #[.pointer (some ⟨A, 0, none⟩), .int .i64 k] w fun e w' => ∃ P C v', e = .returned (.tuple #[.slice P T.length C, .int .i64 0]) ∧ Ta w w' A S v v' bc bw n (takeX xs k) (insC ⟨T, 1, false⟩ L) W ∧ w'.ownsRow w.heap.size 3 1 (.slice P T.length C) T.length (ints T) := by
  have hm := made_yes h
  have ht := take_al h k
  rw [hE, hT] at ht
  have hpl : (⟨T, 1, false⟩ : Ch).place = p := by
    unfold Ch.place
    cases T with
    | nil => cases hp
    | cons a l => simpa using hp
  have c0 := h.one.cell 0
  simp at c0
  -- what comes of the clone
  have hup : ∀ (w1 w2 : World) (v1 : Value) (ys : List Sp) (P : Option Addr) (N C : Nat), Am w1 A S v1 bc bw n ys L W → Below w1.heap.size w1 w2 → w2.ownsRow 0 3 1 (.slice P N C) T.length (ints T) →
      ∃ w3, (Instr.mapUpdate 58 (.map (some bc)) (.int .i64 (p : Nat)) (.agg #[.slice P N C, .int .i64 1, .bool false])).run Try.prog w2 = .ok () w3 ∧ Am w3 A S v1 bc bw n ys (insC ⟨T, 1, false⟩ L) W ∧ Kp w1 w3 [bc] := by
    intro w1 w2 v1 ys P N C h1 hb hrow
    obtain ⟨w3, e1, e2, e3⟩ := up_ch (h1.below hb) hs hl (c := ⟨T, 1, false⟩) hrow (by rw [hpl]; exact hp4) (M := insC ⟨T, 1, false⟩ L) (insC_mem.2 (.inl rfl)) (fun y hy => by
      rcases insC_mem.1 hy with e | e
      · exact .inl e
      · exact .inr ⟨e, by rw [hpl]; exact hnew y e⟩) (fun y hy _ => insC_mem.2 (.inr hy))
    rw [hpl] at e1
    exact ⟨w3, e1, e2, (Kp.of_below hb [bc]).trans (Kp.of_grown e3) (fun y hy => .inl hy)⟩
  obtain ⟨m, hm0⟩ : ∃ m, T.length = m := ⟨_, rfl⟩
  have hm1 : 0 < m := by
    cases T with
    | nil => cases hp
    | cons a l => simp at hm0; omega
  have hcl : ∀ (w1 : World) (P : Option Addr) (C : Nat), w1.ownsRow w.heap.size 3 1 (.slice P m C) m (ints T) → (∃ g, P = some ⟨g, 0, none⟩ ∧ w1.cell? ⟨g, 0, none⟩ = some (.int .i64 (p : Nat))) ∧
      Calls Try.prog 36 #[.slice P m C] w1.drew fun e w2 => ∃ P' C', e = .returned (.slice P' m C') ∧ w2.ownsRow 0 3 1 (.slice P' m C') T.length (ints T) ∧ Below w1.drew.heap.size w1.drew w2 := by
    intro w1 P C hr
    subst hm0
    have hin : In w1 (.slice P T.length C) T := low_row hr (Nat.zero_le _)
    have hsl := hin.sl
    refine ⟨?_, ?_⟩
    · rcases hr.2 with ⟨e, e0⟩ | ⟨g, cap, cur, e, _⟩
      · omega
      · injection e with e e2 e3
        obtain ⟨a, c, ea, hx⟩ := hsl
        injection ea with ea
        obtain ⟨ad, e4, e5⟩ := hx 0 (p : Nat) (by simp [nz, hp])
        refine ⟨g, e, ?_⟩
        rw [ea, e4] at e
        injection e with e
        rw [e, add_at] at e5
        exact e5
    · refine (clone_sl (w := w1.drew) (xs := nz T) (by simpa [nz] using hsl.below (w' := w1.drew) ⟨rfl, rfl, rfl, Nat.le_refl _, fun _ _ => rfl⟩) (by simpa [nz] using hTl)).mono ?_
      rintro e w2 ⟨P', C', rfl, hrow, hb⟩
      refine ⟨P', C', by simp [nz], ?_, hb⟩
      have := low_row hrow (Nat.zero_le _)
      rw [← ints_zs] at this
      simpa [nz] using this
  rw [hm0] at ht ⊢
  have HT := Lib.hid ht
  have HU := Lib.hid hup
  have HC := Lib.hid hcl
  have HL := Lib.hid hm0
  clear h ht hE hT hup hcl hnew hpl hTl hp hm0
  go_enter Try.func20, Try.ntmps20
  go_wp2_with (first
    | (go_at_call 33; refine hm.mono ?_; rintro e w' ⟨rfl, rfl⟩)
    | (go_at_call 51; refine HT.out.mono ?_; rintro e w' ⟨P, C, v', rfl, hta, hr⟩; have HA := Lib.hid hta; have HR := Lib.hid hr; clear hta hr))
  obtain ⟨⟨g, rfl, hcell⟩, hclone⟩ := HC.out _ _ _ HR.out
  have hbd : Below w'.heap.size w' w'.drew := ⟨rfl, rfl, rfl, Nat.le_refl _, fun _ _ => rfl⟩
  have hAd := HA.out.am.below hbd
  have hS : ∀ wx, Kp w'.drew wx [bc] → wx.cell? ⟨A, 1, none⟩ = some (.map (some bc)) ∧ wx.cell? ⟨g, 0, none⟩ = some (.int .i64 (p : Nat)) := by
    intro wx hk
    refine ⟨?_, ?_⟩
    · have := (hk.is hAd.one (by have := hAd.ac; simpa using this)).cell 1
      simpa using this
    · rcases HR.out.2 with ⟨e, e0⟩ | ⟨g', cap, cur, e, e1, e2, _⟩
      · omega
      · injection e with e _ _
        injection e with e
        injection e with e _ _
        subst e
        have hi : Is w'.drew g 3 cur := e2
        rw [← hcell]
        exact World.cell?_of_block (w := w') (hk.block g hi.lt (map_offC hAd.ch hi))
  have S2 := hS _ (Kp.refl _ _)
  have HS := Lib.hid hS
  have HD := Lib.hid hAd
  have HB := Lib.hid hbd
  clear hS hAd hbd hcell
  go_region_held3 (fun wx => wx.cell? ⟨A, 1, none⟩ = some (.map (some bc)) ∧ wx.cell? ⟨g, 0, none⟩ = some (.int .i64 (p : Nat)))
    (first | exact S2 | exact HS.out _ (by assumption))
    (first
      | (go_at_call 36; refine hclone.mono ?_; rintro e w4 ⟨P', C', rfl, hrow, hb⟩; (obtain ⟨w5, hrun5, hA5, hk5⟩ := HU.out _ w4 v' _ P' m C' HD.out hb hrow); have hk4 : Kp w'.drew w4 [bc] := Kp.of_below hb _; have HA5 := Lib.hid hA5; clear hA5 hrow hb))
  go_wp2
  go_ret2
  have k5 : Kp w' w5 [bc] := (Kp.of_below HB.out [bc]).trans hk5 (fun y hy => .inl hy)
  have hN : NoI w' [bc] := NoI.cons (fun cs => HA.out.am.ch.no cs 3) (noI_nil w')
  exact ⟨_, _, v', rfl, HA.out.trans ⟨HA5.out, k5.more (by intro g hg; simp at hg; simp [bl, hg]), fun g hg => .inl hg⟩, row_kp HR.out k5 hN⟩
end
end Go.Proofs.Ytnpjbddannkgfaa
