/- Some of the chapter's answers; the law on what is written. Conditions: none. -/
import Derived.Test.YthgpffmgbooncaaWalksJ
namespace Go.Proofs.Ythgpffmgbooncaa
open Go.ChangeShapes Go.WideShapes Go.RowKit Go.Codec
set_option maxHeartbeats 1000000 in
theorem awake_any (w : World) : Calls Try.prog 9 #[] w fun e w' => e = .returned (.bool true) ∧ Below w.heap.size w w' := by
  have h0 := Wr.new w
  have hb0 : Below w.heap.size w (w.alloc (.cells #[.pointer none, .int .i64 0, .int .i64 0] 29)) := (Below.refl _ w).alloc (Nat.le_refl _) _
  have H1 := Lib.hid (u8_any w.heap.size 1 (by decide) (some []) _ h0 (by decide))
  have H2 := Lib.hid (fun w1 h => u16_any w.heap.size 258 (some [1]) w1 h (by decide))
  have H3 := Lib.hid (fun w1 h => text_any w.heap.size ⟨#[97, 98]⟩ (some [1, 1, 2]) w1 h (by decide))
  have H4 := Lib.hid (fun w1 h => bytes_any w.heap.size (some [1, 1, 2, 0, 2, 97, 98]) w1 h (by decide))
  have H5 := Lib.hid (new_any ⟨#[1, 2, 3]⟩ (by decide))
  have H6 := Lib.hid (fun r w1 h => ru16_any r ⟨[1, 2, 3], 0⟩ (by decide) w1 h)
  have H7 := Lib.hid (fun r w1 h => err_any r ⟨[3], 0⟩ w1 h)
  have H8 := Lib.hid (fun r w1 h => rest_any r ⟨[3], 0⟩ w1 h)
  have HB := Lib.hid hb0
  clear h0 hb0
  go_enter Try.func9, Try.ntmps9
  go_wp2_with fail
  refine H1.out.mono ?_
  rintro e w1 ⟨rfl, h1, g1⟩
  have A1 := Lib.hid h1; have B1 := Lib.hid (HB.out.trans (below_of_grow g1 (by simp) (Nat.le_refl _)))
  clear h1 g1
  go_wp2_with fail
  refine (H2.out _ A1.out).mono ?_
  rintro e w2 ⟨rfl, h1, g1⟩
  have A2 := Lib.hid h1; have B2 := Lib.hid (B1.out.trans (below_of_grow g1 B1.out.size (Nat.le_refl _)))
  clear h1 g1
  go_wp2_with fail
  refine (H3.out _ A2.out).mono ?_
  rintro e w3 ⟨rfl, h1, g1⟩
  have A3 := Lib.hid h1; have B3 := Lib.hid (B2.out.trans (below_of_grow g1 B2.out.size (Nat.le_refl _)))
  clear h1 g1
  go_wp2_with fail
  refine (H4.out _ A3.out).mono ?_
  rintro e w4 ⟨rfl, h1⟩
  have B4 := Lib.hid (B3.out.trans (h1.mono B3.out.size))
  clear h1
  have e4 : bs (told (some [1, 1, 2, 0, 2, 97, 98])).1 = ⟨#[1, 1, 2, 0, 2, 97, 98]⟩ := rfl
  have e5 : (told (some [1, 1, 2, 0, 2, 97, 98])).2 = 0 := rfl
  rw [e4, e5]
  clear e4 e5
  go_wp2_with fail
  refine (H5.out _).mono ?_
  rintro e w5 ⟨r, rfl, hr, h1, h2⟩
  have A5 := Lib.hid h1; have B5 := Lib.hid (B4.out.trans (h2.mono B4.out.size)); have R5 := Lib.hid (Nat.le_trans B4.out.size hr)
  clear hr h1 h2
  go_wp2_with fail
  refine (H6.out r _ A5.out).mono ?_
  rintro e w6 ⟨rfl, h1, g1⟩
  have A6 := Lib.hid h1; have B6 := Lib.hid (B5.out.trans (below_of_grow g1 B5.out.size R5.out))
  clear h1 g1
  have e6 : val ((⟨[1, 2, 3], 0⟩ : R).take 2) = 258 := rfl
  rw [e6]
  clear e6
  go_wp2_with fail
  refine (H7.out r _ A6.out).mono ?_
  rintro e w7 ⟨rfl, rfl⟩
  go_wp2_with fail
  refine (H8.out r _ A6.out).mono ?_
  rintro e w7 ⟨rfl, rfl⟩
  have e8 : bs (⟨[3], 0⟩ : R).rest = ⟨#[3]⟩ := rfl
  rw [e8]
  clear e8
  go_wp2
  go_ret
  exact ⟨rfl, B6.out⟩
set_option maxHeartbeats 2000000 in
theorem writes (A : Option Addr) (xs : List It) (cap : Nat) (hl : xs.length ≤ maxLen) (w : World) (h : Items w w.heap.size A xs) : Calls Try.prog 3 #[.slice A xs.length cap] w fun e w' => e = .returned (.bool true) ∧ Below w.heap.size w w' := by
  have HF := Lib.hid (few_any A xs cap hl w _ h)
  have HI := Lib.hid h; clear h
  have HA := Lib.hid awake_any
  unfold maxLen at hl
  obtain ⟨n, hn⟩ : ∃ n, n = xs.length := ⟨_, rfl⟩
  rw [← hn] at hl HF
  rw [← hn]
  have HN := Lib.hid hn; clear hn
  have HW := Lib.hid ((Wr.new w).below ((Below.refl _ _).alloc (Nat.le_refl _) (.cells #[.string ⟨#[]⟩, .bool false] 32)))
  have hrw : RW ((w.alloc (.cells #[.pointer none, .int .i64 0, .int .i64 0] 29)).alloc (.cells #[.string ⟨#[]⟩, .bool false] 32)) (w.heap.size + 1) (some []) := by
    have := Is.new (w.alloc (.cells #[.pointer none, .int .i64 0, .int .i64 0] 29)) 32 #[.string ⟨#[]⟩, .bool false]
    simp at this
    exact this
  have HR := Lib.hid hrw; clear hrw
  go_enter Try.func3, Try.ntmps3
  go_wp2_with fail
  refine HF.out.mono ?_
  rintro e w' ⟨b, rfl, rfl, hf⟩
  cases b with
  | false =>
    clear hf
    go_wp2_with (go_at_call 9; refine (HA.out _).mono ?_; rintro e w' ⟨rfl, hb⟩)
    go_ret
    exact ⟨rfl, hb⟩
  | true =>
    obtain ⟨hf60, hok⟩ := hf rfl
    have hn60 : n ≤ 60 := by rw [HN.out]; exact hf60
    have HO := Lib.hid hok
    clear hf hf60 hok
    go_wp2_with fail
    have HB0 := Lib.hid (((Below.refl _ w).alloc (Nat.le_refl _) (.cells #[.pointer none, .int .i64 0, .int .i64 0] 29)).alloc (by simp) (.cells #[.string ⟨#[]⟩, .bool false] 32))
    go_loopw [5] (fun i W => ∃ (k : Nat) (st : Option (List UInt8)), k ≤ n ∧ i = .int .i64 k ∧ Wr W w.heap.size st ∧ RW W (w.heap.size + 1) st ∧ Below w.heap.size w W ∧ wlen st ≤ k * 70100) (fun i _ => n - (intOf i).toNat)
    case atStart => exact ⟨0, some [], by omega, rfl, HW.out, HR.out, HB0.out, by decide⟩
    case round =>
      obtain ⟨k, st, hk, rfl, hW, hR, hB, hlen⟩ := hrel
      have HW1 := Lib.hid hW; have HR1 := Lib.hid hR; have HB1 := Lib.hid hB; have HL := Lib.hid hlen
      clear hW hR hB hlen HW HR HB0
      by_cases hlt : k < n
      · obtain ⟨x, hx⟩ : ∃ x, xs[k]? = some x := ⟨_, List.getElem?_eq_getElem (by rw [← HN.out]; exact hlt)⟩
        obtain ⟨h1, h2, -, ad, rfl, -, c0, c1, c2⟩ := HI.out.kept HB1.out k x hx
        have hxs : x.s.size ≤ 70000 := (HO.out x (List.mem_of_getElem? hx)).2
        have hsl := step_len st x 70000 hxs
        have HP := Lib.hid (put_any w.heap.size w.heap.size (w.heap.size + 1) x h1 h2 (by omega) st wr HW1.out HR1.out (by have := HL.out; omega) (Nat.le_refl _) (by omega))
        have HL2 : Hid (wlen (step st x) ≤ (k + 1) * 70100) := by have := HL.out; show _ ≤ _; omega
        have H4 := Lib.hid (fun w1 hh => bytes_any w.heap.size (step st x) w1 hh (by have := HL2.out; omega))
        have H5 := Lib.hid (fun w1 hh => rbytes_any (w.heap.size + 1) (step st x) w1 hh)
        clear hx hxs hsl
        generalize step st x = st' at *
        go_wp2_with fail
        refine HP.out.mono ?_
        rintro e w2 ⟨rfl, g1, g2, g3⟩
        have HW2 := Lib.hid g1; have HR2 := Lib.hid g2; have HB2 := Lib.hid (HB1.out.trans g3)
        clear g1 g2 g3
        go_wp2_with fail
        refine (H4.out _ HW2.out).mono ?_
        rintro e w3 ⟨rfl, g1⟩
        have HW3 := Lib.hid (HW2.out.below g1); have HR3 := Lib.hid (HR2.out.below g1); have HB3 := Lib.hid (HB2.out.trans (g1.mono HB2.out.size))
        clear g1
        go_wp2_with fail
        refine (H5.out _ HR3.out).mono ?_
        rintro e w4 ⟨rfl, rfl⟩
        clear H4 H5
        generalize bs (told st').1 = S
        generalize (told st').2 = E
        go_wp2
        refine ⟨⟨k + 1, st', by omega, by go_num, HW3.out, HR3.out, HB3.out, HL2.out⟩, ?_⟩
        simp [intOf]; omega
      · go_wp2_with (go_at_call 9; refine (HA.out _).mono ?_; rintro e w' ⟨rfl, hb⟩)
        go_ret
        exact ⟨rfl, HB1.out.trans (hb.mono HB1.out.size)⟩
end Go.Proofs.Ythgpffmgbooncaa
