/- one and alike over both lines. Conditions: none. -/
import Derived.Test.YtkefopakfjdfkaaFsH
namespace Go.Proofs.Ytkefopakfjdfkaa
open Go.ChangeShapes Go.WideShapes Go.RowKit Go.Maps
set_option maxRecDepth 100000
section
variable {W w w' : World} {F B b c G Bd g : Nat} {L : List Sc} {z : Int} {u v : Value} {xs : List Int} {k : Nat} {cut : Bool}
/-- Both lines, and they stand alike. -/
abbrev Jn (W w : World) (F B b c G Bd g : Nat) (L : List Sc) (k : Nat) (cut : Bool) (z : Int) (u v : Value) (xs : List Int) : Prop := Jm W w F B b c (cels L) k cut G Bd g L k cut z u v xs
theorem boxed_is (w : World) (x : Ac) : Is (boxed w x) w.heap.size 37 #[.int .u8 (x.what : Nat), .int .i64 x.at', .string x.s] := Is.new _ _ _
theorem boxed_below (w : World) (x : Ac) : Below w.heap.size w (boxed w x) := below_alloc (Below.refl _ _) _
theorem one_any (h : Jn W w F B b c G Bd g L k cut z u v xs) (hk : k < 1000000) (x : Ac) : Calls Try.prog 11 #[.pointer (some ⟨F, 0, none⟩), .pointer (some ⟨G, 0, none⟩), .agg x.cells] w
    fun e w' => e = .returned (.bool true) ∧ ∃ L' k' cut', Jn W w' F B b c G Bd g L' k' cut' z u v xs ∧ k' ≤ k + 1 := by
  have h1 := h.later (boxed_below w x)
  have hsz : ∀ {w2 : World} {st2 : List Cel} {k2 : Nat} {cut2 : Bool}, Lo W w2 F B b c st2 z u xs k2 cut2 → W.heap.size ≤ w2.heap.size := fun hl => hl.below.size
  have hF : F < w.heap.size := h.lo.ln.one.lt
  have hb := h.lo.ln.dev.lts
  have hc := h.lo.ln.dev.ltw
  have hw := h1.lo.ln
  have m4 : x.what % 4 = 0 ∨ x.what % 4 = 1 ∨ x.what % 4 = 2 ∨ x.what % 4 = 3 := by omega
  rcases m4 with hm | hm | hm | hm
  · cases cut with
    | true =>
      refine one_write (w := w) _ _ x (fun w2 => Jn W w2 F B b c G Bd g L k true z u v xs) _ hm 8 ((lwrite_not (er := 8) (by decide) (fun _ hb => check_any (h1.lo.ln.below hb)) x.at' x.s).mono fun e w2 ⟨a1, a2⟩ => ⟨a1, h1.later a2, Bc.kp (boxed_is w x) (Kp.of_below a2 []) (by simp)⟩) (fun w2 hj => ?_)
      refine (rlwrite_cut hj.rl x.at' x.s).mono ?_
      rintro e w3 ⟨rfl, rfl⟩
      exact ⟨rfl, L, k, true, hj, by omega⟩
    | false =>
      refine one_write (w := w) _ _ x (fun w2 => Jm W w2 F B b c (aft (cels L) (stW (cels L) x.at' x.s) xs z k) (k + 1) (decide ((k : Int) = z)) G Bd g L k false z u v xs) _ hm _ ((lwrite_up h1.lo.ln hk x.at' x.s).mono fun e w2 ⟨a1, a2, a3⟩ => ⟨a1, h1.stepA a2 a3, Bc.kp (boxed_is w x) a3 (by simp; omega)⟩) (fun w2 hj => ?_)
      refine (rlwrite_up (hsz hj.lo) hj.rl hk x.at' x.s).mono ?_
      rintro e w3 ⟨rfl, L', hL, hl, hk3⟩
      exact ⟨rfl, L', k + 1, _, by rw [Jn, hL]; exact hj.stepB hl hk3, by omega⟩
  · cases cut with
    | true =>
      refine one_barrier (w := w) _ _ x (fun w2 => Jn W w2 F B b c G Bd g L k true z u v xs) _ hm 8 ((lbarrier_not (er := 8) (by decide) (check_any h1.lo.ln)).mono fun e w2 ⟨a1, a2⟩ => ⟨a1, a2 ▸ h1⟩) (fun w2 hj => ?_)
      refine (rlbarrier_cut hj.rl).mono ?_
      rintro e w3 ⟨rfl, rfl⟩
      exact ⟨rfl, L, k, true, hj, by omega⟩
    | false =>
      refine one_barrier (w := w) _ _ x (fun w2 => Jm W w2 F B b c (aft (cels L) (bar (cels L)) xs z k) (k + 1) (decide ((k : Int) = z)) G Bd g L k false z u v xs) _ hm _ ((lbarrier_up h1.lo.ln hk).mono fun e w2 ⟨a1, a2, a3⟩ => ⟨a1, h1.stepA a2 a3⟩) (fun w2 hj => ?_)
      refine (rlbarrier_up (hsz hj.lo) hj.rl hk).mono ?_
      rintro e w3 ⟨rfl, L', hL, hl, hk3⟩
      exact ⟨rfl, L', k + 1, _, by rw [Jn, hL]; exact hj.stepB hl hk3, by omega⟩
  · cases cut with
    | true =>
      refine one_read (w := w) _ _ x (fun w2 => Jn W w2 F B b c G Bd g L k true z u v xs) _ hm ⟨#[]⟩ 8 ((lread_down h1.lo.ln x.at').mono fun e w2 ⟨a1, a2⟩ => ⟨a1, a2 ▸ h1, a2 ▸ Bc.kp (boxed_is w x) (Kp.refl _ []) (by simp)⟩) (fun w2 hj => ?_)
      refine (rlread_cut hj.rl x.at').mono ?_
      rintro e w3 ⟨rfl, rfl⟩
      exact ⟨rfl, L, k, true, hj, by omega⟩
    | false =>
      refine one_read (w := w) _ _ x (fun w2 => Jn W w2 F B b c G Bd g L k false z u v xs) _ hm (rdS (cels L) x.at') (rdE (cels L) x.at') ((lread_up h1.lo.ln x.at' _ _ (read_any h1.lo.ln.dev x.at')).mono fun e w2 ⟨a1, a2⟩ => ⟨a1, h1.later a2, Bc.kp (boxed_is w x) (Kp.of_below a2 []) (by simp)⟩) (fun w2 hj => ?_)
      refine (rlread_up hj.rl x.at' _ _ (rread_any hj.rl.dev x.at')).mono ?_
      rintro e w3 ⟨rfl, hb3⟩
      exact ⟨rfl, L, k, false, hj.later hb3, by omega⟩
  · cases cut with
    | true =>
      refine one_blow (w := w) _ _ x (fun w2 => Jn W w2 F B b c G Bd g L k true z u v xs) _ hm ((blow_down h1.lo.ln).mono fun e w2 ⟨a1, a2⟩ => ⟨a1, a2 ▸ h1⟩) (fun w2 hj => ?_)
      refine (rblow_cut hj.rl).mono ?_
      rintro e w3 ⟨rfl, rfl⟩
      exact ⟨rfl, L, k, true, hj, by omega⟩
    | false =>
      refine one_blow (w := w) _ _ x (fun w2 => Jm W w2 F B b c (crash (cels L) xs) k true G Bd g L k false z u v xs) _ hm ((blow_up h1.lo.ln).mono fun e w2 ⟨a1, a2, a3⟩ => ⟨a1, h1.stepA a2 a3⟩) (fun w2 hj => ?_)
      refine (rblow_up (hsz hj.lo) hj.rl).mono ?_
      rintro e w3 ⟨rfl, L', hL, hl, hk3⟩
      exact ⟨rfl, L', k, true, by rw [Jn, hL]; exact hj.stepB hl hk3, by omega⟩
end
set_option maxHeartbeats 2000000 in
theorem alike_any {W : World} {A : Option Addr} {l : List Ac} {cap : Nat} (hl : l.length ≤ maxLen) (hA : Acts W W.heap.size A l) {B b c Bd g : Nat} {L : List Sc} {w : World} (hW : Below W.heap.size W w) (hd : Dv w B b c (cels L)) (hr : Rv w Bd g L) :
    Calls Try.prog 15 #[.pointer (some ⟨B, 0, none⟩), .pointer (some ⟨Bd, 0, none⟩), .slice A l.length cap] w fun e w' => e = .returned (.bool true) ∧ Below w.heap.size w w' := by
  unfold maxLen at hl
  have HA := Lib.hid hA
  have HR := Lib.hid (fun (w1 : World) (hb : Below w.heap.size w w1) (i : Int) => read_any (hd.below hb) i)
  have HQ := Lib.hid (fun (w1 : World) (hb : Below w.heap.size w w1) (i : Int) => rread_any (hr.below hb) i)
  have HW := Lib.hid (fun (w1 : World) (hb : Below w.heap.size w w1) => waiting_yes (hd.below hb))
  have HV := Lib.hid (fun (w1 : World) (hb : Below w.heap.size w w1) => rwaiting_any (hr.below hb))
  have HB := Lib.hid (fun (w1 : World) (hb : Below w.heap.size w w1) => hW.trans (hb.mono hW.size))
  have hsz := hW.size
  clear hA hd hr hW
  obtain ⟨n, hn⟩ : ∃ n, l.length = n := ⟨_, rfl⟩
  have HN := Lib.hid hn
  rw [hn] at hl ⊢
  clear hn
  go_enter Try.func15, Try.ntmps15
  go_wp2
  go_loopw [7] (fun i wr => ∃ k : Nat, i = .int .i64 (k : Int) ∧ k ≤ n ∧ Below w.heap.size w wr) (fun i _ => n - (RowKit.intOf i).toNat)
  case atStart => exact ⟨0, rfl, Nat.zero_le _, Below.refl _ _⟩
  case round =>
    obtain ⟨k, rfl, hkn, hbw⟩ := hrel
    by_cases hlt : k < n
    · obtain ⟨x, hx⟩ : ∃ x, l[k]? = some x := ⟨_, List.getElem?_eq_getElem (by rw [HN.out]; exact hlt)⟩
      obtain ⟨ad, rfl, hat⟩ := acts_at HA.out hx
      obtain ⟨c0, c1, c2⟩ := hat wr (HB.out wr hbw)
      have HAT := Lib.hid hat
      have R1 := Lib.hid (HR.out wr hbw x.at')
      obtain ⟨S, hS⟩ : ∃ S, rdS (cels L) x.at' = S := ⟨_, rfl⟩
      obtain ⟨er, hE⟩ : ∃ er, rdE (cels L) x.at' = er := ⟨_, rfl⟩
      have R2 := Lib.hid (fun (w1 : World) (hb : Below w.heap.size w w1) => HQ.out w1 hb x.at')
      rw [hS, hE] at R1 R2
      clear hat hx hS hE
      go_wp2_with (first
        | (go_at_call 23; refine R1.out.mono ?_; rintro e w1 ⟨rfl, hb1⟩; (have hw1 := hbw.trans (hb1.mono hbw.size)); (obtain ⟨d0, d1, d2⟩ := HAT.out _ (HB.out _ hw1)); clear hb1)
        | (go_at_call 31; refine (R2.out _ hw1).mono ?_; rintro e w2 ⟨rfl, hb2⟩; (have hw2 := hw1.trans (hb2.mono hw1.size)); clear hb2))
      go_roundw
      case rel => exact ⟨k + 1, by go_num, by omega, hw2⟩
      case measure => simp [RowKit.intOf]; omega
    · have HK := Lib.hid hbw
      clear hbw
      go_wp2_with (first
        | (go_at_call 24; refine (HW.out wr HK.out).mono ?_; rintro e w1 ⟨rfl, rfl⟩)
        | (go_at_call 32; refine (HV.out wr HK.out).mono ?_; rintro e w1 ⟨rfl, rfl⟩))
      go_ret
      exact ⟨rfl, HK.out⟩
end Go.Proofs.Ytkefopakfjdfkaa
