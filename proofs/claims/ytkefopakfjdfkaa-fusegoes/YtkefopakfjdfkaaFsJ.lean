/- FuseGoes. Conditions: none. -/
import Derived.Test.YtkefopakfjdfkaaFsI
import Derived.Test.YtkefopakfjdfkaaFsE
namespace Go.Proofs.Ytkefopakfjdfkaa
open Go.ChangeShapes Go.WideShapes Go.RowKit Go.Maps
set_option maxRecDepth 100000
theorem rnew512 (w : World) : Calls Try.prog 10 #[.int .i64 512] w fun e w' => ∃ B g, e = .returned (.pointer (some ⟨B, 0, none⟩)) ∧ Rv w' B g (List.replicate 512 sc0) ∧ (w.heap.size ≤ B ∧ w.heap.size ≤ g) ∧ Below w.heap.size w w' := by
  refine (rnew_any 512 w).mono ?_
  rintro e w' ⟨v, rfl, hm⟩
  cases hm with
  | none _ hw => omega
  | some m' B g hn h0 h1 hd hB hb =>
    obtain rfl : m' = 512 := by omega
    exact ⟨B, g, rfl, hd, hB, hb⟩
theorem below_drew {w : World} : Below w.heap.size w w.drew := ⟨rfl, rfl, rfl, Nat.le_refl _, fun _ _ => rfl⟩
theorem jn_start {W w1 w2 : World} {F B b c Bd g : Nat} {z : Int} {u v : Value} {xs : List Int} (hs : Sw W W.heap.size v xs) (hl : Lo W w1 F B b c (fresh 512) z u xs 0 false)
    (hr : Rv w2 Bd g (List.replicate 512 sc0)) (hn : w1.heap.size ≤ Bd ∧ w1.heap.size ≤ g) (hb : Below w1.heap.size w1 w2) :
    Jn W (w2.alloc (.cells #[.pointer (some ⟨Bd, 0, none⟩), .int .i64 z, v, .int .i64 0, .bool false] 34)) F B b c w2.heap.size Bd g (List.replicate 512 sc0) 0 false z u v xs := by
  have h2 := hl.later hb
  have hb2 : Below w2.heap.size w2 (w2.alloc (.cells #[.pointer (some ⟨Bd, 0, none⟩), .int .i64 z, v, .int .i64 0, .bool false] 34)) := below_alloc (Below.refl _ _) _
  have hF := hl.ln.one.lt
  have hs1 := hl.below.size
  have hs2 := hb.size
  refine ⟨by rw [cels_new]; exact h2.later hb2, ⟨Is.new _ _ _, hr.below hb2, hs.kept (h2.below.trans (hb2.mono h2.below.size)), by omega⟩, by omega⟩
set_option maxHeartbeats 8000000 in
theorem goes_law (z : Int) (v : Value) (xs : List Int) (A : Option Addr) (l : List Ac) (cap : Nat) (hl : l.length ≤ maxLen) (W : World) (iv : Sw W W.heap.size v xs) (i0 : Acts W W.heap.size A l) :
    Calls Try.prog 3 #[.int .i64 z, v, .slice A l.length cap] W fun e w' => e = .returned (.bool true) ∧ Below W.heap.size W w' := by
  have IV := Lib.hid iv
  obtain ⟨a, cp, rfl, -⟩ := iv
  have HF := Lib.hid (few_any A l cap hl W W.heap.size i0)
  have HA := Lib.hid i0
  have HLk := Lib.hid (fun (B b c Bd g : Nat) (L : List Sc) (w1 : World) (hW : Below W.heap.size W w1) (hd : Dv w1 B b c (cels L)) (hr : Rv w1 Bd g L) => alike_any (cap := cap) hl i0 hW hd hr)
  have C8 := Lib.hid (new512 W)
  have heq := eql26
  clear i0
  obtain ⟨n, hn⟩ : ∃ n, l.length = n := ⟨_, rfl⟩
  have HN := Lib.hid hn
  rw [hn] at HF HLk ⊢
  clear hn hl
  obtain ⟨m, hm⟩ : ∃ m, xs.length = m := ⟨_, rfl⟩
  have HM := Lib.hid hm
  rw [hm] at IV ⊢
  by_cases hm20 : 20 < m
  · clear hm
    go_enter Try.func3, Try.ntmps3
    go_wp2_with (first
      | (go_at_call 6; refine HF.out.mono ?_; rintro e w2 ⟨q, rfl, rfl, hq⟩)
      | (go_at_call 7; refine (awake_any _).mono ?_; rintro e w2 ⟨rfl, hb⟩))
    all_goals
      go_ret
      exact ⟨rfl, hb⟩
  have C9 := Lib.hid (fun (w1 : World) (B b c : Nat) (ho : Own W w1 B b c (fresh 512)) => lo_new ho (IV.out.kept ho.below).sl (by rw [hm]; omega) z)
  clear hm
  go_enter Try.func3, Try.ntmps3
  go_wp2_with (first
    | (go_at_call 6; refine HF.out.mono ?_; rintro e w2 ⟨q, rfl, rfl, hq⟩)
    | (go_at_call 7; refine (awake_any _).mono ?_; rintro e w2 ⟨rfl, hb⟩)
    | (go_at_call 8; refine C8.out.mono ?_; rintro e w1 ⟨B, b, c, rfl, ho⟩)
    | (go_at_call 9; refine (C9.out w1 B b c ho).mono ?_; rintro e w2 ⟨F, u, rfl, hl, -⟩; clear ho)
    | (go_at_call 10; refine (rnew512 _).mono ?_; rintro e w3 ⟨Bd, g, rfl, hd, hnew, hb3⟩))
  all_goals try (go_ret; exact ⟨rfl, hb⟩)
  have hJ := Lib.hid (jn_start IV.out hl hd hnew hb3)
  have hq1 : q = true := by assumption
  have hn80 : n ≤ 80 := by have := hq hq1; unfold Few at this; rw [← HN.out]; exact this
  clear hq hl hd hnew hb3
  subst hq1
  go_loopw [10] (fun i wr => ∃ (k kk : Nat) (cut : Bool) (L : List Sc), i = .int .i64 (k : Int) ∧ k ≤ n ∧ kk ≤ k ∧ Jn W wr F B b c w3.heap.size Bd g L kk cut z u (.slice a m cp) xs) (fun i _ => n - (RowKit.intOf i).toNat)
  case atStart => exact ⟨0, 0, false, _, rfl, Nat.zero_le _, Nat.le_refl _, hJ.out⟩
  case round =>
    obtain ⟨k, kk, cut, L, rfl, hkn, hkk, hJ1⟩ := hrel
    clear hJ
    by_cases hlt : k < n
    · obtain ⟨x, hx⟩ : ∃ x, l[k]? = some x := ⟨_, List.getElem?_eq_getElem (by rw [HN.out]; exact hlt)⟩
      obtain ⟨ad, rfl, hat⟩ := acts_at HA.out hx
      have hJd := hJ1.later below_drew
      obtain ⟨c0, c1, c2⟩ := hat _ hJd.lo.below
      have H11 := one_any hJd (by omega) x
      unfold Ac.cells at H11
      have HO := Lib.hid H11
      clear hat hx hJ1 hJd H11
      go_wp2
      go_region_with (first
        | (go_at_call 11; refine HO.out.mono ?_; rintro e w4 ⟨rfl, L', k', cut', hJ4, hk'⟩; (obtain ⟨d0, d1, d2, d3, d4⟩ := hJ4.rl.cells); have H12 := count_any hJ4.lo.ln; have H13 := down_any hJ4.lo.ln; have HJ4 := Lib.hid hJ4; clear hJ4)
        | (go_at_call 12; refine H12.mono ?_; rintro e w5 ⟨rfl, rfl⟩)
        | (go_at_call 13; refine H13.mono ?_; rintro e w5 ⟨rfl, rfl⟩))
      all_goals
        clear d0 d1 d2 d3 d4 H12 H13 c0 c1 c2
        go_wp2
        go_roundw
        case rel => exact ⟨k + 1, k', cut', L', by go_num, by omega, by omega, HJ4.out⟩
        case measure => simp [RowKit.intOf]; omega
    · have HJ4 := Lib.hid hJ1
      have H14 := device_any hJ1.lo.ln
      obtain ⟨d0, d1, d2, d3, d4⟩ := hJ1.rl.cells
      have H15 := Lib.hid (HLk.out B b c Bd g L wr hJ1.lo.below hJ1.lo.ln.dev hJ1.rl.dev)
      clear hJ1
      go_wp2_with (first
        | (go_at_call 14; refine H14.mono ?_; rintro e w5 ⟨rfl, rfl⟩)
        | (go_at_call 15; refine H15.out.mono ?_; rintro e w5 ⟨rfl, hb5⟩)
        | (go_at_call 7; refine (awake_any _).mono ?_; rintro e w6 ⟨rfl, hb6⟩))
      go_ret
      exact ⟨rfl, (HJ4.out.lo.below.trans (hb5.mono HJ4.out.lo.below.size)).trans (hb6.mono (HJ4.out.lo.later hb5).below.size)⟩
end Go.Proofs.Ytkefopakfjdfkaa
