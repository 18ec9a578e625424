/- Something read by both; the law on what is read. Conditions: lengths below 2^40. -/
import Derived.Test.YthgpffmgbooncaaWalksK
namespace Go.Proofs.Ythgpffmgbooncaa
open Go.ChangeShapes Go.WideShapes Go.RowKit Go.Codec
structure Ak where
  kind : Nat
  n : Int
/-- What asking makes of a reader. -/
def ask (x : R) (k : Ak) : R :=
  if k.kind % 6 = 0 then x.drop 1 else if k.kind % 6 = 1 then x.drop 2 else if k.kind % 6 = 2 then x.drop 4 else if k.kind % 6 = 3 then x.drop 8 else if k.kind % 6 = 4 then x.drop k.n.toNat else x.behind
theorem ask_len (x : R) (k : Ak) : (ask x k).rest.length ≤ x.rest.length := by
  unfold ask
  split
  · exact drop_len _ _
  split
  · exact drop_len _ _
  split
  · exact drop_len _ _
  split
  · exact drop_len _ _
  split
  · exact drop_len _ _
  · exact Nat.le_trans (drop_len _ _) (drop_len _ _)
theorem Rd.below {w w' : World} {r : Nat} {x : R} (h : Rd w r x) (hb : Below w.heap.size w w') : Rd w' r x := Is.kept h (grow_below hb none) (by simp)
def Same (B r q : Nat) (x : R) (w : World) (e : Ending) (w' : World) : Prop := e = .returned (.bool true) ∧ Rd w' r x ∧ RR w' q x ∧ Below B w w'
theorem same_of {B r q : Nat} {x x' : R} {w w1 : World} (hB : B ≤ w.heap.size) (ha : B ≤ r) (hb : B ≤ q) (hq : RR w q x) (h1 : Rd w1 r x') (g1 : w.grownBy w1 (some r)) (hr : Rd w r x) :
    RR w1 q x ∧ (∀ w2, RR w2 q x' → w1.grownBy w2 (some q) → Rd w2 r x' ∧ Below B w w2) := by
  obtain ⟨cs, hi⟩ := hq.is
  have hne : q ≠ r := hi.ne hr (by decide)
  have hr1 : RR w1 q x := hq.kept g1 (by intro e; injection e with e; exact hne e)
  refine ⟨hr1, fun w2 h2 g2 => ⟨?_, ?_⟩⟩
  · exact Is.kept h1 g2 (by intro e; injection e with e; exact hne e.symm)
  · exact (below_of_grow g1 hB ha).trans (below_of_grow g2 (Nat.le_trans hB g1.size) hb)
theorem val_bd (x : R) (k m : Nat) (h : 256 ^ k = m) : val (x.take k) < m := by
  have h1 := val_lt (x.take k)
  have h2 : 256 ^ (x.take k).length ≤ 256 ^ k := Nat.pow_le_pow_right (by decide) (take_len x k)
  omega
set_option maxHeartbeats 1000000 in
theorem one_0 (B r q : Nat) (k : Ak) (hk : k.kind % 6 = 0) (hk8 : k.kind < 256) (hi : -9223372036854775808 ≤ k.n ∧ k.n ≤ 9223372036854775807) (x : R) (w : World) (hW : Rd w r x) (hR : RR w q x) (hl : x.rest.length ≤ 1099511627776) (ha : B ≤ r) (hb : B ≤ q) :
    Calls Try.prog 14 #[.pointer (some ⟨r, 0, none⟩), .pointer (some ⟨q, 0, none⟩), .agg #[.int .u8 k.kind, .int .i64 k.n]] w (Same B r q (ask x k) w) := by
  have hst : ask x k = x.drop 1 := by unfold ask; rw [hk]; rfl
  rw [hst]
  clear hst
  obtain ⟨kind, n⟩ := k
  simp only at hk hk8 hi ⊢
  have hB : B ≤ w.heap.size := by have := hW.lt; omega
  have hk' : (kind : Int) % 6 = 0 := by omega
  clear hk
  obtain ⟨v, hv⟩ : ∃ v, v = w.alloc (.cells #[.int .u8 kind, .int .i64 n] 49) := ⟨_, rfl⟩
  have hbv : Below w.heap.size w v := by rw [hv]; exact (Below.refl _ w).alloc (Nat.le_refl _) _
  have hWv := hW.below hbv
  have hRv := hR.below hbv
  have hBv : Below B w v := hbv.mono hB
  have hV := val_bd x 1 256 (by decide)
  have h1 : Calls Try.prog 25 #[.pointer (some ⟨r, 0, none⟩)] v (Got .u8 r (val (x.take 1)) (x.drop 1) v) := ru8_any r x hl v hWv
  have h2 : ∀ w1, Rd w1 r (x.drop 1) → v.grownBy w1 (some r) → (RR w1 q x ∧ (∀ w2, RR w2 q (x.drop 1) → w1.grownBy w2 (some q) → Rd w2 r (x.drop 1) ∧ Below B v w2)) ∧ w1.cell? ⟨w.heap.size, 1, none⟩ = some (.int .i64 n) := fun w1 h1 g1 => by
    have hb := same_of (Nat.le_trans hB hbv.size) ha hb hRv (x' := x.drop 1) (w1 := w1) h1 g1 hWv
    rw [hv] at g1
    exact ⟨hb, boxed hW.lt g1 1⟩
  have h3 : ∀ w1, RR w1 q x → Calls Try.prog 37 #[.pointer (some ⟨q, 0, none⟩), .int .i64 1] w1 (RGot q (val (x.take 1)) (x.drop 1) w1) := fun w1 h => rrnum_any q x 1 (by omega) w1 h
  have H1 := Lib.hid h1
  have H2 := Lib.hid h2
  have H3 := Lib.hid h3
  have HB := Lib.hid hBv
  clear hW hR hbv hWv hRv hBv h1 h2 h3
  subst hv
  generalize val (x.take 1) = V at *
  generalize x.drop 1 = y at *
  go_enter Try.func14, Try.ntmps14
  go_wp2_with (first
    | (go_at_call 25; refine H1.out.mono ?_; rintro e w1 ⟨rfl, h1, g1⟩; obtain ⟨hx, d1⟩ := H2.out w1 h1 g1; have HW1 := Lib.hid hx; clear h1 g1 hx)
    | (go_at_call 37; refine (H3.out _ HW1.out.1).mono ?_; rintro e w2 ⟨rfl, h2, g2⟩; have HX := Lib.hid h2; have HG := Lib.hid g2; clear h2 g2))
  go_ret
  obtain ⟨h1, hb1⟩ := HW1.out.2 w2 HX.out HG.out
  exact ⟨rfl, h1, HX.out, HB.out.trans hb1⟩
set_option maxHeartbeats 1000000 in
theorem one_1 (B r q : Nat) (k : Ak) (hk : k.kind % 6 = 1) (hk8 : k.kind < 256) (hi : -9223372036854775808 ≤ k.n ∧ k.n ≤ 9223372036854775807) (x : R) (w : World) (hW : Rd w r x) (hR : RR w q x) (hl : x.rest.length ≤ 1099511627776) (ha : B ≤ r) (hb : B ≤ q) :
    Calls Try.prog 14 #[.pointer (some ⟨r, 0, none⟩), .pointer (some ⟨q, 0, none⟩), .agg #[.int .u8 k.kind, .int .i64 k.n]] w (Same B r q (ask x k) w) := by
  have hst : ask x k = x.drop 2 := by unfold ask; rw [hk]; rfl
  rw [hst]
  clear hst
  obtain ⟨kind, n⟩ := k
  simp only at hk hk8 hi ⊢
  have hB : B ≤ w.heap.size := by have := hW.lt; omega
  have hk' : (kind : Int) % 6 = 1 := by omega
  clear hk
  obtain ⟨v, hv⟩ : ∃ v, v = w.alloc (.cells #[.int .u8 kind, .int .i64 n] 49) := ⟨_, rfl⟩
  have hbv : Below w.heap.size w v := by rw [hv]; exact (Below.refl _ w).alloc (Nat.le_refl _) _
  have hWv := hW.below hbv
  have hRv := hR.below hbv
  have hBv : Below B w v := hbv.mono hB
  have hV := val_bd x 2 65536 (by decide)
  have h1 : Calls Try.prog 24 #[.pointer (some ⟨r, 0, none⟩)] v (Got .u16 r (val (x.take 2)) (x.drop 2) v) := ru16_any r x hl v hWv
  have h2 : ∀ w1, Rd w1 r (x.drop 2) → v.grownBy w1 (some r) → (RR w1 q x ∧ (∀ w2, RR w2 q (x.drop 2) → w1.grownBy w2 (some q) → Rd w2 r (x.drop 2) ∧ Below B v w2)) ∧ w1.cell? ⟨w.heap.size, 1, none⟩ = some (.int .i64 n) := fun w1 h1 g1 => by
    have hb := same_of (Nat.le_trans hB hbv.size) ha hb hRv (x' := x.drop 2) (w1 := w1) h1 g1 hWv
    rw [hv] at g1
    exact ⟨hb, boxed hW.lt g1 1⟩
  have h3 : ∀ w1, RR w1 q x → Calls Try.prog 37 #[.pointer (some ⟨q, 0, none⟩), .int .i64 2] w1 (RGot q (val (x.take 2)) (x.drop 2) w1) := fun w1 h => rrnum_any q x 2 (by omega) w1 h
  have H1 := Lib.hid h1
  have H2 := Lib.hid h2
  have H3 := Lib.hid h3
  have HB := Lib.hid hBv
  clear hW hR hbv hWv hRv hBv h1 h2 h3
  subst hv
  generalize val (x.take 2) = V at *
  generalize x.drop 2 = y at *
  go_enter Try.func14, Try.ntmps14
  go_wp2_with (first
    | (go_at_call 24; refine H1.out.mono ?_; rintro e w1 ⟨rfl, h1, g1⟩; obtain ⟨hx, d1⟩ := H2.out w1 h1 g1; have HW1 := Lib.hid hx; clear h1 g1 hx)
    | (go_at_call 37; refine (H3.out _ HW1.out.1).mono ?_; rintro e w2 ⟨rfl, h2, g2⟩; have HX := Lib.hid h2; have HG := Lib.hid g2; clear h2 g2))
  go_ret
  obtain ⟨h1, hb1⟩ := HW1.out.2 w2 HX.out HG.out
  exact ⟨rfl, h1, HX.out, HB.out.trans hb1⟩
set_option maxHeartbeats 1000000 in
theorem one_2 (B r q : Nat) (k : Ak) (hk : k.kind % 6 = 2) (hk8 : k.kind < 256) (hi : -9223372036854775808 ≤ k.n ∧ k.n ≤ 9223372036854775807) (x : R) (w : World) (hW : Rd w r x) (hR : RR w q x) (hl : x.rest.length ≤ 1099511627776) (ha : B ≤ r) (hb : B ≤ q) :
    Calls Try.prog 14 #[.pointer (some ⟨r, 0, none⟩), .pointer (some ⟨q, 0, none⟩), .agg #[.int .u8 k.kind, .int .i64 k.n]] w (Same B r q (ask x k) w) := by
  have hst : ask x k = x.drop 4 := by unfold ask; rw [hk]; rfl
  rw [hst]
  clear hst
  obtain ⟨kind, n⟩ := k
  simp only at hk hk8 hi ⊢
  have hB : B ≤ w.heap.size := by have := hW.lt; omega
  have hk' : (kind : Int) % 6 = 2 := by omega
  clear hk
  obtain ⟨v, hv⟩ : ∃ v, v = w.alloc (.cells #[.int .u8 kind, .int .i64 n] 49) := ⟨_, rfl⟩
  have hbv : Below w.heap.size w v := by rw [hv]; exact (Below.refl _ w).alloc (Nat.le_refl _) _
  have hWv := hW.below hbv
  have hRv := hR.below hbv
  have hBv : Below B w v := hbv.mono hB
  have hV := val_bd x 4 4294967296 (by decide)
  have h1 : Calls Try.prog 32 #[.pointer (some ⟨r, 0, none⟩)] v (Got .u32 r (val (x.take 4)) (x.drop 4) v) := ru32_any r x hl v hWv
  have h2 : ∀ w1, Rd w1 r (x.drop 4) → v.grownBy w1 (some r) → (RR w1 q x ∧ (∀ w2, RR w2 q (x.drop 4) → w1.grownBy w2 (some q) → Rd w2 r (x.drop 4) ∧ Below B v w2)) ∧ w1.cell? ⟨w.heap.size, 1, none⟩ = some (.int .i64 n) := fun w1 h1 g1 => by
    have hb := same_of (Nat.le_trans hB hbv.size) ha hb hRv (x' := x.drop 4) (w1 := w1) h1 g1 hWv
    rw [hv] at g1
    exact ⟨hb, boxed hW.lt g1 1⟩
  have h3 : ∀ w1, RR w1 q x → Calls Try.prog 37 #[.pointer (some ⟨q, 0, none⟩), .int .i64 4] w1 (RGot q (val (x.take 4)) (x.drop 4) w1) := fun w1 h => rrnum_any q x 4 (by omega) w1 h
  have H1 := Lib.hid h1
  have H2 := Lib.hid h2
  have H3 := Lib.hid h3
  have HB := Lib.hid hBv
  clear hW hR hbv hWv hRv hBv h1 h2 h3
  subst hv
  generalize val (x.take 4) = V at *
  generalize x.drop 4 = y at *
  go_enter Try.func14, Try.ntmps14
  go_wp2_with (first
    | (go_at_call 32; refine H1.out.mono ?_; rintro e w1 ⟨rfl, h1, g1⟩; obtain ⟨hx, d1⟩ := H2.out w1 h1 g1; have HW1 := Lib.hid hx; clear h1 g1 hx)
    | (go_at_call 37; refine (H3.out _ HW1.out.1).mono ?_; rintro e w2 ⟨rfl, h2, g2⟩; have HX := Lib.hid h2; have HG := Lib.hid g2; clear h2 g2))
  go_ret
  obtain ⟨h1, hb1⟩ := HW1.out.2 w2 HX.out HG.out
  exact ⟨rfl, h1, HX.out, HB.out.trans hb1⟩
set_option maxHeartbeats 1000000 in
theorem one_3 (B r q : Nat) (k : Ak) (hk : k.kind % 6 = 3) (hk8 : k.kind < 256) (hi : -9223372036854775808 ≤ k.n ∧ k.n ≤ 9223372036854775807) (x : R) (w : World) (hW : Rd w r x) (hR : RR w q x) (hl : x.rest.length ≤ 1099511627776) (ha : B ≤ r) (hb : B ≤ q) :
    Calls Try.prog 14 #[.pointer (some ⟨r, 0, none⟩), .pointer (some ⟨q, 0, none⟩), .agg #[.int .u8 k.kind, .int .i64 k.n]] w (Same B r q (ask x k) w) := by
  have hst : ask x k = x.drop 8 := by unfold ask; rw [hk]; rfl
  rw [hst]
  clear hst
  obtain ⟨kind, n⟩ := k
  simp only at hk hk8 hi ⊢
  have hB : B ≤ w.heap.size := by have := hW.lt; omega
  have hk' : (kind : Int) % 6 = 3 := by omega
  clear hk
  obtain ⟨v, hv⟩ : ∃ v, v = w.alloc (.cells #[.int .u8 kind, .int .i64 n] 49) := ⟨_, rfl⟩
  have hbv : Below w.heap.size w v := by rw [hv]; exact (Below.refl _ w).alloc (Nat.le_refl _) _
  have hWv := hW.below hbv
  have hRv := hR.below hbv
  have hBv : Below B w v := hbv.mono hB
  have hV := val_bd x 8 18446744073709551616 (by decide)
  have h1 : Calls Try.prog 29 #[.pointer (some ⟨r, 0, none⟩)] v (Got .u64 r (val (x.take 8)) (x.drop 8) v) := ru64_any r x hl v hWv
  have h2 : ∀ w1, Rd w1 r (x.drop 8) → v.grownBy w1 (some r) → (RR w1 q x ∧ (∀ w2, RR w2 q (x.drop 8) → w1.grownBy w2 (some q) → Rd w2 r (x.drop 8) ∧ Below B v w2)) ∧ w1.cell? ⟨w.heap.size, 1, none⟩ = some (.int .i64 n) := fun w1 h1 g1 => by
    have hb := same_of (Nat.le_trans hB hbv.size) ha hb hRv (x' := x.drop 8) (w1 := w1) h1 g1 hWv
    rw [hv] at g1
    exact ⟨hb, boxed hW.lt g1 1⟩
  have h3 : ∀ w1, RR w1 q x → Calls Try.prog 37 #[.pointer (some ⟨q, 0, none⟩), .int .i64 8] w1 (RGot q (val (x.take 8)) (x.drop 8) w1) := fun w1 h => rrnum_any q x 8 (by omega) w1 h
  have H1 := Lib.hid h1
  have H2 := Lib.hid h2
  have H3 := Lib.hid h3
  have HB := Lib.hid hBv
  clear hW hR hbv hWv hRv hBv h1 h2 h3
  subst hv
  generalize val (x.take 8) = V at *
  generalize x.drop 8 = y at *
  go_enter Try.func14, Try.ntmps14
  go_wp2_with (first
    | (go_at_call 29; refine H1.out.mono ?_; rintro e w1 ⟨rfl, h1, g1⟩; obtain ⟨hx, d1⟩ := H2.out w1 h1 g1; have HW1 := Lib.hid hx; clear h1 g1 hx)
    | (go_at_call 37; refine (H3.out _ HW1.out.1).mono ?_; rintro e w2 ⟨rfl, h2, g2⟩; have HX := Lib.hid h2; have HG := Lib.hid g2; clear h2 g2))
  go_ret
  obtain ⟨h1, hb1⟩ := HW1.out.2 w2 HX.out HG.out
  exact ⟨rfl, h1, HX.out, HB.out.trans hb1⟩
set_option maxHeartbeats 1000000 in
theorem one_4 (B r q : Nat) (k : Ak) (hk : k.kind % 6 = 4) (hk8 : k.kind < 256) (hi : -9223372036854775808 ≤ k.n ∧ k.n ≤ 9223372036854775807) (x : R) (w : World) (hW : Rd w r x) (hR : RR w q x) (hl : x.rest.length ≤ 1099511627776) (ha : B ≤ r) (hb : B ≤ q) :
    Calls Try.prog 14 #[.pointer (some ⟨r, 0, none⟩), .pointer (some ⟨q, 0, none⟩), .agg #[.int .u8 k.kind, .int .i64 k.n]] w (Same B r q (ask x k) w) := by
  have hst : ask x k = x.drop k.n.toNat := by unfold ask; rw [hk]; rfl
  rw [hst]
  clear hst
  obtain ⟨kind, n⟩ := k
  simp only at hk hk8 hi ⊢
  have hB : B ≤ w.heap.size := by have := hW.lt; omega
  have hk' : (kind : Int) % 6 = 4 := by omega
  clear hk
  obtain ⟨v, hv⟩ : ∃ v, v = w.alloc (.cells #[.int .u8 kind, .int .i64 n] 49) := ⟨_, rfl⟩
  have hbv : Below w.heap.size w v := by rw [hv]; exact (Below.refl _ w).alloc (Nat.le_refl _) _
  have hWv := hW.below hbv
  have hRv := hR.below hbv
  have hBv : Below B w v := hbv.mono hB
  have h1 : Calls Try.prog 27 #[.pointer (some ⟨r, 0, none⟩), .int .i64 n] v (Took r (x.take n.toNat) (x.drop n.toNat) v) := fixed_any r x n.toNat n (by omega) hl v hWv
  have h2 : ∀ w1, Rd w1 r (x.drop n.toNat) → v.grownBy w1 (some r) → (RR w1 q x ∧ (∀ w2, RR w2 q (x.drop n.toNat) → w1.grownBy w2 (some q) → Rd w2 r (x.drop n.toNat) ∧ Below B v w2)) ∧ w1.cell? ⟨w.heap.size, 1, none⟩ = some (.int .i64 n) := fun w1 h1 g1 => by
    have hb := same_of (Nat.le_trans hB hbv.size) ha hb hRv (x' := x.drop n.toNat) (w1 := w1) h1 g1 hWv
    rw [hv] at g1
    exact ⟨hb, boxed hW.lt g1 1⟩
  have h3 : ∀ w1, RR w1 q x → Calls Try.prog 38 #[.pointer (some ⟨q, 0, none⟩), .int .i64 n] w1 (RTook q (x.take n.toNat) (x.drop n.toNat) w1) := fun w1 h => rfix_any q x n.toNat n (by omega) w1 h
  have H1 := Lib.hid h1
  have H2 := Lib.hid h2
  have H3 := Lib.hid h3
  have HB := Lib.hid hBv
  clear hW hR hbv hWv hRv hBv h1 h2 h3
  subst hv
  generalize x.take n.toNat = V at *
  generalize x.drop n.toNat = y at *
  go_enter Try.func14, Try.ntmps14
  go_wp2_with (first
    | (go_at_call 27; refine H1.out.mono ?_; rintro e w1 ⟨rfl, h1, g1⟩; obtain ⟨hx, d1⟩ := H2.out w1 h1 g1; have HW1 := Lib.hid hx; clear h1 g1 hx)
    | (go_at_call 38; refine (H3.out _ HW1.out.1).mono ?_; rintro e w2 ⟨rfl, h2, g2⟩; have HX := Lib.hid h2; have HG := Lib.hid g2; clear h2 g2))
  go_ret
  obtain ⟨h1, hb1⟩ := HW1.out.2 w2 HX.out HG.out
  exact ⟨rfl, h1, HX.out, HB.out.trans hb1⟩
set_option maxHeartbeats 1000000 in
theorem one_5 (B r q : Nat) (k : Ak) (hk : k.kind % 6 = 5) (hk8 : k.kind < 256) (hi : -9223372036854775808 ≤ k.n ∧ k.n ≤ 9223372036854775807) (x : R) (w : World) (hW : Rd w r x) (hR : RR w q x) (hl : x.rest.length ≤ 1099511627776) (ha : B ≤ r) (hb : B ≤ q) :
    Calls Try.prog 14 #[.pointer (some ⟨r, 0, none⟩), .pointer (some ⟨q, 0, none⟩), .agg #[.int .u8 k.kind, .int .i64 k.n]] w (Same B r q (ask x k) w) := by
  have hst : ask x k = x.behind := by unfold ask; rw [hk]; rfl
  rw [hst]
  clear hst
  obtain ⟨kind, n⟩ := k
  simp only at hk hk8 hi ⊢
  have hB : B ≤ w.heap.size := by have := hW.lt; omega
  have hk' : (kind : Int) % 6 = 5 := by omega
  clear hk
  obtain ⟨v, hv⟩ : ∃ v, v = w.alloc (.cells #[.int .u8 kind, .int .i64 n] 49) := ⟨_, rfl⟩
  have hbv : Below w.heap.size w v := by rw [hv]; exact (Below.refl _ w).alloc (Nat.le_refl _) _
  have hWv := hW.below hbv
  have hRv := hR.below hbv
  have hBv : Below B w v := hbv.mono hB
  have h1 : Calls Try.prog 26 #[.pointer (some ⟨r, 0, none⟩)] v (Took r x.text x.behind v) := rtext_any r x hl v hWv
  have h2 : ∀ w1, Rd w1 r (x.behind) → v.grownBy w1 (some r) → (RR w1 q x ∧ (∀ w2, RR w2 q (x.behind) → w1.grownBy w2 (some q) → Rd w2 r (x.behind) ∧ Below B v w2)) ∧ w1.cell? ⟨w.heap.size, 1, none⟩ = some (.int .i64 n) := fun w1 h1 g1 => by
    have hb := same_of (Nat.le_trans hB hbv.size) ha hb hRv (x' := x.behind) (w1 := w1) h1 g1 hWv
    rw [hv] at g1
    exact ⟨hb, boxed hW.lt g1 1⟩
  have h3 : ∀ w1, RR w1 q x → Calls Try.prog 39 #[.pointer (some ⟨q, 0, none⟩)] w1 (RTook q x.text x.behind w1) := fun w1 h => rrtext_any q x w1 h
  have H1 := Lib.hid h1
  have H2 := Lib.hid h2
  have H3 := Lib.hid h3
  have HB := Lib.hid hBv
  clear hW hR hbv hWv hRv hBv h1 h2 h3
  subst hv
  generalize x.text = V at *
  generalize x.behind = y at *
  go_enter Try.func14, Try.ntmps14
  go_wp2_with (first
    | (go_at_call 26; refine H1.out.mono ?_; rintro e w1 ⟨rfl, h1, g1⟩; obtain ⟨hx, d1⟩ := H2.out w1 h1 g1; have HW1 := Lib.hid hx; clear h1 g1 hx)
    | (go_at_call 39; refine (H3.out _ HW1.out.1).mono ?_; rintro e w2 ⟨rfl, h2, g2⟩; have HX := Lib.hid h2; have HG := Lib.hid g2; clear h2 g2))
  go_ret
  obtain ⟨h1, hb1⟩ := HW1.out.2 w2 HX.out HG.out
  exact ⟨rfl, h1, HX.out, HB.out.trans hb1⟩
theorem one_any (B r q : Nat) (k : Ak) (hk8 : k.kind < 256) (hi : -9223372036854775808 ≤ k.n ∧ k.n ≤ 9223372036854775807) (x : R) (w : World) (hW : Rd w r x) (hR : RR w q x) (hl : x.rest.length ≤ 1099511627776) (ha : B ≤ r) (hb : B ≤ q) :
    Calls Try.prog 14 #[.pointer (some ⟨r, 0, none⟩), .pointer (some ⟨q, 0, none⟩), .agg #[.int .u8 k.kind, .int .i64 k.n]] w (Same B r q (ask x k) w) := by
  have hm : k.kind % 6 = 0 ∨ k.kind % 6 = 1 ∨ k.kind % 6 = 2 ∨ k.kind % 6 = 3 ∨ k.kind % 6 = 4 ∨ k.kind % 6 = 5 := by omega
  rcases hm with h | h | h | h | h | h
  · exact one_0 B r q k h hk8 hi x w hW hR hl ha hb
  · exact one_1 B r q k h hk8 hi x w hW hR hl ha hb
  · exact one_2 B r q k h hk8 hi x w hW hR hl ha hb
  · exact one_3 B r q k h hk8 hi x w hW hR hl ha hb
  · exact one_4 B r q k h hk8 hi x w hW hR hl ha hb
  · exact one_5 B r q k h hk8 hi x w hW hR hl ha hb
/-- The things that are asked lie from A on, below block B. -/
def Asks (w : World) (B : Nat) (A : Option Addr) (xs : List Ak) : Prop := ∀ i x, xs[i]? = some x → x.kind < 256 ∧ (-9223372036854775808 ≤ x.n ∧ x.n ≤ 9223372036854775807) ∧
  ∃ ad, A = some ad ∧ (ad.add (i * 2)).block < B ∧ w.cell? (ad.add (i * 2)) = some (.int .u8 x.kind) ∧ w.cell? ⟨(ad.add (i * 2)).block, (ad.add (i * 2)).off + 1, none⟩ = some (.int .i64 x.n)
theorem Asks.kept {w w' : World} {B : Nat} {A : Option Addr} {xs : List Ak} (h : Asks w B A xs) (hb : Below B w w') : Asks w' B A xs := by
  intro i x hx
  obtain ⟨h1, h2, ad, e, hB, c0, c1⟩ := h i x hx
  exact ⟨h1, h2, ad, e, hB, (hb.cell (p := ad.add (i * 2)) hB).trans c0, (hb.cell (p := ⟨(ad.add (i * 2)).block, (ad.add (i * 2)).off + 1, none⟩) hB).trans c1⟩
theorem RR.drew {w : World} {q : Nat} {x : R} (h : RR w q x) (n : Nat) : RR (w.drewN n) q x := h
theorem Rd.drew {w : World} {q : Nat} {x : R} (h : Rd w q x) (n : Nat) : Rd (w.drewN n) q x := h
set_option maxHeartbeats 2000000 in
theorem reads (s : ByteArray) (hs : s.size ≤ maxLen) (A : Option Addr) (xs : List Ak) (cap : Nat) (hl : xs.length ≤ maxLen) (w : World) (h : Asks w w.heap.size A xs) : Calls Try.prog 4 #[.string s, .slice A xs.length cap] w fun e w' => e = .returned (.bool true) ∧ Below w.heap.size w w' := by
  have HI := Lib.hid h; clear h
  have HA := Lib.hid awake_any
  unfold maxLen at hl hs
  obtain ⟨n, hn⟩ : ∃ n, n = xs.length := ⟨_, rfl⟩
  rw [← hn] at hl
  rw [← hn]
  have HN := Lib.hid hn; clear hn
  by_cases hbig : 6000 < s.size ∨ 100 < n
  · by_cases h1 : 6000 < s.size
    all_goals
      go_enter Try.func4, Try.ntmps4
      go_wp2_with (go_at_call 9; refine (HA.out _).mono ?_; rintro e w' ⟨rfl, hb⟩)
      go_ret
      exact ⟨rfl, hb⟩
  · have hs6 : s.size ≤ 6000 := by omega
    have hn1 : n ≤ 100 := by omega
    clear hbig
    have HNew := Lib.hid (new_any s (by omega) w)
    go_enter Try.func4, Try.ntmps4
    go_wp2_with fail
    refine HNew.out.mono ?_
    rintro e v ⟨r, rfl, hr, h1, h2⟩
    have hrr : RR (v.alloc (.cells #[.string s, .int .i64 0, .bool false] 46)) v.heap.size ⟨s.data.toList, 0⟩ := ⟨s, 0, false, Is.new _ _ _, by omega, by omega, (fun e => by cases e), fun _ => by simp⟩
    have HW := Lib.hid (h1.below ((Below.refl _ _).alloc (Nat.le_refl _) (.cells #[.string s, .int .i64 0, .bool false] 46)))
    have HR := Lib.hid hrr
    have HB0 := Lib.hid (h2.alloc h2.size (.cells #[.string s, .int .i64 0, .bool false] 46))
    have hv := h2.size
    clear h1 h2 hrr HNew
    go_wp2_with fail
    go_loopw [7] (fun i W => ∃ (k : Nat) (x : R), k ≤ n ∧ i = .int .i64 k ∧ Rd W r x ∧ RR W v.heap.size x ∧ Below w.heap.size w W ∧ x.rest.length ≤ 6000) (fun i _ => n - (intOf i).toNat)
    case atStart => exact ⟨0, _, by omega, rfl, HW.out, HR.out, HB0.out, by rw [← Lib.size_eq]; exact hs6⟩
    case round =>
      obtain ⟨k, x, hk, rfl, hW, hR, hB, hlen⟩ := hrel
      have HW1 := Lib.hid hW; have HR1 := Lib.hid hR; have HB1 := Lib.hid hB; have HL := Lib.hid hlen
      clear hW hR hB hlen HW HR HB0
      by_cases hlt : k < n
      · obtain ⟨y, hy⟩ : ∃ y, xs[k]? = some y := ⟨_, List.getElem?_eq_getElem (by rw [← HN.out]; exact hlt)⟩
        obtain ⟨h1, h2, ad, rfl, -, c0, c1⟩ := HI.out.kept HB1.out k y hy
        have HP := Lib.hid (one_any w.heap.size r v.heap.size y h1 h2 x wr HW1.out HR1.out (by have := HL.out; omega) hr hv)
        have HL2 := Lib.hid (Nat.le_trans (ask_len x y) HL.out)
        have H4 := Lib.hid (fun w1 hh => err_any r (ask x y) w1 hh)
        have H5 := Lib.hid (fun w1 hh => rerr_any v.heap.size (ask x y) w1 hh)
        have H6 := Lib.hid (fun w1 hh => rest_any r (ask x y) w1 hh)
        have H7 := Lib.hid (fun w1 hh => rrest_any v.heap.size (ask x y) w1 hh)
        clear hy
        generalize ask x y = z at *
        go_wp2_with fail
        refine HP.out.mono ?_
        rintro e w2 ⟨rfl, g1, g2, g3⟩
        have HW2 := Lib.hid g1; have HR2 := Lib.hid g2; have HB2 := Lib.hid (HB1.out.trans g3)
        clear g1 g2 g3
        go_wp2_with fail
        refine (H4.out _ HW2.out).mono ?_
        rintro e w3 ⟨rfl, rfl⟩
        go_wp2_with fail
        refine (H5.out _ HR2.out).mono ?_
        rintro e w3 ⟨rfl, rfl⟩
        generalize z.er = E at *
        go_wp2_with fail
        refine (H6.out _ HW2.out).mono ?_
        rintro e w3 ⟨rfl, rfl⟩
        go_wp2_with fail
        refine (H7.out _ HR2.out).mono ?_
        rintro e w3 ⟨rfl, j, rfl⟩
        clear H4 H5 H6 H7
        generalize bs z.rest = S
        go_wp2
        refine ⟨⟨k + 1, z, by omega, by go_num, HW2.out.drew j, HR2.out.drew j, below_drewN HB2.out j, HL2.out⟩, ?_⟩
        simp [intOf]; omega
      · go_wp2_with (go_at_call 9; refine (HA.out _).mono ?_; rintro e w' ⟨rfl, hb⟩)
        go_ret
        exact ⟨rfl, HB1.out.trans (hb.mono HB1.out.size)⟩
end Go.Proofs.Ythgpffmgbooncaa
