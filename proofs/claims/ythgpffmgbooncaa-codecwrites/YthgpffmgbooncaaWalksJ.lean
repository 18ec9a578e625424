/- An item written by both. Conditions: lengths below 2^39. -/
import Derived.Test.YthgpffmgbooncaaWalksI
namespace Go.Proofs.Ythgpffmgbooncaa
open Go.ChangeShapes Go.WideShapes Go.RowKit Go.Codec
/-- What an item makes of what a writer holds. -/
def step (st : Option (List UInt8)) (x : It) : Option (List UInt8) :=
  if x.kind % 6 = 0 then more st (be 1 x.n) else if x.kind % 6 = 1 then more st (be 2 x.n) else if x.kind % 6 = 2 then more st (be 4 x.n) else if x.kind % 6 = 3 then more st (be 8 x.n) else if x.kind % 6 = 4 then more st x.s.data.toList else moreText st x.s.data.toList
def Both (B a b : Nat) (st : Option (List UInt8)) (w : World) (e : Ending) (w' : World) : Prop := e = .returned (.tuple #[]) ∧ Wr w' a st ∧ RW w' b st ∧ Below B w w'
theorem both_of {B a b : Nat} {st st' : Option (List UInt8)} {w w1 : World} (hB : B ≤ w.heap.size) (ha : B ≤ a) (hb : B ≤ b) (hr : RW w b st) (h1 : Wr w1 a st') (g1 : w.grownBy w1 (some a)) (hW : Wr w a st) :
    RW w1 b st ∧ (∀ w2, RW w2 b st' → w1.grownBy w2 (some b) → Wr w2 a st' ∧ Below B w w2) := by
  obtain ⟨cs, hi⟩ := hr.is
  obtain ⟨cs', hj⟩ := hW.is
  have hne : b ≠ a := hi.ne hj (by decide)
  have hr1 : RW w1 b st := hr.kept g1 (by intro e; injection e with e; exact hne e)
  refine ⟨hr1, fun w2 h2 g2 => ⟨?_, ?_⟩⟩
  · obtain ⟨cs1, hi1⟩ := hr1.is
    exact h1.other hi1 (by decide) (by decide) g2
  · exact (below_of_grow g1 hB ha).trans (below_of_grow g2 (Nat.le_trans hB g1.size) hb)
/-- A value that was put into memory is there behind a write elsewhere. -/
theorem boxed {w w1 : World} {cs : Array Value} {a : Nat} {t : TypeId} (ha : a < w.heap.size) (g : (w.alloc (.cells cs t)).grownBy w1 (some a)) (i : Nat) : w1.cell? ⟨w.heap.size, i, none⟩ = cs[i]? := by
  have h : Is w1 w.heap.size t cs := (Is.new w t cs).kept g (by intro e; injection e with e; omega)
  exact h.cell i
set_option maxHeartbeats 1000000 in
theorem put_0 (B a b : Nat) (x : It) (hk : x.kind % 6 = 0) (hk8 : x.kind < 256) (hn : x.n < 18446744073709551616) (hs : x.s.size ≤ 1000000) (st : Option (List UInt8)) (w : World) (hW : Wr w a st) (hR : RW w b st) (hl : wlen st ≤ 549755813888) (ha : B ≤ a) (hb : B ≤ b) :
    Calls Try.prog 10 #[.pointer (some ⟨a, 0, none⟩), .pointer (some ⟨b, 0, none⟩), .agg #[.int .u8 x.kind, .int .u64 x.n, .string x.s]] w (Both B a b (step st x) w) := by
  have hst : step st x = more st (be 1 x.n) := by unfold step; rw [hk]; rfl
  rw [hst]
  clear hst
  obtain ⟨kind, n, s⟩ := x
  simp only at hk hk8 hn hs ⊢
  have hB : B ≤ w.heap.size := by have := hW.lt; omega
  have hk' : (kind : Int) % 6 = 0 := by omega
  clear hk
  obtain ⟨m, hm⟩ : ∃ m, m = n % 256 := ⟨_, rfl⟩
  have hnm : (n : Int) % 256 = (m : Int) := by omega
  have hml : m < 256 := by omega
  have hwr : IntKind.u8.wrap (n : Int) = (m : Int) := by rw [IntKind.wrap_u8]; omega
  have HM := Lib.hid hm; clear hm
  obtain ⟨v, hv⟩ : ∃ v, v = w.alloc (.cells #[.int .u8 kind, .int .u64 n, .string s] 36) := ⟨_, rfl⟩
  have hbv : Below w.heap.size w v := by rw [hv]; exact (Below.refl _ w).alloc (Nat.le_refl _) _
  have hWv := hW.below hbv
  have hRv := hR.below hbv
  have hBv : Below B w v := hbv.mono hB
  have H1 := Lib.hid (u8_any a m hml st v hWv (by omega))
  have h2 : ∀ w1, Wr w1 a (more st (be 1 m)) → v.grownBy w1 (some a) → (RW w1 b st ∧ (∀ w2, RW w2 b (more st (be 1 m)) → w1.grownBy w2 (some b) → Wr w2 a (more st (be 1 m)) ∧ Below B v w2)) ∧ w1.cell? ⟨w.heap.size, 1, none⟩ = some (.int .u64 n) ∧ w1.cell? ⟨w.heap.size, 2, none⟩ = some (.string s) := fun w1 h1 g1 => by
    have hb := both_of (Nat.le_trans hB hbv.size) ha hb hRv (st' := more st (be 1 m)) (w1 := w1) h1 g1 hWv
    rw [hv] at g1
    exact ⟨hb, boxed hW.lt g1 1, boxed hW.lt g1 2⟩
  have H2 := Lib.hid h2
  have h3 : ∀ w1, RW w1 b st → Calls Try.prog 33 #[.pointer (some ⟨b, 0, none⟩), .int .u64 m, .int .i64 1] w1 (RWrote b (more st (be 1 m)) w1) := fun w1 h => rnum_any b m 1 (by omega) (by omega) st w1 h (by omega)
  have H3 := Lib.hid h3
  have HB := Lib.hid hBv
  clear hW hR hbv hWv hRv hBv h2 h3
  subst hv
  go_enter Try.func10, Try.ntmps10
  go_wp2_with (first
    | (go_at_call 19; refine H1.out.mono ?_; rintro e w1 ⟨rfl, h1, g1⟩; obtain ⟨hx, d1, d2⟩ := H2.out w1 h1 g1; have HW1 := Lib.hid hx; clear h1 g1 hx)
    | (go_at_call 33; refine (H3.out _ HW1.out.1).mono ?_; rintro e w2 ⟨rfl, h2, g2⟩))
  go_end0
  obtain ⟨h1, hb1⟩ := HW1.out.2 w2 h2 g2
  have e : be 1 m = be 1 n := by rw [HM.out]; exact be_mod 1 n
  rw [e] at h1 h2
  exact ⟨rfl, h1, h2, HB.out.trans hb1⟩
set_option maxHeartbeats 1000000 in
theorem put_1 (B a b : Nat) (x : It) (hk : x.kind % 6 = 1) (hk8 : x.kind < 256) (hn : x.n < 18446744073709551616) (hs : x.s.size ≤ 1000000) (st : Option (List UInt8)) (w : World) (hW : Wr w a st) (hR : RW w b st) (hl : wlen st ≤ 549755813888) (ha : B ≤ a) (hb : B ≤ b) :
    Calls Try.prog 10 #[.pointer (some ⟨a, 0, none⟩), .pointer (some ⟨b, 0, none⟩), .agg #[.int .u8 x.kind, .int .u64 x.n, .string x.s]] w (Both B a b (step st x) w) := by
  have hst : step st x = more st (be 2 x.n) := by unfold step; rw [hk]; rfl
  rw [hst]
  clear hst
  obtain ⟨kind, n, s⟩ := x
  simp only at hk hk8 hn hs ⊢
  have hB : B ≤ w.heap.size := by have := hW.lt; omega
  have hk' : (kind : Int) % 6 = 1 := by omega
  clear hk
  obtain ⟨m, hm⟩ : ∃ m, m = n % 65536 := ⟨_, rfl⟩
  have hnm : (n : Int) % 65536 = (m : Int) := by omega
  have hml : m < 65536 := by omega
  have hwr : IntKind.u16.wrap (n : Int) = (m : Int) := by rw [IntKind.wrap_u16]; omega
  have HM := Lib.hid hm; clear hm
  obtain ⟨v, hv⟩ : ∃ v, v = w.alloc (.cells #[.int .u8 kind, .int .u64 n, .string s] 36) := ⟨_, rfl⟩
  have hbv : Below w.heap.size w v := by rw [hv]; exact (Below.refl _ w).alloc (Nat.le_refl _) _
  have hWv := hW.below hbv
  have hRv := hR.below hbv
  have hBv : Below B w v := hbv.mono hB
  have H1 := Lib.hid (u16_any a m st v hWv (by omega))
  have h2 : ∀ w1, Wr w1 a (more st (be 2 m)) → v.grownBy w1 (some a) → (RW w1 b st ∧ (∀ w2, RW w2 b (more st (be 2 m)) → w1.grownBy w2 (some b) → Wr w2 a (more st (be 2 m)) ∧ Below B v w2)) ∧ w1.cell? ⟨w.heap.size, 1, none⟩ = some (.int .u64 n) ∧ w1.cell? ⟨w.heap.size, 2, none⟩ = some (.string s) := fun w1 h1 g1 => by
    have hb := both_of (Nat.le_trans hB hbv.size) ha hb hRv (st' := more st (be 2 m)) (w1 := w1) h1 g1 hWv
    rw [hv] at g1
    exact ⟨hb, boxed hW.lt g1 1, boxed hW.lt g1 2⟩
  have H2 := Lib.hid h2
  have h3 : ∀ w1, RW w1 b st → Calls Try.prog 33 #[.pointer (some ⟨b, 0, none⟩), .int .u64 m, .int .i64 2] w1 (RWrote b (more st (be 2 m)) w1) := fun w1 h => rnum_any b m 2 (by omega) (by omega) st w1 h (by omega)
  have H3 := Lib.hid h3
  have HB := Lib.hid hBv
  clear hW hR hbv hWv hRv hBv h2 h3
  subst hv
  go_enter Try.func10, Try.ntmps10
  go_wp2_with (first
    | (go_at_call 20; refine H1.out.mono ?_; rintro e w1 ⟨rfl, h1, g1⟩; obtain ⟨hx, d1, d2⟩ := H2.out w1 h1 g1; have HW1 := Lib.hid hx; clear h1 g1 hx)
    | (go_at_call 33; refine (H3.out _ HW1.out.1).mono ?_; rintro e w2 ⟨rfl, h2, g2⟩))
  go_end0
  obtain ⟨h1, hb1⟩ := HW1.out.2 w2 h2 g2
  have e : be 2 m = be 2 n := by rw [HM.out]; exact be_mod 2 n
  rw [e] at h1 h2
  exact ⟨rfl, h1, h2, HB.out.trans hb1⟩
set_option maxHeartbeats 1000000 in
theorem put_2 (B a b : Nat) (x : It) (hk : x.kind % 6 = 2) (hk8 : x.kind < 256) (hn : x.n < 18446744073709551616) (hs : x.s.size ≤ 1000000) (st : Option (List UInt8)) (w : World) (hW : Wr w a st) (hR : RW w b st) (hl : wlen st ≤ 549755813888) (ha : B ≤ a) (hb : B ≤ b) :
    Calls Try.prog 10 #[.pointer (some ⟨a, 0, none⟩), .pointer (some ⟨b, 0, none⟩), .agg #[.int .u8 x.kind, .int .u64 x.n, .string x.s]] w (Both B a b (step st x) w) := by
  have hst : step st x = more st (be 4 x.n) := by unfold step; rw [hk]; rfl
  rw [hst]
  clear hst
  obtain ⟨kind, n, s⟩ := x
  simp only at hk hk8 hn hs ⊢
  have hB : B ≤ w.heap.size := by have := hW.lt; omega
  have hk' : (kind : Int) % 6 = 2 := by omega
  clear hk
  obtain ⟨m, hm⟩ : ∃ m, m = n % 4294967296 := ⟨_, rfl⟩
  have hnm : (n : Int) % 4294967296 = (m : Int) := by omega
  have hml : m < 4294967296 := by omega
  have hwr : IntKind.u32.wrap (n : Int) = (m : Int) := by rw [IntKind.wrap_u32]; omega
  have HM := Lib.hid hm; clear hm
  obtain ⟨v, hv⟩ : ∃ v, v = w.alloc (.cells #[.int .u8 kind, .int .u64 n, .string s] 36) := ⟨_, rfl⟩
  have hbv : Below w.heap.size w v := by rw [hv]; exact (Below.refl _ w).alloc (Nat.le_refl _) _
  have hWv := hW.below hbv
  have hRv := hR.below hbv
  have hBv : Below B w v := hbv.mono hB
  have H1 := Lib.hid (u32_any a m st v hWv (by omega))
  have h2 : ∀ w1, Wr w1 a (more st (be 4 m)) → v.grownBy w1 (some a) → (RW w1 b st ∧ (∀ w2, RW w2 b (more st (be 4 m)) → w1.grownBy w2 (some b) → Wr w2 a (more st (be 4 m)) ∧ Below B v w2)) ∧ w1.cell? ⟨w.heap.size, 1, none⟩ = some (.int .u64 n) ∧ w1.cell? ⟨w.heap.size, 2, none⟩ = some (.string s) := fun w1 h1 g1 => by
    have hb := both_of (Nat.le_trans hB hbv.size) ha hb hRv (st' := more st (be 4 m)) (w1 := w1) h1 g1 hWv
    rw [hv] at g1
    exact ⟨hb, boxed hW.lt g1 1, boxed hW.lt g1 2⟩
  have H2 := Lib.hid h2
  have h3 : ∀ w1, RW w1 b st → Calls Try.prog 33 #[.pointer (some ⟨b, 0, none⟩), .int .u64 m, .int .i64 4] w1 (RWrote b (more st (be 4 m)) w1) := fun w1 h => rnum_any b m 4 (by omega) (by omega) st w1 h (by omega)
  have H3 := Lib.hid h3
  have HB := Lib.hid hBv
  clear hW hR hbv hWv hRv hBv h2 h3
  subst hv
  go_enter Try.func10, Try.ntmps10
  go_wp2_with (first
    | (go_at_call 21; refine H1.out.mono ?_; rintro e w1 ⟨rfl, h1, g1⟩; obtain ⟨hx, d1, d2⟩ := H2.out w1 h1 g1; have HW1 := Lib.hid hx; clear h1 g1 hx)
    | (go_at_call 33; refine (H3.out _ HW1.out.1).mono ?_; rintro e w2 ⟨rfl, h2, g2⟩))
  go_end0
  obtain ⟨h1, hb1⟩ := HW1.out.2 w2 h2 g2
  have e : be 4 m = be 4 n := by rw [HM.out]; exact be_mod 4 n
  rw [e] at h1 h2
  exact ⟨rfl, h1, h2, HB.out.trans hb1⟩
set_option maxHeartbeats 1000000 in
theorem put_3 (B a b : Nat) (x : It) (hk : x.kind % 6 = 3) (hk8 : x.kind < 256) (hn : x.n < 18446744073709551616) (hs : x.s.size ≤ 1000000) (st : Option (List UInt8)) (w : World) (hW : Wr w a st) (hR : RW w b st) (hl : wlen st ≤ 549755813888) (ha : B ≤ a) (hb : B ≤ b) :
    Calls Try.prog 10 #[.pointer (some ⟨a, 0, none⟩), .pointer (some ⟨b, 0, none⟩), .agg #[.int .u8 x.kind, .int .u64 x.n, .string x.s]] w (Both B a b (step st x) w) := by
  have hst : step st x = more st (be 8 x.n) := by unfold step; rw [hk]; rfl
  rw [hst]
  clear hst
  obtain ⟨kind, n, s⟩ := x
  simp only at hk hk8 hn hs ⊢
  have hB : B ≤ w.heap.size := by have := hW.lt; omega
  have hk' : (kind : Int) % 6 = 3 := by omega
  clear hk
  obtain ⟨v, hv⟩ : ∃ v, v = w.alloc (.cells #[.int .u8 kind, .int .u64 n, .string s] 36) := ⟨_, rfl⟩
  have hbv : Below w.heap.size w v := by rw [hv]; exact (Below.refl _ w).alloc (Nat.le_refl _) _
  have hWv := hW.below hbv
  have hRv := hR.below hbv
  have hBv : Below B w v := hbv.mono hB
  have H1 := Lib.hid (u64_any a n st v hWv (by omega))
  have h2 : ∀ w1, Wr w1 a (more st (be 8 n)) → v.grownBy w1 (some a) → (RW w1 b st ∧ (∀ w2, RW w2 b (more st (be 8 n)) → w1.grownBy w2 (some b) → Wr w2 a (more st (be 8 n)) ∧ Below B v w2)) ∧ w1.cell? ⟨w.heap.size, 1, none⟩ = some (.int .u64 n) ∧ w1.cell? ⟨w.heap.size, 2, none⟩ = some (.string s) := fun w1 h1 g1 => by
    have hb := both_of (Nat.le_trans hB hbv.size) ha hb hRv (st' := more st (be 8 n)) (w1 := w1) h1 g1 hWv
    rw [hv] at g1
    exact ⟨hb, boxed hW.lt g1 1, boxed hW.lt g1 2⟩
  have H2 := Lib.hid h2
  have h3 : ∀ w1, RW w1 b st → Calls Try.prog 33 #[.pointer (some ⟨b, 0, none⟩), .int .u64 n, .int .i64 8] w1 (RWrote b (more st (be 8 n)) w1) := fun w1 h => rnum_any b n 8 hn (by omega) st w1 h (by omega)
  have H3 := Lib.hid h3
  have HB := Lib.hid hBv
  clear hW hR hbv hWv hRv hBv h2 h3
  subst hv
  go_enter Try.func10, Try.ntmps10
  go_wp2_with (first
    | (go_at_call 28; refine H1.out.mono ?_; rintro e w1 ⟨rfl, h1, g1⟩; obtain ⟨hx, d1, d2⟩ := H2.out w1 h1 g1; have HW1 := Lib.hid hx; clear h1 g1 hx)
    | (go_at_call 33; refine (H3.out _ HW1.out.1).mono ?_; rintro e w2 ⟨rfl, h2, g2⟩))
  go_end0
  obtain ⟨h1, hb1⟩ := HW1.out.2 w2 h2 g2
  exact ⟨rfl, h1, h2, HB.out.trans hb1⟩
set_option maxHeartbeats 1000000 in
theorem put_4 (B a b : Nat) (x : It) (hk : x.kind % 6 = 4) (hk8 : x.kind < 256) (hn : x.n < 18446744073709551616) (hs : x.s.size ≤ 1000000) (st : Option (List UInt8)) (w : World) (hW : Wr w a st) (hR : RW w b st) (hl : wlen st ≤ 549755813888) (ha : B ≤ a) (hb : B ≤ b) :
    Calls Try.prog 10 #[.pointer (some ⟨a, 0, none⟩), .pointer (some ⟨b, 0, none⟩), .agg #[.int .u8 x.kind, .int .u64 x.n, .string x.s]] w (Both B a b (step st x) w) := by
  have hst : step st x = more st x.s.data.toList := by unfold step; rw [hk]; rfl
  rw [hst]
  clear hst
  obtain ⟨kind, n, s⟩ := x
  simp only at hk hk8 hn hs ⊢
  have hB : B ≤ w.heap.size := by have := hW.lt; omega
  have hk' : (kind : Int) % 6 = 4 := by omega
  clear hk
  obtain ⟨v, hv⟩ : ∃ v, v = w.alloc (.cells #[.int .u8 kind, .int .u64 n, .string s] 36) := ⟨_, rfl⟩
  have hbv : Below w.heap.size w v := by rw [hv]; exact (Below.refl _ w).alloc (Nat.le_refl _) _
  have hWv := hW.below hbv
  have hRv := hR.below hbv
  have hBv : Below B w v := hbv.mono hB
  have H1 := Lib.hid (raw_any a s st v hWv (by omega))
  have h2 : ∀ w1, Wr w1 a (more st s.data.toList) → v.grownBy w1 (some a) → (RW w1 b st ∧ (∀ w2, RW w2 b (more st s.data.toList) → w1.grownBy w2 (some b) → Wr w2 a (more st s.data.toList) ∧ Below B v w2)) ∧ w1.cell? ⟨w.heap.size, 1, none⟩ = some (.int .u64 n) ∧ w1.cell? ⟨w.heap.size, 2, none⟩ = some (.string s) := fun w1 h1 g1 => by
    have hb := both_of (Nat.le_trans hB hbv.size) ha hb hRv (st' := more st s.data.toList) (w1 := w1) h1 g1 hWv
    rw [hv] at g1
    exact ⟨hb, boxed hW.lt g1 1, boxed hW.lt g1 2⟩
  have H2 := Lib.hid h2
  have h3 : ∀ w1, RW w1 b st → Calls Try.prog 34 #[.pointer (some ⟨b, 0, none⟩), .string s] w1 (RWrote b (more st s.data.toList) w1) := fun w1 h => rraw_any b s st w1 h (by omega)
  have H3 := Lib.hid h3
  have HB := Lib.hid hBv
  clear hW hR hbv hWv hRv hBv h2 h3
  subst hv
  go_enter Try.func10, Try.ntmps10
  go_wp2_with (first
    | (go_at_call 23; refine H1.out.mono ?_; rintro e w1 ⟨rfl, h1, g1⟩; obtain ⟨hx, d1, d2⟩ := H2.out w1 h1 g1; have HW1 := Lib.hid hx; clear h1 g1 hx)
    | (go_at_call 34; refine (H3.out _ HW1.out.1).mono ?_; rintro e w2 ⟨rfl, h2, g2⟩))
  go_end0
  obtain ⟨h1, hb1⟩ := HW1.out.2 w2 h2 g2
  exact ⟨rfl, h1, h2, HB.out.trans hb1⟩
set_option maxHeartbeats 1000000 in
theorem put_5 (B a b : Nat) (x : It) (hk : x.kind % 6 = 5) (hk8 : x.kind < 256) (hn : x.n < 18446744073709551616) (hs : x.s.size ≤ 1000000) (st : Option (List UInt8)) (w : World) (hW : Wr w a st) (hR : RW w b st) (hl : wlen st ≤ 549755813888) (ha : B ≤ a) (hb : B ≤ b) :
    Calls Try.prog 10 #[.pointer (some ⟨a, 0, none⟩), .pointer (some ⟨b, 0, none⟩), .agg #[.int .u8 x.kind, .int .u64 x.n, .string x.s]] w (Both B a b (step st x) w) := by
  have hst : step st x = moreText st x.s.data.toList := by unfold step; rw [hk]; rfl
  rw [hst]
  clear hst
  obtain ⟨kind, n, s⟩ := x
  simp only at hk hk8 hn hs ⊢
  have hB : B ≤ w.heap.size := by have := hW.lt; omega
  have hk' : (kind : Int) % 6 = 5 := by omega
  clear hk
  obtain ⟨v, hv⟩ : ∃ v, v = w.alloc (.cells #[.int .u8 kind, .int .u64 n, .string s] 36) := ⟨_, rfl⟩
  have hbv : Below w.heap.size w v := by rw [hv]; exact (Below.refl _ w).alloc (Nat.le_refl _) _
  have hWv := hW.below hbv
  have hRv := hR.below hbv
  have hBv : Below B w v := hbv.mono hB
  have H1 := Lib.hid (text_any a s st v hWv (by omega))
  have h2 : ∀ w1, Wr w1 a (moreText st s.data.toList) → v.grownBy w1 (some a) → (RW w1 b st ∧ (∀ w2, RW w2 b (moreText st s.data.toList) → w1.grownBy w2 (some b) → Wr w2 a (moreText st s.data.toList) ∧ Below B v w2)) ∧ w1.cell? ⟨w.heap.size, 1, none⟩ = some (.int .u64 n) ∧ w1.cell? ⟨w.heap.size, 2, none⟩ = some (.string s) := fun w1 h1 g1 => by
    have hb := both_of (Nat.le_trans hB hbv.size) ha hb hRv (st' := moreText st s.data.toList) (w1 := w1) h1 g1 hWv
    rw [hv] at g1
    exact ⟨hb, boxed hW.lt g1 1, boxed hW.lt g1 2⟩
  have H2 := Lib.hid h2
  have h3 : ∀ w1, RW w1 b st → Calls Try.prog 35 #[.pointer (some ⟨b, 0, none⟩), .string s] w1 (RWrote b (moreText st s.data.toList) w1) := fun w1 h => rtxt_any b s st w1 h (by omega)
  have H3 := Lib.hid h3
  have HB := Lib.hid hBv
  clear hW hR hbv hWv hRv hBv h2 h3
  subst hv
  go_enter Try.func10, Try.ntmps10
  go_wp2_with (first
    | (go_at_call 22; refine H1.out.mono ?_; rintro e w1 ⟨rfl, h1, g1⟩; obtain ⟨hx, d1, d2⟩ := H2.out w1 h1 g1; have HW1 := Lib.hid hx; clear h1 g1 hx)
    | (go_at_call 35; refine (H3.out _ HW1.out.1).mono ?_; rintro e w2 ⟨rfl, h2, g2⟩))
  go_end0
  obtain ⟨h1, hb1⟩ := HW1.out.2 w2 h2 g2
  exact ⟨rfl, h1, h2, HB.out.trans hb1⟩
theorem put_any (B a b : Nat) (x : It) (hk8 : x.kind < 256) (hn : x.n < 18446744073709551616) (hs : x.s.size ≤ 1000000) (st : Option (List UInt8)) (w : World) (hW : Wr w a st) (hR : RW w b st) (hl : wlen st ≤ 549755813888) (ha : B ≤ a) (hb : B ≤ b) :
    Calls Try.prog 10 #[.pointer (some ⟨a, 0, none⟩), .pointer (some ⟨b, 0, none⟩), .agg #[.int .u8 x.kind, .int .u64 x.n, .string x.s]] w (Both B a b (step st x) w) := by
  have hm : x.kind % 6 = 0 ∨ x.kind % 6 = 1 ∨ x.kind % 6 = 2 ∨ x.kind % 6 = 3 ∨ x.kind % 6 = 4 ∨ x.kind % 6 = 5 := by omega
  rcases hm with h | h | h | h | h | h
  · exact put_0 B a b x h hk8 hn hs st w hW hR hl ha hb
  · exact put_1 B a b x h hk8 hn hs st w hW hR hl ha hb
  · exact put_2 B a b x h hk8 hn hs st w hW hR hl ha hb
  · exact put_3 B a b x h hk8 hn hs st w hW hR hl ha hb
  · exact put_4 B a b x h hk8 hn hs st w hW hR hl ha hb
  · exact put_5 B a b x h hk8 hn hs st w hW hR hl ha hb
theorem step_len (st : Option (List UInt8)) (x : It) (K : Nat) (hs : x.s.size ≤ K) : wlen (step st x) ≤ wlen st + K + 100 := by
  have hs' : x.s.data.toList.length ≤ K := by rw [← Lib.size_eq]; exact hs
  have hm : ∀ l : List UInt8, wlen (more st l) ≤ wlen st + l.length := fun l => by cases st <;> simp [more, wlen]
  have hb : ∀ k n, (be k n).length = k := be_length
  unfold step
  split
  · have := hm (be 1 x.n); rw [hb] at this; omega
  split
  · have := hm (be 2 x.n); rw [hb] at this; omega
  split
  · have := hm (be 4 x.n); rw [hb] at this; omega
  split
  · have := hm (be 8 x.n); rw [hb] at this; omega
  split
  · have := hm x.s.data.toList; omega
  · unfold moreText
    split
    · simp only [wlen]; omega
    · have := hm (be 2 x.s.data.toList.length ++ x.s.data.toList); rw [List.length_append, hb] at this; omega
end Go.Proofs.Ythgpffmgbooncaa
