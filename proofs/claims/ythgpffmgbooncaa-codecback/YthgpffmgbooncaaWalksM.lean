/- An item written, and read; the law that what is written is read. Conditions: lengths below 2^39. -/
import Derived.Test.YthgpffmgbooncaaWalksL
import Derived.Deep.RegionWith
namespace Go.Proofs.Ythgpffmgbooncaa
open Go.ChangeShapes Go.WideShapes Go.RowKit Go.Codec
set_option maxHeartbeats 1000000 in
theorem write_0 (a : Nat) (x : It) (hk : x.kind % 6 = 0) (hk8 : x.kind < 256) (hn : x.n < 18446744073709551616) (hs : x.s.size ≤ 1000000) (st : Option (List UInt8)) (w : World) (hW : Wr w a st) (hl : wlen st ≤ 549755813888) :
    Calls Try.prog 30 #[.pointer (some ⟨a, 0, none⟩), .agg #[.int .u8 x.kind, .int .u64 x.n, .string x.s]] w (Wrote a (step st x) w) := by
  have hst : step st x = more st (be 1 x.n) := by unfold step; rw [hk]; rfl
  rw [hst]
  clear hst
  obtain ⟨kind, n, s⟩ := x
  simp only at hk hk8 hn hs ⊢
  have hk' : (kind : Int) % 6 = 0 := by omega
  clear hk
  obtain ⟨m, hm⟩ : ∃ m, m = n % 256 := ⟨_, rfl⟩
  have hnm : (n : Int) % 256 = (m : Int) := by omega
  have hml : m < 256 := by omega
  have hwr : IntKind.u8.wrap (n : Int) = (m : Int) := by rw [IntKind.wrap_u8]; omega
  have HM := Lib.hid hm; clear hm
  obtain ⟨v, hv⟩ : ∃ v, v = w.alloc (.cells #[.int .u8 kind, .int .u64 n, .string s] 36) := ⟨_, rfl⟩
  have hbv : Below w.heap.size w v := by rw [hv]; exact (Below.refl _ w).alloc (Nat.le_refl _) _
  have hWv := hW.below hbv
  have H1 := Lib.hid (u8_any a m hml st v hWv (by omega))
  have HB := Lib.hid (grow_below hbv (some a))
  clear hW hbv hWv
  subst hv
  go_enter Try.func30, Try.ntmps30
  go_wp2_with (go_at_call 19; refine H1.out.mono ?_; rintro e w1 ⟨rfl, h1, g1⟩)
  go_end0
  have e : be 1 m = be 1 n := by rw [HM.out]; exact be_mod 1 n
  rw [e] at h1
  exact ⟨rfl, h1, grow_trans HB.out g1⟩
set_option maxHeartbeats 1000000 in
theorem write_1 (a : Nat) (x : It) (hk : x.kind % 6 = 1) (hk8 : x.kind < 256) (hn : x.n < 18446744073709551616) (hs : x.s.size ≤ 1000000) (st : Option (List UInt8)) (w : World) (hW : Wr w a st) (hl : wlen st ≤ 549755813888) :
    Calls Try.prog 30 #[.pointer (some ⟨a, 0, none⟩), .agg #[.int .u8 x.kind, .int .u64 x.n, .string x.s]] w (Wrote a (step st x) w) := by
  have hst : step st x = more st (be 2 x.n) := by unfold step; rw [hk]; rfl
  rw [hst]
  clear hst
  obtain ⟨kind, n, s⟩ := x
  simp only at hk hk8 hn hs ⊢
  have hk' : (kind : Int) % 6 = 1 := by omega
  clear hk
  obtain ⟨m, hm⟩ : ∃ m, m = n % 65536 := ⟨_, rfl⟩
  have hnm : (n : Int) % 65536 = (m : Int) := by omega
  have hml : m < 65536 := by omega
  have hwr : IntKind.u16.wrap (n : Int) = (m : Int) := by rw [IntKind.wrap_u16]; omega
  have HM := Lib.hid hm; clear hm
  obtain ⟨v, hv⟩ : ∃ v, v = w.alloc (.cells #[.int .u8 kind, .int .u64 n, .string s] 36) := ⟨_, rfl⟩
  have hbv : Below w.heap.size w v := by rw [hv]; exact (Below.refl _ w).alloc (Nat.le_refl _) _
  have hWv := hW.below hbv
  have H1 := Lib.hid (u16_any a m st v hWv (by omega))
  have HB := Lib.hid (grow_below hbv (some a))
  clear hW hbv hWv
  subst hv
  go_enter Try.func30, Try.ntmps30
  go_wp2_with (go_at_call 20; refine H1.out.mono ?_; rintro e w1 ⟨rfl, h1, g1⟩)
  go_end0
  have e : be 2 m = be 2 n := by rw [HM.out]; exact be_mod 2 n
  rw [e] at h1
  exact ⟨rfl, h1, grow_trans HB.out g1⟩
set_option maxHeartbeats 1000000 in
theorem write_2 (a : Nat) (x : It) (hk : x.kind % 6 = 2) (hk8 : x.kind < 256) (hn : x.n < 18446744073709551616) (hs : x.s.size ≤ 1000000) (st : Option (List UInt8)) (w : World) (hW : Wr w a st) (hl : wlen st ≤ 549755813888) :
    Calls Try.prog 30 #[.pointer (some ⟨a, 0, none⟩), .agg #[.int .u8 x.kind, .int .u64 x.n, .string x.s]] w (Wrote a (step st x) w) := by
  have hst : step st x = more st (be 4 x.n) := by unfold step; rw [hk]; rfl
  rw [hst]
  clear hst
  obtain ⟨kind, n, s⟩ := x
  simp only at hk hk8 hn hs ⊢
  have hk' : (kind : Int) % 6 = 2 := by omega
  clear hk
  obtain ⟨m, hm⟩ : ∃ m, m = n % 4294967296 := ⟨_, rfl⟩
  have hnm : (n : Int) % 4294967296 = (m : Int) := by omega
  have hml : m < 4294967296 := by omega
  have hwr : IntKind.u32.wrap (n : Int) = (m : Int) := by rw [IntKind.wrap_u32]; omega
  have HM := Lib.hid hm; clear hm
  obtain ⟨v, hv⟩ : ∃ v, v = w.alloc (.cells #[.int .u8 kind, .int .u64 n, .string s] 36) := ⟨_, rfl⟩
  have hbv : Below w.heap.size w v := by rw [hv]; exact (Below.refl _ w).alloc (Nat.le_refl _) _
  have hWv := hW.below hbv
  have H1 := Lib.hid (u32_any a m st v hWv (by omega))
  have HB := Lib.hid (grow_below hbv (some a))
  clear hW hbv hWv
  subst hv
  go_enter Try.func30, Try.ntmps30
  go_wp2_with (go_at_call 21; refine H1.out.mono ?_; rintro e w1 ⟨rfl, h1, g1⟩)
  go_end0
  have e : be 4 m = be 4 n := by rw [HM.out]; exact be_mod 4 n
  rw [e] at h1
  exact ⟨rfl, h1, grow_trans HB.out g1⟩
set_option maxHeartbeats 1000000 in
theorem write_3 (a : Nat) (x : It) (hk : x.kind % 6 = 3) (hk8 : x.kind < 256) (hn : x.n < 18446744073709551616) (hs : x.s.size ≤ 1000000) (st : Option (List UInt8)) (w : World) (hW : Wr w a st) (hl : wlen st ≤ 549755813888) :
    Calls Try.prog 30 #[.pointer (some ⟨a, 0, none⟩), .agg #[.int .u8 x.kind, .int .u64 x.n, .string x.s]] w (Wrote a (step st x) w) := by
  have hst : step st x = more st (be 8 x.n) := by unfold step; rw [hk]; rfl
  rw [hst]
  clear hst
  obtain ⟨kind, n, s⟩ := x
  simp only at hk hk8 hn hs ⊢
  have hk' : (kind : Int) % 6 = 3 := by omega
  clear hk
  obtain ⟨v, hv⟩ : ∃ v, v = w.alloc (.cells #[.int .u8 kind, .int .u64 n, .string s] 36) := ⟨_, rfl⟩
  have hbv : Below w.heap.size w v := by rw [hv]; exact (Below.refl _ w).alloc (Nat.le_refl _) _
  have hWv := hW.below hbv
  have H1 := Lib.hid (u64_any a n st v hWv (by omega))
  have HB := Lib.hid (grow_below hbv (some a))
  clear hW hbv hWv
  subst hv
  go_enter Try.func30, Try.ntmps30
  go_wp2_with (go_at_call 28; refine H1.out.mono ?_; rintro e w1 ⟨rfl, h1, g1⟩)
  go_end0
  exact ⟨rfl, h1, grow_trans HB.out g1⟩
set_option maxHeartbeats 1000000 in
theorem write_4 (a : Nat) (x : It) (hk : x.kind % 6 = 4) (hk8 : x.kind < 256) (hn : x.n < 18446744073709551616) (hs : x.s.size ≤ 1000000) (st : Option (List UInt8)) (w : World) (hW : Wr w a st) (hl : wlen st ≤ 549755813888) :
    Calls Try.prog 30 #[.pointer (some ⟨a, 0, none⟩), .agg #[.int .u8 x.kind, .int .u64 x.n, .string x.s]] w (Wrote a (step st x) w) := by
  have hst : step st x = more st x.s.data.toList := by unfold step; rw [hk]; rfl
  rw [hst]
  clear hst
  obtain ⟨kind, n, s⟩ := x
  simp only at hk hk8 hn hs ⊢
  have hk' : (kind : Int) % 6 = 4 := by omega
  clear hk
  obtain ⟨v, hv⟩ : ∃ v, v = w.alloc (.cells #[.int .u8 kind, .int .u64 n, .string s] 36) := ⟨_, rfl⟩
  have hbv : Below w.heap.size w v := by rw [hv]; exact (Below.refl _ w).alloc (Nat.le_refl _) _
  have hWv := hW.below hbv
  have H1 := Lib.hid (raw_any a s st v hWv (by omega))
  have HB := Lib.hid (grow_below hbv (some a))
  clear hW hbv hWv
  subst hv
  go_enter Try.func30, Try.ntmps30
  go_wp2_with (go_at_call 23; refine H1.out.mono ?_; rintro e w1 ⟨rfl, h1, g1⟩)
  go_end0
  exact ⟨rfl, h1, grow_trans HB.out g1⟩
set_option maxHeartbeats 1000000 in
theorem write_5 (a : Nat) (x : It) (hk : x.kind % 6 = 5) (hk8 : x.kind < 256) (hn : x.n < 18446744073709551616) (hs : x.s.size ≤ 1000000) (st : Option (List UInt8)) (w : World) (hW : Wr w a st) (hl : wlen st ≤ 549755813888) :
    Calls Try.prog 30 #[.pointer (some ⟨a, 0, none⟩), .agg #[.int .u8 x.kind, .int .u64 x.n, .string x.s]] w (Wrote a (step st x) w) := by
  have hst : step st x = moreText st x.s.data.toList := by unfold step; rw [hk]; rfl
  rw [hst]
  clear hst
  obtain ⟨kind, n, s⟩ := x
  simp only at hk hk8 hn hs ⊢
  have hk' : (kind : Int) % 6 = 5 := by omega
  clear hk
  obtain ⟨v, hv⟩ : ∃ v, v = w.alloc (.cells #[.int .u8 kind, .int .u64 n, .string s] 36) := ⟨_, rfl⟩
  have hbv : Below w.heap.size w v := by rw [hv]; exact (Below.refl _ w).alloc (Nat.le_refl _) _
  have hWv := hW.below hbv
  have H1 := Lib.hid (text_any a s st v hWv (by omega))
  have HB := Lib.hid (grow_below hbv (some a))
  clear hW hbv hWv
  subst hv
  go_enter Try.func30, Try.ntmps30
  go_wp2_with (go_at_call 22; refine H1.out.mono ?_; rintro e w1 ⟨rfl, h1, g1⟩)
  go_end0
  exact ⟨rfl, h1, grow_trans HB.out g1⟩
theorem write_any (a : Nat) (x : It) (hk8 : x.kind < 256) (hn : x.n < 18446744073709551616) (hs : x.s.size ≤ 1000000) (st : Option (List UInt8)) (w : World) (hW : Wr w a st) (hl : wlen st ≤ 549755813888) :
    Calls Try.prog 30 #[.pointer (some ⟨a, 0, none⟩), .agg #[.int .u8 x.kind, .int .u64 x.n, .string x.s]] w (Wrote a (step st x) w) := by
  have hm : x.kind % 6 = 0 ∨ x.kind % 6 = 1 ∨ x.kind % 6 = 2 ∨ x.kind % 6 = 3 ∨ x.kind % 6 = 4 ∨ x.kind % 6 = 5 := by omega
  rcases hm with h | h | h | h | h | h
  · exact write_0 a x h hk8 hn hs st w hW hl
  · exact write_1 a x h hk8 hn hs st w hW hl
  · exact write_2 a x h hk8 hn hs st w hW hl
  · exact write_3 a x h hk8 hn hs st w hW hl
  · exact write_4 a x h hk8 hn hs st w hW hl
  · exact write_5 a x h hk8 hn hs st w hW hl
/-- What reading an item leaves. -/
def next (x : R) (y : It) : R :=
  if y.kind % 6 = 0 then x.drop 1 else if y.kind % 6 = 1 then x.drop 2 else if y.kind % 6 = 2 then x.drop 4 else if y.kind % 6 = 3 then x.drop 8 else if y.kind % 6 = 4 then x.drop y.s.size else x.behind
/-- Is an item read as it was? -/
def Good (x : R) (y : It) : Prop :=
  if y.kind % 6 = 0 then val (x.take 1) = y.n % 256 else if y.kind % 6 = 1 then val (x.take 2) = y.n % 65536 else if y.kind % 6 = 2 then val (x.take 4) = y.n % 4294967296 else if y.kind % 6 = 3 then val (x.take 8) = y.n else if y.kind % 6 = 4 then x.take y.s.size = y.s.data.toList else x.text = y.s.data.toList
def ReadPost (r : Nat) (x : R) (y : It) (w : World) (e : Ending) (w' : World) : Prop := ∃ b : Bool, e = .returned (.bool b) ∧ (Good x y → b = true) ∧ Rd w' r (next x y) ∧ w.grownBy w' (some r)
set_option maxHeartbeats 1000000 in
theorem read_0 (r : Nat) (y : It) (hk : y.kind % 6 = 0) (hk8 : y.kind < 256) (hn : y.n < 18446744073709551616) (hs : y.s.size ≤ 1000000) (x : R) (w : World) (hW : Rd w r x) (hl : x.rest.length ≤ 549755813888) :
    Calls Try.prog 31 #[.pointer (some ⟨r, 0, none⟩), .agg #[.int .u8 y.kind, .int .u64 y.n, .string y.s]] w (ReadPost r x y w) := by
  have hst : next x y = x.drop 1 := by unfold next; rw [hk]; rfl
  have hgd : Good x y = (val (x.take 1) = y.n % 256) := by unfold Good; rw [hk]; rfl
  have HG := Lib.hid hgd; have HST := Lib.hid hst; clear hst hgd
  unfold ReadPost
  rw [HG.out, HST.out]
  clear HG HST
  obtain ⟨kind, n, s⟩ := y
  simp only at hk hk8 hn hs ⊢
  have hk' : (kind : Int) % 6 = 0 := by omega
  clear hk
  have hV := val_bd x 1 256 (by decide)
  obtain ⟨v, hv⟩ : ∃ v, v = w.alloc (.cells #[.int .u8 kind, .int .u64 n, .string s] 36) := ⟨_, rfl⟩
  have hbv : Below w.heap.size w v := by rw [hv]; exact (Below.refl _ w).alloc (Nat.le_refl _) _
  have hWv := hW.below hbv
  have h1 : ∀ j, Calls Try.prog 25 #[.pointer (some ⟨r, 0, none⟩)] (v.drewN j) (Got .u8 r (val (x.take 1)) (x.drop 1) (v.drewN j)) := fun j => ru8_any r x (by omega) _ (hWv.drew j)
  have h2 : ∀ j w1, (v.drewN j).grownBy w1 (some r) → w.grownBy w1 (some r) ∧ w1.cell? ⟨w.heap.size, 1, none⟩ = some (.int .u64 n) ∧ w1.cell? ⟨w.heap.size, 2, none⟩ = some (.string s) := fun j w1 g1 => by
    have g2 : v.grownBy w1 (some r) := ⟨g1.os, g1.tape, g1.output, g1.size, g1.block⟩
    have g3 := grow_trans (grow_below hbv (some r)) g2
    rw [hv] at g2
    exact ⟨g3, boxed hW.lt g2 1, boxed hW.lt g2 2⟩
  have H1 := Lib.hid h1
  have H2 := Lib.hid h2
  have HB := Lib.hid (grow_below hbv (some r))
  clear hW hbv hWv h1 h2
  subst hv
  generalize val (x.take 1) = V at *
  generalize x.drop 1 = z at *
  go_enter Try.func31, Try.ntmps31
  go_wp2_with fail
  go_region_with (go_at_call 25; refine (H1.out _).mono ?_; rintro e w1 ⟨rfl, h1, g1⟩; obtain ⟨hx, d1, d2⟩ := H2.out _ w1 g1; have HW1 := Lib.hid hx; have HR1 := Lib.hid h1; clear h1 g1 hx)
  all_goals
    go_wp2
    go_ret
    refine ⟨_, rfl, fun h => ?_, HR1.out, HW1.out⟩
    rw [h, IntKind.wrap_u8]; simp
set_option maxHeartbeats 1000000 in
theorem read_1 (r : Nat) (y : It) (hk : y.kind % 6 = 1) (hk8 : y.kind < 256) (hn : y.n < 18446744073709551616) (hs : y.s.size ≤ 1000000) (x : R) (w : World) (hW : Rd w r x) (hl : x.rest.length ≤ 549755813888) :
    Calls Try.prog 31 #[.pointer (some ⟨r, 0, none⟩), .agg #[.int .u8 y.kind, .int .u64 y.n, .string y.s]] w (ReadPost r x y w) := by
  have hst : next x y = x.drop 2 := by unfold next; rw [hk]; rfl
  have hgd : Good x y = (val (x.take 2) = y.n % 65536) := by unfold Good; rw [hk]; rfl
  have HG := Lib.hid hgd; have HST := Lib.hid hst; clear hst hgd
  unfold ReadPost
  rw [HG.out, HST.out]
  clear HG HST
  obtain ⟨kind, n, s⟩ := y
  simp only at hk hk8 hn hs ⊢
  have hk' : (kind : Int) % 6 = 1 := by omega
  clear hk
  have hV := val_bd x 2 65536 (by decide)
  obtain ⟨v, hv⟩ : ∃ v, v = w.alloc (.cells #[.int .u8 kind, .int .u64 n, .string s] 36) := ⟨_, rfl⟩
  have hbv : Below w.heap.size w v := by rw [hv]; exact (Below.refl _ w).alloc (Nat.le_refl _) _
  have hWv := hW.below hbv
  have h1 : ∀ j, Calls Try.prog 24 #[.pointer (some ⟨r, 0, none⟩)] (v.drewN j) (Got .u16 r (val (x.take 2)) (x.drop 2) (v.drewN j)) := fun j => ru16_any r x (by omega) _ (hWv.drew j)
  have h2 : ∀ j w1, (v.drewN j).grownBy w1 (some r) → w.grownBy w1 (some r) ∧ w1.cell? ⟨w.heap.size, 1, none⟩ = some (.int .u64 n) ∧ w1.cell? ⟨w.heap.size, 2, none⟩ = some (.string s) := fun j w1 g1 => by
    have g2 : v.grownBy w1 (some r) := ⟨g1.os, g1.tape, g1.output, g1.size, g1.block⟩
    have g3 := grow_trans (grow_below hbv (some r)) g2
    rw [hv] at g2
    exact ⟨g3, boxed hW.lt g2 1, boxed hW.lt g2 2⟩
  have H1 := Lib.hid h1
  have H2 := Lib.hid h2
  have HB := Lib.hid (grow_below hbv (some r))
  clear hW hbv hWv h1 h2
  subst hv
  generalize val (x.take 2) = V at *
  generalize x.drop 2 = z at *
  go_enter Try.func31, Try.ntmps31
  go_wp2_with fail
  go_region_with (go_at_call 24; refine (H1.out _).mono ?_; rintro e w1 ⟨rfl, h1, g1⟩; obtain ⟨hx, d1, d2⟩ := H2.out _ w1 g1; have HW1 := Lib.hid hx; have HR1 := Lib.hid h1; clear h1 g1 hx)
  all_goals
    go_wp2
    go_ret
    refine ⟨_, rfl, fun h => ?_, HR1.out, HW1.out⟩
    rw [h, IntKind.wrap_u16]; simp
set_option maxHeartbeats 1000000 in
theorem read_2 (r : Nat) (y : It) (hk : y.kind % 6 = 2) (hk8 : y.kind < 256) (hn : y.n < 18446744073709551616) (hs : y.s.size ≤ 1000000) (x : R) (w : World) (hW : Rd w r x) (hl : x.rest.length ≤ 549755813888) :
    Calls Try.prog 31 #[.pointer (some ⟨r, 0, none⟩), .agg #[.int .u8 y.kind, .int .u64 y.n, .string y.s]] w (ReadPost r x y w) := by
  have hst : next x y = x.drop 4 := by unfold next; rw [hk]; rfl
  have hgd : Good x y = (val (x.take 4) = y.n % 4294967296) := by unfold Good; rw [hk]; rfl
  have HG := Lib.hid hgd; have HST := Lib.hid hst; clear hst hgd
  unfold ReadPost
  rw [HG.out, HST.out]
  clear HG HST
  obtain ⟨kind, n, s⟩ := y
  simp only at hk hk8 hn hs ⊢
  have hk' : (kind : Int) % 6 = 2 := by omega
  clear hk
  have hV := val_bd x 4 4294967296 (by decide)
  obtain ⟨v, hv⟩ : ∃ v, v = w.alloc (.cells #[.int .u8 kind, .int .u64 n, .string s] 36) := ⟨_, rfl⟩
  have hbv : Below w.heap.size w v := by rw [hv]; exact (Below.refl _ w).alloc (Nat.le_refl _) _
  have hWv := hW.below hbv
  have h1 : ∀ j, Calls Try.prog 32 #[.pointer (some ⟨r, 0, none⟩)] (v.drewN j) (Got .u32 r (val (x.take 4)) (x.drop 4) (v.drewN j)) := fun j => ru32_any r x (by omega) _ (hWv.drew j)
  have h2 : ∀ j w1, (v.drewN j).grownBy w1 (some r) → w.grownBy w1 (some r) ∧ w1.cell? ⟨w.heap.size, 1, none⟩ = some (.int .u64 n) ∧ w1.cell? ⟨w.heap.size, 2, none⟩ = some (.string s) := fun j w1 g1 => by
    have g2 : v.grownBy w1 (some r) := ⟨g1.os, g1.tape, g1.output, g1.size, g1.block⟩
    have g3 := grow_trans (grow_below hbv (some r)) g2
    rw [hv] at g2
    exact ⟨g3, boxed hW.lt g2 1, boxed hW.lt g2 2⟩
  have H1 := Lib.hid h1
  have H2 := Lib.hid h2
  have HB := Lib.hid (grow_below hbv (some r))
  clear hW hbv hWv h1 h2
  subst hv
  generalize val (x.take 4) = V at *
  generalize x.drop 4 = z at *
  go_enter Try.func31, Try.ntmps31
  go_wp2_with fail
  go_region_with (go_at_call 32; refine (H1.out _).mono ?_; rintro e w1 ⟨rfl, h1, g1⟩; obtain ⟨hx, d1, d2⟩ := H2.out _ w1 g1; have HW1 := Lib.hid hx; have HR1 := Lib.hid h1; clear h1 g1 hx)
  all_goals
    go_wp2
    go_ret
    refine ⟨_, rfl, fun h => ?_, HR1.out, HW1.out⟩
    rw [h, IntKind.wrap_u32]; simp
set_option maxHeartbeats 1000000 in
theorem read_3 (r : Nat) (y : It) (hk : y.kind % 6 = 3) (hk8 : y.kind < 256) (hn : y.n < 18446744073709551616) (hs : y.s.size ≤ 1000000) (x : R) (w : World) (hW : Rd w r x) (hl : x.rest.length ≤ 549755813888) :
    Calls Try.prog 31 #[.pointer (some ⟨r, 0, none⟩), .agg #[.int .u8 y.kind, .int .u64 y.n, .string y.s]] w (ReadPost r x y w) := by
  have hst : next x y = x.drop 8 := by unfold next; rw [hk]; rfl
  have hgd : Good x y = (val (x.take 8) = y.n) := by unfold Good; rw [hk]; rfl
  have HG := Lib.hid hgd; have HST := Lib.hid hst; clear hst hgd
  unfold ReadPost
  rw [HG.out, HST.out]
  clear HG HST
  obtain ⟨kind, n, s⟩ := y
  simp only at hk hk8 hn hs ⊢
  have hk' : (kind : Int) % 6 = 3 := by omega
  clear hk
  have hV := val_bd x 8 18446744073709551616 (by decide)
  obtain ⟨v, hv⟩ : ∃ v, v = w.alloc (.cells #[.int .u8 kind, .int .u64 n, .string s] 36) := ⟨_, rfl⟩
  have hbv : Below w.heap.size w v := by rw [hv]; exact (Below.refl _ w).alloc (Nat.le_refl _) _
  have hWv := hW.below hbv
  have h1 : ∀ j, Calls Try.prog 29 #[.pointer (some ⟨r, 0, none⟩)] (v.drewN j) (Got .u64 r (val (x.take 8)) (x.drop 8) (v.drewN j)) := fun j => ru64_any r x (by omega) _ (hWv.drew j)
  have h2 : ∀ j w1, (v.drewN j).grownBy w1 (some r) → w.grownBy w1 (some r) ∧ w1.cell? ⟨w.heap.size, 1, none⟩ = some (.int .u64 n) ∧ w1.cell? ⟨w.heap.size, 2, none⟩ = some (.string s) := fun j w1 g1 => by
    have g2 : v.grownBy w1 (some r) := ⟨g1.os, g1.tape, g1.output, g1.size, g1.block⟩
    have g3 := grow_trans (grow_below hbv (some r)) g2
    rw [hv] at g2
    exact ⟨g3, boxed hW.lt g2 1, boxed hW.lt g2 2⟩
  have H1 := Lib.hid h1
  have H2 := Lib.hid h2
  have HB := Lib.hid (grow_below hbv (some r))
  clear hW hbv hWv h1 h2
  subst hv
  generalize val (x.take 8) = V at *
  generalize x.drop 8 = z at *
  go_enter Try.func31, Try.ntmps31
  go_wp2_with fail
  go_region_with (go_at_call 29; refine (H1.out _).mono ?_; rintro e w1 ⟨rfl, h1, g1⟩; obtain ⟨hx, d1, d2⟩ := H2.out _ w1 g1; have HW1 := Lib.hid hx; have HR1 := Lib.hid h1; clear h1 g1 hx)
  all_goals
    go_wp2
    go_ret
    refine ⟨_, rfl, fun h => ?_, HR1.out, HW1.out⟩
    rw [h]; simp
set_option maxHeartbeats 1000000 in
theorem read_4 (r : Nat) (y : It) (hk : y.kind % 6 = 4) (hk8 : y.kind < 256) (hn : y.n < 18446744073709551616) (hs : y.s.size ≤ 1000000) (x : R) (w : World) (hW : Rd w r x) (hl : x.rest.length ≤ 549755813888) :
    Calls Try.prog 31 #[.pointer (some ⟨r, 0, none⟩), .agg #[.int .u8 y.kind, .int .u64 y.n, .string y.s]] w (ReadPost r x y w) := by
  have hst : next x y = x.drop y.s.size := by unfold next; rw [hk]; rfl
  have hgd : Good x y = (x.take y.s.size = y.s.data.toList) := by unfold Good; rw [hk]; rfl
  have HG := Lib.hid hgd; have HST := Lib.hid hst; clear hst hgd
  unfold ReadPost
  rw [HG.out, HST.out]
  clear HG HST
  obtain ⟨kind, n, s⟩ := y
  simp only at hk hk8 hn hs ⊢
  have hk' : (kind : Int) % 6 = 4 := by omega
  clear hk
  obtain ⟨v, hv⟩ : ∃ v, v = w.alloc (.cells #[.int .u8 kind, .int .u64 n, .string s] 36) := ⟨_, rfl⟩
  have hbv : Below w.heap.size w v := by rw [hv]; exact (Below.refl _ w).alloc (Nat.le_refl _) _
  have hWv := hW.below hbv
  have h1 : ∀ j, Calls Try.prog 27 #[.pointer (some ⟨r, 0, none⟩), .int .i64 s.size] (v.drewN j) (Took r (x.take s.size) (x.drop s.size) (v.drewN j)) := fun j => fixed_any r x s.size s.size (.inr rfl) (by omega) _ (hWv.drew j)
  have h2 : ∀ j w1, (v.drewN j).grownBy w1 (some r) → w.grownBy w1 (some r) ∧ w1.cell? ⟨w.heap.size, 1, none⟩ = some (.int .u64 n) ∧ w1.cell? ⟨w.heap.size, 2, none⟩ = some (.string s) := fun j w1 g1 => by
    have g2 : v.grownBy w1 (some r) := ⟨g1.os, g1.tape, g1.output, g1.size, g1.block⟩
    have g3 := grow_trans (grow_below hbv (some r)) g2
    rw [hv] at g2
    exact ⟨g3, boxed hW.lt g2 1, boxed hW.lt g2 2⟩
  have H1 := Lib.hid h1
  have H2 := Lib.hid h2
  have HB := Lib.hid (grow_below hbv (some r))
  clear hW hbv hWv h1 h2
  subst hv
  generalize x.take s.size = V at *
  generalize x.drop s.size = z at *
  go_enter Try.func31, Try.ntmps31
  go_wp2_with fail
  go_region_with (go_at_call 27; refine (H1.out _).mono ?_; rintro e w1 ⟨rfl, h1, g1⟩; obtain ⟨hx, d1, d2⟩ := H2.out _ w1 g1; have HW1 := Lib.hid hx; have HR1 := Lib.hid h1; clear h1 g1 hx)
  all_goals
    go_wp2
    go_ret
    refine ⟨_, rfl, fun h => ?_, HR1.out, HW1.out⟩
    rw [h, list_bs]; simp
set_option maxHeartbeats 1000000 in
theorem read_5 (r : Nat) (y : It) (hk : y.kind % 6 = 5) (hk8 : y.kind < 256) (hn : y.n < 18446744073709551616) (hs : y.s.size ≤ 1000000) (x : R) (w : World) (hW : Rd w r x) (hl : x.rest.length ≤ 549755813888) :
    Calls Try.prog 31 #[.pointer (some ⟨r, 0, none⟩), .agg #[.int .u8 y.kind, .int .u64 y.n, .string y.s]] w (ReadPost r x y w) := by
  have hst : next x y = x.behind := by unfold next; rw [hk]; rfl
  have hgd : Good x y = (x.text = y.s.data.toList) := by unfold Good; rw [hk]; rfl
  have HG := Lib.hid hgd; have HST := Lib.hid hst; clear hst hgd
  unfold ReadPost
  rw [HG.out, HST.out]
  clear HG HST
  obtain ⟨kind, n, s⟩ := y
  simp only at hk hk8 hn hs ⊢
  have hk' : (kind : Int) % 6 = 5 := by omega
  clear hk
  obtain ⟨v, hv⟩ : ∃ v, v = w.alloc (.cells #[.int .u8 kind, .int .u64 n, .string s] 36) := ⟨_, rfl⟩
  have hbv : Below w.heap.size w v := by rw [hv]; exact (Below.refl _ w).alloc (Nat.le_refl _) _
  have hWv := hW.below hbv
  have h1 : ∀ j, Calls Try.prog 26 #[.pointer (some ⟨r, 0, none⟩)] (v.drewN j) (Took r x.text x.behind (v.drewN j)) := fun j => rtext_any r x (by omega) _ (hWv.drew j)
  have h2 : ∀ j w1, (v.drewN j).grownBy w1 (some r) → w.grownBy w1 (some r) ∧ w1.cell? ⟨w.heap.size, 1, none⟩ = some (.int .u64 n) ∧ w1.cell? ⟨w.heap.size, 2, none⟩ = some (.string s) := fun j w1 g1 => by
    have g2 : v.grownBy w1 (some r) := ⟨g1.os, g1.tape, g1.output, g1.size, g1.block⟩
    have g3 := grow_trans (grow_below hbv (some r)) g2
    rw [hv] at g2
    exact ⟨g3, boxed hW.lt g2 1, boxed hW.lt g2 2⟩
  have H1 := Lib.hid h1
  have H2 := Lib.hid h2
  have HB := Lib.hid (grow_below hbv (some r))
  clear hW hbv hWv h1 h2
  subst hv
  generalize x.text = V at *
  generalize x.behind = z at *
  go_enter Try.func31, Try.ntmps31
  go_wp2_with fail
  go_region_with (go_at_call 26; refine (H1.out _).mono ?_; rintro e w1 ⟨rfl, h1, g1⟩; obtain ⟨hx, d1, d2⟩ := H2.out _ w1 g1; have HW1 := Lib.hid hx; have HR1 := Lib.hid h1; clear h1 g1 hx)
  all_goals
    go_wp2
    go_ret
    refine ⟨_, rfl, fun h => ?_, HR1.out, HW1.out⟩
    rw [h, list_bs]; simp
theorem read_any (r : Nat) (y : It) (hk8 : y.kind < 256) (hn : y.n < 18446744073709551616) (hs : y.s.size ≤ 1000000) (x : R) (w : World) (hW : Rd w r x) (hl : x.rest.length ≤ 549755813888) :
    Calls Try.prog 31 #[.pointer (some ⟨r, 0, none⟩), .agg #[.int .u8 y.kind, .int .u64 y.n, .string y.s]] w (ReadPost r x y w) := by
  have hm : y.kind % 6 = 0 ∨ y.kind % 6 = 1 ∨ y.kind % 6 = 2 ∨ y.kind % 6 = 3 ∨ y.kind % 6 = 4 ∨ y.kind % 6 = 5 := by omega
  rcases hm with h | h | h | h | h | h
  · exact read_0 r y h hk8 hn hs x w hW hl
  · exact read_1 r y h hk8 hn hs x w hW hl
  · exact read_2 r y h hk8 hn hs x w hW hl
  · exact read_3 r y h hk8 hn hs x w hW hl
  · exact read_4 r y h hk8 hn hs x w hW hl
  · exact read_5 r y h hk8 hn hs x w hW hl
end Go.Proofs.Ythgpffmgbooncaa
