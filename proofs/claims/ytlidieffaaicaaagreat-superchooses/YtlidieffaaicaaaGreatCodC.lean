/- The writer: what it holds, and what its methods make of that. Conditions: lengths below 2^40. -/
import Derived.Test.YtlidieffaaicaaaGreatCodB
namespace Go.Proofs.YtlidieffaaicaaaGreat
open Go.ChangeShapes Go.WideShapes Go.RowKit Go.Codec
set_option maxRecDepth 100000
/-- The pieces that lead from p say l together. -/
inductive Chain (w : World) : Option Addr → List UInt8 → Prop
  | none : Chain w none []
  | more {g : Nat} {ahead : Option Addr} {l : List UInt8} {s : ByteArray} (h : Is w g 154 #[.pointer ahead, .string s]) (hs : 0 < s.size) (hc : Chain w ahead l) : Chain w (some ⟨g, 0, none⟩) (l ++ s.data.toList)
theorem Chain.kept {w w' : World} {p : Option Addr} {l : List UInt8} {row : Option Nat} (h : Chain w p l) (hb : w.grownBy w' row) (hr : ∀ g cs, Is w g 154 cs → some g ≠ row) : Chain w' p l := by
  induction h with
  | none => exact .none
  | more h hs _ ih => exact .more (h.kept hb (hr _ _ h)) hs ih
def Wok (w : World) (a : Nat) (l : List UInt8) : Prop := ∃ last, Is w a 122 #[.pointer last, .int .i64 (l.length : Nat), .int .i64 0] ∧ Chain w last l
def Wbad (w : World) (a : Nat) : Prop := Is w a 122 #[.pointer none, .int .i64 0, .int .i64 3]
/-- What a writer holds: a text, or its error. -/
def Wr (w : World) (a : Nat) : Option (List UInt8) → Prop
  | some l => Wok w a l
  | none => Wbad w a
def wlen : Option (List UInt8) → Nat
  | some l => l.length
  | none => 0
theorem Wr.is {w : World} {a : Nat} {st : Option (List UInt8)} (h : Wr w a st) : ∃ cs, Is w a 122 cs := by
  cases st with
  | none => exact ⟨_, h⟩
  | some l => obtain ⟨_, h, _⟩ := h; exact ⟨_, h⟩
theorem Wr.lt {w : World} {a : Nat} {st : Option (List UInt8)} (h : Wr w a st) : a < w.heap.size := by
  obtain ⟨_, h⟩ := h.is
  exact h.lt
theorem Wr.kept {w w' : World} {a : Nat} {st : Option (List UInt8)} {row : Option Nat} (h : Wr w a st) (hb : w.grownBy w' row) (hr : ∀ g t cs, Is w g t cs → t = 122 ∧ g = a ∨ t = 154 → some g ≠ row) : Wr w' a st := by
  cases st with
  | none => exact Is.kept h hb (hr _ _ _ h (.inl ⟨rfl, rfl⟩))
  | some l =>
    obtain ⟨last, h, hc⟩ := h
    exact ⟨last, h.kept hb (hr _ _ _ h (.inl ⟨rfl, rfl⟩)), hc.kept hb fun g cs h => hr g _ cs h (.inr rfl)⟩
theorem Wr.below {w w' : World} {a : Nat} {st : Option (List UInt8)} (h : Wr w a st) (hb : Below w.heap.size w w') : Wr w' a st :=
  h.kept (grow_below hb none) (fun _ _ _ _ _ => by simp)
/-- Another block, of another kind, may have turned. -/
theorem Wr.other {w w' : World} {a g : Nat} {t : TypeId} {cs : Array Value} {st : Option (List UInt8)} (h : Wr w a st) (hg : Is w g t cs) (h1 : t ≠ 122) (h2 : t ≠ 154) (hb : w.grownBy w' (some g)) : Wr w' a st :=
  h.kept hb fun g' t' cs' h' hor e => by
    injection e with e
    subst e
    rcases hor with ⟨rfl, rfl⟩ | rfl
    · exact (hg.ne h' h1) rfl
    · exact (hg.ne h' h2) rfl
theorem Wr.new (w : World) : Wr (w.alloc (.cells #[.pointer none, .int .i64 0, .int .i64 0] 122)) w.heap.size (some []) := ⟨none, Is.new _ _ _, .none⟩
/-- Something was written: the writer holds st', and nothing else has turned. -/
def Wrote (a : Nat) (st' : Option (List UInt8)) (w : World) (e : Ending) (w' : World) : Prop := e = .returned (.tuple #[]) ∧ Wr w' a st' ∧ w.grownBy w' (some a)
def more (st : Option (List UInt8)) (l : List UInt8) : Option (List UInt8) := st.map (· ++ l)
theorem addW_wr {w : World} {a : Nat} {last : Option Addr} {l : List UInt8} {s : ByteArray} (hs : 0 < s.size) (h : Is w a 122 #[.pointer last, .int .i64 (l.length : Nat), .int .i64 0]) (hc : Chain w last l) :
    Wok (addW w a last l.length s) a (l ++ s.data.toList) ∧ w.grownBy (addW w a last l.length s) (some a) := by
  have hg0 : w.grownBy ((w.setCell ⟨a, 0, none⟩ (.pointer (some ⟨w.heap.size, 0, none⟩))).setCell ⟨a, 1, none⟩ (.int .i64 ((l.length : Int) + (s.size : Int)))) (some a) :=
    grow_set (grow_set (World.grownBy.refl w _) 0 _) 1 _
  have hg : w.grownBy (addW w a last l.length s) (some a) := grow_trans hg0 (World.grownBy_alloc _ _ _)
  refine ⟨⟨some ⟨w.heap.size, 0, none⟩, ?_, .more (ahead := last) (by
    have := Is.new ((w.setCell ⟨a, 0, none⟩ (.pointer (some ⟨w.heap.size, 0, none⟩))).setCell ⟨a, 1, none⟩ (.int .i64 ((l.length : Int) + (s.size : Int)))) 154 #[.pointer last, .string s]
    have hsz : ((w.setCell ⟨a, 0, none⟩ (.pointer (some ⟨w.heap.size, 0, none⟩))).setCell ⟨a, 1, none⟩ (.int .i64 ((l.length : Int) + (s.size : Int)))).heap.size = w.heap.size := by simp [World.setCell]
    rw [hsz] at this
    exact this) hs (hc.kept hg fun g cs h' e => ?_)⟩, hg⟩
  · have h1 := ((h.put 0 (.pointer (some ⟨w.heap.size, 0, none⟩))).put 1 (.int .i64 ((l.length : Int) + (s.size : Int)))).alloc (.cells #[.pointer last, .string s] 154)
    have e : ((l ++ s.data.toList).length : Int) = (l.length : Int) + (s.size : Int) := by rw [List.length_append, ← Lib.size_eq]; omega
    rw [e]
    simp at h1
    exact h1
  · injection e with e
    subst e
    exact (h.ne h' (by decide)) rfl
theorem add_any (a : Nat) (st : Option (List UInt8)) (s : ByteArray) (w : World) (hW : Wr w a st) (hb : wlen st + s.size ≤ 1099511627776) :
    Calls Tryz.prog 118 #[.pointer (some ⟨a, 0, none⟩), .string s] w (Wrote a (more st s.data.toList) w) := by
  cases st with
  | none => exact (add_bad a none 0 s w hW).mono fun e w' ⟨he, hw⟩ => ⟨he, by rw [← hw]; exact hW, by rw [← hw]; exact World.grownBy.refl _ _⟩
  | some l =>
    obtain ⟨last, h, hc⟩ := hW
    by_cases h0 : s.size = 0
    · have e := empty_of_size h0
      subst e
      refine (add_none a last _ w h).mono fun e w' ⟨he, hw⟩ => ⟨he, ?_, by rw [← hw]; exact World.grownBy.refl _ _⟩
      rw [← hw]
      have e : more (some l) (ByteArray.mk #[]).data.toList = some l := by simp [more]
      rw [e]
      exact ⟨last, h, hc⟩
    · refine (add_new a last l.length s (by omega) hb w h).mono fun e w' ⟨he, hw⟩ => ?_
      obtain ⟨h1, h2⟩ := addW_wr (s := s) (by omega) h hc
      rw [hw] at h1 h2
      exact ⟨he, h1, h2⟩
theorem put_of {f : FuncId} {a : Nat} {v : Value} {l : List UInt8} {m : Nat} (hl : l.length = m) (hm : m ≤ 8) {st : Option (List UInt8)} {w : World} (hW : Wr w a st) (hb : wlen st + 8 ≤ 1099511627776)
    (h : ∀ Q : Ending → World → Prop, Calls Tryz.prog 118 #[.pointer (some ⟨a, 0, none⟩), .string (bs l)] (w.alloc (.cells (part l m m) 5)) (fun e w' => e = .returned (.tuple #[]) ∧ Q e w') → Calls Tryz.prog f #[.pointer (some ⟨a, 0, none⟩), v] w Q) :
    Calls Tryz.prog f #[.pointer (some ⟨a, 0, none⟩), v] w (Wrote a (more st l) w) := by
  refine h _ ?_
  have hg : w.grownBy (w.alloc (.cells (part l m m) 5)) (some a) := World.grownBy_alloc _ _ _
  refine (add_any a st (bs l) _ (hW.below ((Below.refl _ w).alloc (Nat.le_refl _) _)) (by rw [bs_size]; omega)).mono fun e w' ⟨he, h1, h2⟩ => ⟨he, he, ?_, grow_trans hg h2⟩
  rw [bs_list] at h1
  exact h1
theorem put16_any (a : Nat) (n : Nat) (st : Option (List UInt8)) (w : World) (hW : Wr w a st) (hb : wlen st + 8 ≤ 1099511627776) : Calls Tryz.prog 98 #[.pointer (some ⟨a, 0, none⟩), .int .u16 n] w (Wrote a (more st (be 2 n)) w) :=
  put_of (be_length _ _) (by omega) hW hb fun Q h => put16_loop n _ w Q h
theorem put32_any (a : Nat) (n : Nat) (st : Option (List UInt8)) (w : World) (hW : Wr w a st) (hb : wlen st + 8 ≤ 1099511627776) : Calls Tryz.prog 119 #[.pointer (some ⟨a, 0, none⟩), .int .u32 n] w (Wrote a (more st (be 4 n)) w) :=
  put_of (be_length _ _) (by omega) hW hb fun Q h => put32_loop n _ w Q h
theorem put64_any (a : Nat) (n : Nat) (st : Option (List UInt8)) (w : World) (hW : Wr w a st) (hb : wlen st + 8 ≤ 1099511627776) : Calls Tryz.prog 97 #[.pointer (some ⟨a, 0, none⟩), .int .u64 n] w (Wrote a (more st (be 8 n)) w) :=
  put_of (be_length _ _) (by omega) hW hb fun Q h => put64_loop n _ w Q h
theorem u16_any (a : Nat) (n : Nat) (st : Option (List UInt8)) (w : World) (hW : Wr w a st) (hb : wlen st + 8 ≤ 1099511627776) : Calls Tryz.prog 64 #[.pointer (some ⟨a, 0, none⟩), .int .u16 n] w (Wrote a (more st (be 2 n)) w) := by
  have H := Lib.hid (put16_any a n st w hW hb); clear hW hb
  go_enter Tryz.func64, Tryz.ntmps64
  go_wp2_with (go_at_call 98; refine H.out.mono ?_; rintro e w' ⟨rfl, h1, h2⟩)
  go_end0
  exact ⟨rfl, h1, h2⟩
theorem u32_any (a : Nat) (n : Nat) (st : Option (List UInt8)) (w : World) (hW : Wr w a st) (hb : wlen st + 8 ≤ 1099511627776) : Calls Tryz.prog 99 #[.pointer (some ⟨a, 0, none⟩), .int .u32 n] w (Wrote a (more st (be 4 n)) w) := by
  have H := Lib.hid (put32_any a n st w hW hb); clear hW hb
  go_enter Tryz.func99, Tryz.ntmps99
  go_wp2_with (go_at_call 119; refine H.out.mono ?_; rintro e w' ⟨rfl, h1, h2⟩)
  go_end0
  exact ⟨rfl, h1, h2⟩
theorem u64_any (a : Nat) (n : Nat) (st : Option (List UInt8)) (w : World) (hW : Wr w a st) (hb : wlen st + 8 ≤ 1099511627776) : Calls Tryz.prog 63 #[.pointer (some ⟨a, 0, none⟩), .int .u64 n] w (Wrote a (more st (be 8 n)) w) := by
  have H := Lib.hid (put64_any a n st w hW hb); clear hW hb
  go_enter Tryz.func63, Tryz.ntmps63
  go_wp2_with (go_at_call 97; refine H.out.mono ?_; rintro e w' ⟨rfl, h1, h2⟩)
  go_end0
  exact ⟨rfl, h1, h2⟩
theorem raw_any (a : Nat) (s : ByteArray) (st : Option (List UInt8)) (w : World) (hW : Wr w a st) (hb : wlen st + s.size ≤ 1099511627776) : Calls Tryz.prog 101 #[.pointer (some ⟨a, 0, none⟩), .string s] w (Wrote a (more st s.data.toList) w) := by
  have H1 := Lib.hid (clone s (by omega) w)
  have H2 := Lib.hid (fun w' (hb' : Below w.heap.size w w') => add_any a st s w' (hW.below hb') hb); clear hW hb
  go_enter Tryz.func101, Tryz.ntmps101
  go_wp2_with (first | (go_at_call 84; refine H1.out.mono ?_; rintro e w' ⟨rfl, hb'⟩; have HB := Lib.hid hb'; clear hb') | (go_at_call 118; refine (H2.out _ HB.out).mono ?_; rintro e w'' ⟨rfl, h1, h2⟩))
  go_end0
  exact ⟨rfl, h1, grow_trans (grow_below HB.out _) h2⟩
/-- What a text makes of what a writer holds. -/
def moreText (st : Option (List UInt8)) (s : List UInt8) : Option (List UInt8) := if 65535 < s.length then none else more st (be 2 s.length ++ s)
theorem fail_any (a : Nat) (st : Option (List UInt8)) (w : World) (hW : Wr w a st) : Calls Tryz.prog 120 #[.pointer (some ⟨a, 0, none⟩), .int .i64 3] w (Wrote a none w) := by
  have h0 : ∃ x y z, Is w a 122 #[x, y, z] := by
    cases st with
    | none => exact ⟨_, _, _, hW⟩
    | some l => obtain ⟨_, h, _⟩ := hW; exact ⟨_, _, _, h⟩
  obtain ⟨x, y, z, h0⟩ := h0
  refine (fail_some a x y z w h0).mono fun e w' ⟨he, hw⟩ => ⟨he, ?_, ?_⟩
  · rw [← hw]
    have h1 := ((h0.put 0 (.pointer none)).put 1 (.int .i64 0)).put 2 (.int .i64 3)
    simp at h1
    exact h1
  · rw [← hw]
    exact grow_set (grow_set (grow_set (World.grownBy.refl w _) 0 _) 1 _) 2 _
theorem text_long (a : Nat) (s : ByteArray) (hs : 65535 < s.size) (hm : s.size ≤ 1099511627776) (st : Option (List UInt8)) (w : World) (hW : Wr w a st) : Calls Tryz.prog 100 #[.pointer (some ⟨a, 0, none⟩), .string s] w (Wrote a (moreText st s.data.toList) w) := by
  have e : moreText st s.data.toList = none := by unfold moreText; rw [if_pos (by rw [← Lib.size_eq]; exact hs)]
  rw [e]
  have H := Lib.hid (fail_any a st w hW); clear hW e
  go_enter Tryz.func100, Tryz.ntmps100
  go_wp2_with (go_at_call 120; refine H.out.mono ?_; rintro e w' ⟨rfl, h1, h2⟩)
  refine bodyPost_ret (results_none rfl _ _ _) rfl ?_
  exact ⟨rfl, h1, h2⟩
theorem text_short (a : Nat) (s : ByteArray) (hs : s.size ≤ 65535) (st : Option (List UInt8)) (w : World) (hW : Wr w a st) (hb : wlen st + 70000 ≤ 1099511627776) : Calls Tryz.prog 100 #[.pointer (some ⟨a, 0, none⟩), .string s] w (Wrote a (moreText st s.data.toList) w) := by
  have e : moreText st s.data.toList = more (more st (be 2 s.size)) s.data.toList := by
    unfold moreText
    rw [← Lib.size_eq, if_neg (by omega)]
    cases st <;> simp [more]
  rw [e]
  have hl : wlen (more st (be 2 s.size)) ≤ wlen st + 2 := by
    cases st with
    | none => simp [more, wlen]
    | some l => simp [more, wlen, be_length]
  have H1 := Lib.hid (u16_any a s.size st w hW (by omega))
  have H2 := Lib.hid (fun w' h => raw_any a s (more st (be 2 s.size)) w' h (by omega)); clear hW e hl
  go_enter Tryz.func100, Tryz.ntmps100
  go_wp2_with (first | (go_at_call 64; refine H1.out.mono ?_; rintro e w' ⟨rfl, h1, h2⟩; have HA := Lib.hid h1; have HB := Lib.hid h2; clear h1 h2) | (go_at_call 101; refine (H2.out _ HA.out).mono ?_; rintro e w'' ⟨rfl, h1, h2⟩))
  go_end0
  exact ⟨rfl, h1, grow_trans HB.out h2⟩
theorem text_any (a : Nat) (s : ByteArray) (st : Option (List UInt8)) (w : World) (hW : Wr w a st) (hb : wlen st + 70000 + s.size ≤ 1099511627776) : Calls Tryz.prog 100 #[.pointer (some ⟨a, 0, none⟩), .string s] w (Wrote a (moreText st s.data.toList) w) := by
  by_cases h : s.size ≤ 65535
  · exact text_short a s h st w hW (by omega)
  · exact text_long a s (by omega) (by omega) st w hW
end Go.Proofs.YtlidieffaaicaaaGreat
