/- What a writer tells. Conditions: lengths below 2^40. -/
import Derived.Test.YtlidieffaaicaaaGreatCodC
import Derived.Deep.WholeRow
import Derived.WalkSmall
namespace Go.Proofs.YtlidieffaaicaaaGreat
open Go.ChangeShapes Go.WideShapes Go.RowKit Go.Codec
set_option maxRecDepth 100000
/-- A row of which the last bytes are those of m, and k bytes ahead of them are 0. -/
def tailRow (k : Nat) (m : List UInt8) : Array Value := (List.replicate k (Value.int .u8 0) ++ Lib.byteCells m).toArray
theorem tailRow_size (k : Nat) (m : List UInt8) : (tailRow k m).size = k + m.length := by simp [tailRow, Lib.byteCells]
theorem copy_run (k : Nat) (s : ByteArray) (m : List UInt8) (w : World) (n : Nat) :
    (Builtin.copy_ #[72, 9] 3 #[.slice (some ⟨w.heap.size, k, none⟩) (s.size + m.length) (s.size + m.length), .string s]).run Tryz.prog ((w.alloc (.cells (tailRow (k + s.size) m) 5)).drewN n) =
      .ok (goInt s.size) ((w.alloc (.cells (tailRow k (s.data.toList ++ m)) 5)).drewN n) := by
  have h := Lib.run_copy_row_string (P := Tryz.prog) ((w.alloc (.cells (tailRow (k + s.size) m) 5)).drewN n) 72 9 3 5 w.heap.size k (s.size + m.length) (s.size + m.length) s (tailRow (k + s.size) m) 5 Tryz.underlying72 info5' (heap_alloc_new w _) (by omega) (by rw [tailRow_size]; omega)
  rw [h]
  have e : ((tailRow (k + s.size) m).toList.take k ++ Lib.byteCells s.data.toList ++ (tailRow (k + s.size) m).toList.drop (k + s.size)).toArray = tailRow k (s.data.toList ++ m) := by
    apply Array.ext'
    simp only [tailRow, Lib.byteCells_append]
    rw [List.take_append_of_le_length (by simp), List.drop_left' (by simp), List.take_replicate, Nat.min_eq_left (by omega), List.append_assoc]
  rw [e]
  exact congrArg (fun x => Result.ok (goInt s.size) (World.drewN x n)) (World.setRow_alloc_new w _ _ 5)
theorem tail_text (l : List UInt8) (n : Nat) (hn : n = l.length) (w : World) (j : Nat) : (convert 72 9 (.slice (some ⟨w.heap.size, 0, none⟩) n n)).run Tryz.prog ((w.alloc (.cells (tailRow 0 l) 5)).drewN j) = .ok (.string (bs l)) ((w.alloc (.cells (tailRow 0 l) 5)).drewN j) := by
  have h := run_convert_bytes_back (P := Tryz.prog) ((w.alloc (.cells (tailRow 0 l) 5)).drewN j) 72 9 5 ⟨w.heap.size, 0, none⟩ n l Tryz.underlying72 Tryz.underlying5 Tryz.underlying9 (fun j hj => by
    have e : (⟨w.heap.size, 0, none⟩ : Addr).add j = ⟨w.heap.size, j, none⟩ := by unfold Addr.add; split <;> simp_all
    rw [e, World.cell?_drewN]
    refine (World.cell?_alloc_mark w _ 5 (0, 0) j).trans ?_
    simp [tailRow, Lib.byteCells, hj])
  rw [← hn] at h
  exact h
theorem made_tail (n : Nat) : madeCells #[Value.int .u8 0] n = tailRow n [] := by
  apply Array.ext'
  rw [toList_madeCells_one]
  simp [tailRow, Lib.byteCells]
set_option maxHeartbeats 1000000 in
theorem bytes_of (a : Nat) (l : List UInt8) (er : Int) (last : Option Addr) (w : World) (h : Is w a 122 #[.pointer last, .int .i64 (l.length : Nat), .int .i64 er]) (hc : Chain w last l) (hl : l.length ≤ 1099511627776) :
    Calls Tryz.prog 65 #[.pointer (some ⟨a, 0, none⟩)] w fun e w' => e = .returned (.tuple #[.string (bs l), .int .i64 er]) ∧ Below w.heap.size w w' := by
  have c0 := h.cell 0; have c1 := h.cell 1; have c2 := h.cell 2
  simp at c0 c1 c2
  have hlt := h.lt
  have HW := Lib.hid h; clear h
  have HC := Lib.hid hc; clear hc
  obtain ⟨n, hn⟩ : ∃ n, n = l.length := ⟨_, rfl⟩
  rw [← hn] at c1 hl
  have HN := Lib.hid hn; clear hn
  have hmk : (Instr.makeSlice 72 (.int .i64 n) (.int .i64 n)).run Tryz.prog w = .ok (.slice (some ⟨w.heap.size, 0, none⟩) n n) (w.alloc (.cells (tailRow n []) 5)) := by
    rw [← made_tail]; exact make_run n hl w
  go_enter Tryz.func65, Tryz.ntmps65
  go_wp2
  clear hmk
  go_loopw [5, 6] (fun i p W => ∃ (k : Nat) (P : Option Addr) (x m : List UInt8) (j : Nat), k = x.length ∧ i = .int .i64 k ∧ p = .pointer P ∧ Chain w P x ∧ x ++ m = l ∧ W = (w.alloc (.cells (tailRow k m) 5)).drewN j) (fun i _ _ => (intOf i).toNat)
  case atStart => exact ⟨n, last, l, [], 0, HN.out, rfl, rfl, HC.out, by simp, rfl⟩
  case round =>
    obtain ⟨k, P, x, m, j, hk, rfl, rfl, hch, hxm, rfl⟩ := hrel
    have HK := Lib.hid hk; have HX := Lib.hid hxm; clear hk hxm
    cases hch with
    | none =>
      obtain rfl : k = 0 := HK.out
      obtain rfl : m = l := HX.out
      have ht := fun j' => tail_text m n HN.out w j'
      go_wp2
      go_quiet (fail)
      go_wp2
      go_ret2
      exact ⟨rfl, below_drewN (below_drewN ((Below.refl _ w).alloc (Nat.le_refl _) _) _) _⟩
    | @more g ahead x' s hp hs hch' =>
      have d0 := hp.cell 0; have d1 := hp.cell 1
      simp at d0 d1
      have hg := hp.lt
      have HP := Lib.hid hp; have HC' := Lib.hid hch'; clear hp hch'
      obtain ⟨q, hq⟩ : ∃ q, q = x'.length := ⟨_, rfl⟩
      have HQ := Lib.hid hq
      obtain rfl : k = q + s.size := by rw [HK.out, List.length_append, ← hq, ← Lib.size_eq]
      have hnm : n = q + (s.size + m.length) := by
        have e : (x' ++ s.data.toList ++ m).length = l.length := by rw [HX.out]
        rw [List.length_append, List.length_append, ← Lib.size_eq, ← hq] at e
        rw [HN.out]; omega
      have HC2 := Lib.hid (fun j' => copy_run q s m w j')
      clear hq
      subst hnm
      have hc := HC2.out
      have hne : ¬ s = ByteArray.empty := by rintro rfl; simp at hs
      go_wp2
      go_region
      clear hc
      go_wp2
      refine ⟨⟨q, ahead, x', s.data.toList ++ m, j + 1, HQ.out, rfl, rfl, HC'.out, by rw [← HX.out, List.append_assoc], rfl⟩, ?_⟩
      simp [intOf]; omega
/-- What Bytes tells of what a writer holds. -/
def told : Option (List UInt8) → List UInt8 × Int
  | some l => (l, 0)
  | none => ([], 3)
theorem bytes_any (a : Nat) (st : Option (List UInt8)) (w : World) (hW : Wr w a st) (hl : wlen st ≤ 1099511627776) :
    Calls Tryz.prog 65 #[.pointer (some ⟨a, 0, none⟩)] w fun e w' => e = .returned (.tuple #[.string (bs (told st).1), .int .i64 (told st).2]) ∧ Below w.heap.size w w' := by
  cases st with
  | none => exact bytes_of a [] 3 none w hW .none (by simp)
  | some l =>
    obtain ⟨last, h, hc⟩ := hW
    exact bytes_of a l 0 last w h hc hl
end Go.Proofs.YtlidieffaaicaaaGreat
