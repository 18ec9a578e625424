/- The law MessageKnown: the examples of the chapter. Conditions: none. -/
import Derived.Test.YthledgkjfjdjoaaGreatMsX
import Derived.Test.YthledgkjfjdjoaaGreatMsM
import Derived.Test.YthledgkjfjdjoaaGreatShelf
namespace Go.Proofs.YthledgkjfjdjoaaGreat.Ms
open Go.ChangeShapes Go.WideShapes Go.RowKit Go.Codec Go.Mt Go.Blk
set_option maxRecDepth 100000
set_option linter.unusedSimpArgs false
set_option linter.unusedVariables false
theorem rep_lit (c k : Nat) (hk : k ≤ 200) (R : ByteArray) (h : bs (Lib.repeatL [UInt8.ofNat c] k) = R) (w : World) : Calls Tryz.prog 30 #[.string ⟨#[UInt8.ofNat c]⟩, .int .i64 k] w fun e w' => e = .returned (.string R) ∧ Below w.heap.size w w' := by
  rw [← h]
  exact Tryz.strings_Repeat ⟨#[UInt8.ofNat c]⟩ k w (by omega) (by show 1 * k ≤ _; omega)
theorem fails_lit (L : List UInt8) (E : Nat) (hs : L.length ≤ 1000) (h : (tkM L).e = E) (h0 : E ≠ 0) (w : World) : Calls Tryz.prog 31 #[.string (bs L), .int .i64 E] w fun e w' => e = .returned (.bool true) ∧ Below w.heap.size w w' := by
  refine fails_yes L E hs ?_ w
  have h1 := take_err L (by omega)
  generalize tkM L = T at *
  obtain ⟨m, e⟩ := T
  dsimp only at h h1
  subst h; subst h1; rfl
theorem part_lit (m : Msg) (f u : ByteArray) (R : Msg) (b : Bool) (hk : m.k.size ≤ 1000) (ht : m.t.size ≤ 1000) (hv : m.v.size ≤ 1000) (hf : f.size ≤ 1000) (hu : u.size ≤ 1000) (h : (part m f u).getD nil = R) (hb : (part m f u).isSome = b) (w : World) :
    Calls Tryz.prog 18 #[m.val, .string f, .string u] w fun e w' => e = .returned (.tuple #[R.val, .bool b]) ∧ Below w.heap.size w w' := by
  have P := part_any m f u (by omega) (by omega) (by omega) (by omega) (by omega) w
  rw [h, hb] at P
  exact P
instance : DecidableEq Msg := fun a b => by
  obtain ⟨a1, a2, a3, a4⟩ := a
  obtain ⟨b1, b2, b3, b4⟩ := b
  exact if h : a1 = b1 ∧ a2 = b2 ∧ a3 = b3 ∧ a4 = b4 then isTrue (by obtain ⟨rfl, rfl, rfl, rfl⟩ := h; rfl) else isFalse (fun e => h (by injection e with e1 e2 e3 e4; exact ⟨e1, e2, e3, e4⟩))
theorem doV0 (m : Msg) (q x : ByteArray) : doV m q x false = doV m q ⟨#[]⟩ false := rfl
set_option maxHeartbeats 16000000 in
theorem known_any (w : World) : Calls Tryz.prog 7 #[] w fun e w' => e = .returned (.bool true) ∧ Below w.heap.size w w' := by
  obtain ⟨R109, hR109⟩ : ∃ R, bs (Lib.repeatL [UInt8.ofNat 97] 109) = R := ⟨_, rfl⟩
  have zR109 : R109.size = 109 := by rw [← hR109]; decide +kernel
  obtain ⟨R108, hR108⟩ : ∃ R, bs (Lib.repeatL [UInt8.ofNat 97] 108) = R := ⟨_, rfl⟩
  have zR108 : R108.size = 108 := by rw [← hR108]; decide +kernel
  obtain ⟨Y65, hY65⟩ : ∃ R, bs (Lib.repeatL [UInt8.ofNat 121] 65) = R := ⟨_, rfl⟩
  have zY65 : Y65.size = 65 := by rw [← hY65]; decide +kernel
  obtain ⟨Z16, hZ16⟩ : ∃ R, bs (Lib.repeatL [UInt8.ofNat 0] 16) = R := ⟨_, rfl⟩
  have zZ16 : Z16.size = 16 := by rw [← hZ16]; decide +kernel
  obtain ⟨F5, hF5⟩ : ∃ R, (⟨#[1, 0, 0, 0, 5]⟩ : ByteArray) ++ Z16 = R := ⟨_, rfl⟩
  obtain ⟨F7, hF7⟩ : ∃ R, (⟨#[1, 0, 0, 0, 7]⟩ : ByteArray) ++ Z16 = R := ⟨_, rfl⟩
  have zF5 : F5.size = 21 := by rw [← hF5, ByteArray.size_append, zZ16]; rfl
  have zF7 : F7.size = 21 := by rw [← hF7, ByteArray.size_append, zZ16]; rfl
  have z5 : (⟨#[1, 0, 0, 0, 5]⟩ : ByteArray).size = 5 := rfl
  have z7 : (⟨#[1, 0, 0, 0, 7]⟩ : ByteArray).size = 5 := rfl
  have makesF5 : (if (doV ⟨4, ⟨#[109, 97]⟩, ⟨#[]⟩, ⟨#[1, 0, 0, 0, 7]⟩⟩ ⟨#[109, 97]⟩ F5 true).2 = true then (doV ⟨4, ⟨#[109, 97]⟩, ⟨#[]⟩, ⟨#[1, 0, 0, 0, 7]⟩⟩ ⟨#[109, 97]⟩ F5 true).1 else ⟨#[45]⟩ ++ (doV ⟨4, ⟨#[109, 97]⟩, ⟨#[]⟩, ⟨#[1, 0, 0, 0, 7]⟩⟩ ⟨#[109, 97]⟩ F5 true).1) = F7 := by
    rw [← hF5, ← hF7, ← hZ16]
    decide +kernel
  have C1 : Hid (∀ w, Calls Tryz.prog 11 #[] w fun e w' => e = .returned (.bool true) ∧ Below w.heap.size w w') := Lib.hid (awake_any)
  have C2 : Hid (∀ w, Calls Tryz.prog 25 #[.string ⟨#[109, 97]⟩] w fun e w' => e = .returned (.agg #[.int .i64 2, .string ⟨#[109, 97]⟩, .string ⟨#[]⟩, .string ⟨#[]⟩]) ∧ Below w.heap.size w w') := Lib.hid (fun w => drop_any ⟨#[109, 97]⟩ w)
  have C3 : Hid (∀ w, Calls Tryz.prog 24 #[.agg #[.int .i64 2, .string ⟨#[109, 97]⟩, .string ⟨#[]⟩, .string ⟨#[]⟩], .string ⟨#[2, 0, 2, 109, 97]⟩] w fun e w' => e = .returned (.bool true) ∧ Below w.heap.size w w') := Lib.hid (fun w => text_yes ⟨2, ⟨#[109, 97]⟩, ⟨#[]⟩, ⟨#[]⟩⟩ (by unfold small; decide) [2, 0, 2, 109, 97] (by decide +kernel) (by decide +kernel) w)
  have C4 : Hid (∀ w, Calls Tryz.prog 26 #[.string ⟨#[97]⟩, .string ⟨#[98]⟩] w fun e w' => e = .returned (.agg #[.int .i64 3, .string ⟨#[97]⟩, .string ⟨#[98]⟩, .string ⟨#[]⟩]) ∧ Below w.heap.size w w') := Lib.hid (fun w => sweep_any ⟨#[97]⟩ ⟨#[98]⟩ w)
  have C5 : Hid (∀ w, Calls Tryz.prog 24 #[.agg #[.int .i64 3, .string ⟨#[97]⟩, .string ⟨#[98]⟩, .string ⟨#[]⟩], .string ⟨#[3, 0, 1, 97, 0, 1, 98]⟩] w fun e w' => e = .returned (.bool true) ∧ Below w.heap.size w w') := Lib.hid (fun w => text_yes ⟨3, ⟨#[97]⟩, ⟨#[98]⟩, ⟨#[]⟩⟩ (by unfold small; decide) [3, 0, 1, 97, 0, 1, 98] (by decide +kernel) (by decide +kernel) w)
  have C6 : Hid (∀ w, Calls Tryz.prog 26 #[.string ⟨#[97]⟩, .string ⟨#[97]⟩] w fun e w' => e = .returned (.agg #[.int .i64 3, .string ⟨#[97]⟩, .string ⟨#[97]⟩, .string ⟨#[]⟩]) ∧ Below w.heap.size w w') := Lib.hid (fun w => sweep_any ⟨#[97]⟩ ⟨#[97]⟩ w)
  have C7 : Hid (∀ w, Calls Tryz.prog 27 #[.agg #[.int .i64 3, .string ⟨#[97]⟩, .string ⟨#[97]⟩, .string ⟨#[]⟩]] w fun e w' => e = .returned (.bool true) ∧ Below w.heap.size w w') := Lib.hid (fun w => none_any ⟨3, ⟨#[97]⟩, ⟨#[97]⟩, ⟨#[]⟩⟩ (by unfold small; decide) true (by decide +kernel) w)
  have C8 : Hid (∀ w, Calls Tryz.prog 28 #[.string ⟨#[109, 97]⟩, .string ⟨#[120]⟩] w fun e w' => e = .returned (.agg #[.int .i64 1, .string ⟨#[109, 97]⟩, .string ⟨#[]⟩, .string ⟨#[120]⟩]) ∧ Below w.heap.size w w') := Lib.hid (fun w => mput_any ⟨#[109, 97]⟩ ⟨#[120]⟩ w)
  have C9 : Hid (∀ w, Calls Tryz.prog 27 #[.agg #[.int .i64 1, .string ⟨#[109, 97]⟩, .string ⟨#[]⟩, .string ⟨#[120]⟩]] w fun e w' => e = .returned (.bool true) ∧ Below w.heap.size w w') := Lib.hid (fun w => none_any ⟨1, ⟨#[109, 97]⟩, ⟨#[]⟩, ⟨#[120]⟩⟩ (by unfold small; decide) true (by decide +kernel) w)
  have C10 : Hid (∀ w, Calls Tryz.prog 28 #[.string ⟨#[100, 97]⟩, .string ⟨#[0]⟩] w fun e w' => e = .returned (.agg #[.int .i64 1, .string ⟨#[100, 97]⟩, .string ⟨#[]⟩, .string ⟨#[0]⟩]) ∧ Below w.heap.size w w') := Lib.hid (fun w => mput_any ⟨#[100, 97]⟩ ⟨#[0]⟩ w)
  have C11 : Hid (∀ w, Calls Tryz.prog 27 #[.agg #[.int .i64 1, .string ⟨#[100, 97]⟩, .string ⟨#[]⟩, .string ⟨#[0]⟩]] w fun e w' => e = .returned (.bool true) ∧ Below w.heap.size w w') := Lib.hid (fun w => none_any ⟨1, ⟨#[100, 97]⟩, ⟨#[]⟩, ⟨#[0]⟩⟩ (by unfold small; decide) true (by decide +kernel) w)
  have C12 : Hid (∀ w, Calls Tryz.prog 29 #[.string ⟨#[120]⟩, .string ⟨#[]⟩] w fun e w' => e = .returned (.agg #[.int .i64 4, .string ⟨#[120]⟩, .string ⟨#[]⟩, .string ⟨#[]⟩]) ∧ Below w.heap.size w w') := Lib.hid (fun w => mpatch_any ⟨#[120]⟩ ⟨#[]⟩ w)
  have C13 : Hid (∀ w, Calls Tryz.prog 27 #[.agg #[.int .i64 4, .string ⟨#[120]⟩, .string ⟨#[]⟩, .string ⟨#[]⟩]] w fun e w' => e = .returned (.bool true) ∧ Below w.heap.size w w') := Lib.hid (fun w => none_any ⟨4, ⟨#[120]⟩, ⟨#[]⟩, ⟨#[]⟩⟩ (by unfold small; decide) true (by decide +kernel) w)
  have C14 : Hid (∀ w, Calls Tryz.prog 30 #[.string ⟨#[97]⟩, .int .i64 109] w fun e w' => e = .returned (.string R109) ∧ Below w.heap.size w w') := Lib.hid (fun w => rep_lit 97 109 (by decide) R109 hR109 w)
  have C15 : Hid (∀ w, Calls Tryz.prog 25 #[.string R109] w fun e w' => e = .returned (.agg #[.int .i64 2, .string R109, .string ⟨#[]⟩, .string ⟨#[]⟩]) ∧ Below w.heap.size w w') := Lib.hid (fun w => drop_any R109 w)
  have C16 : Hid (∀ w, Calls Tryz.prog 27 #[.agg #[.int .i64 2, .string R109, .string ⟨#[]⟩, .string ⟨#[]⟩]] w fun e w' => e = .returned (.bool true) ∧ Below w.heap.size w w') := Lib.hid (fun w => none_any ⟨2, R109, ⟨#[]⟩, ⟨#[]⟩⟩ (by unfold small; dsimp only; refine ⟨?_, ?_, ?_⟩ <;> first | omega | decide) true (by unfold may key; rw [zR109]; rfl) w)
  have C17 : Hid (∀ w, Calls Tryz.prog 27 #[.agg #[.int .i64 5, .string ⟨#[97]⟩, .string ⟨#[]⟩, .string ⟨#[]⟩]] w fun e w' => e = .returned (.bool true) ∧ Below w.heap.size w w') := Lib.hid (fun w => none_any ⟨5, ⟨#[97]⟩, ⟨#[]⟩, ⟨#[]⟩⟩ (by unfold small; decide) true (by decide +kernel) w)
  have C18 : Hid (∀ w, Calls Tryz.prog 30 #[.string ⟨#[97]⟩, .int .i64 108] w fun e w' => e = .returned (.string R108) ∧ Below w.heap.size w w') := Lib.hid (fun w => rep_lit 97 108 (by decide) R108 hR108 w)
  have C19 : Hid (∀ w, Calls Tryz.prog 25 #[.string R108] w fun e w' => e = .returned (.agg #[.int .i64 2, .string R108, .string ⟨#[]⟩, .string ⟨#[]⟩]) ∧ Below w.heap.size w w') := Lib.hid (fun w => drop_any R108 w)
  have C20 : Hid (∀ w, Calls Tryz.prog 27 #[.agg #[.int .i64 2, .string R108, .string ⟨#[]⟩, .string ⟨#[]⟩]] w fun e w' => e = .returned (.bool false) ∧ Below w.heap.size w w') := Lib.hid (fun w => none_any ⟨2, R108, ⟨#[]⟩, ⟨#[]⟩⟩ (by unfold small; dsimp only; refine ⟨?_, ?_, ?_⟩ <;> first | omega | decide) false (by unfold may key; rw [zR108]; rfl) w)
  have C21 : Hid (∀ w, Calls Tryz.prog 25 #[.string ⟨#[]⟩] w fun e w' => e = .returned (.agg #[.int .i64 2, .string ⟨#[]⟩, .string ⟨#[]⟩, .string ⟨#[]⟩]) ∧ Below w.heap.size w w') := Lib.hid (fun w => drop_any ⟨#[]⟩ w)
  have C22 : Hid (∀ w, Calls Tryz.prog 27 #[.agg #[.int .i64 2, .string ⟨#[]⟩, .string ⟨#[]⟩, .string ⟨#[]⟩]] w fun e w' => e = .returned (.bool true) ∧ Below w.heap.size w w') := Lib.hid (fun w => none_any ⟨2, ⟨#[]⟩, ⟨#[]⟩, ⟨#[]⟩⟩ (by unfold small; decide) true (by decide +kernel) w)
  have C23 : Hid (∀ w, Calls Tryz.prog 30 #[.string ⟨#[121]⟩, .int .i64 65] w fun e w' => e = .returned (.string Y65) ∧ Below w.heap.size w w') := Lib.hid (fun w => rep_lit 121 65 (by decide) Y65 hY65 w)
  have C24 : Hid (∀ w, Calls Tryz.prog 28 #[.string ⟨#[120]⟩, .string Y65] w fun e w' => e = .returned (.agg #[.int .i64 1, .string ⟨#[120]⟩, .string ⟨#[]⟩, .string Y65]) ∧ Below w.heap.size w w') := Lib.hid (fun w => mput_any ⟨#[120]⟩ Y65 w)
  have C25 : Hid (∀ w, Calls Tryz.prog 27 #[.agg #[.int .i64 1, .string ⟨#[120]⟩, .string ⟨#[]⟩, .string Y65]] w fun e w' => e = .returned (.bool true) ∧ Below w.heap.size w w') := Lib.hid (fun w => none_any ⟨1, ⟨#[120]⟩, ⟨#[]⟩, Y65⟩ (by unfold small; dsimp only; refine ⟨?_, ?_, ?_⟩ <;> first | omega | decide) true (by unfold may okV; rw [show key ⟨#[120]⟩ = true by decide, show hd ⟨#[120]⟩ = 120 by decide, zY65]; rfl) w)
  have C26 : Hid (∀ w, Calls Tryz.prog 28 #[.string ⟨#[120]⟩, .string ⟨#[]⟩] w fun e w' => e = .returned (.agg #[.int .i64 1, .string ⟨#[120]⟩, .string ⟨#[]⟩, .string ⟨#[]⟩]) ∧ Below w.heap.size w w') := Lib.hid (fun w => mput_any ⟨#[120]⟩ ⟨#[]⟩ w)
  have C27 : Hid (∀ w, Calls Tryz.prog 27 #[.agg #[.int .i64 1, .string ⟨#[120]⟩, .string ⟨#[]⟩, .string ⟨#[]⟩]] w fun e w' => e = .returned (.bool false) ∧ Below w.heap.size w w') := Lib.hid (fun w => none_any ⟨1, ⟨#[120]⟩, ⟨#[]⟩, ⟨#[]⟩⟩ (by unfold small; decide) false (by decide +kernel) w)
  have C28 : Hid (∀ w, Calls Tryz.prog 27 #[.agg #[.int .i64 2, .string ⟨#[97]⟩, .string ⟨#[98]⟩, .string ⟨#[]⟩]] w fun e w' => e = .returned (.bool true) ∧ Below w.heap.size w w') := Lib.hid (fun w => none_any ⟨2, ⟨#[97]⟩, ⟨#[98]⟩, ⟨#[]⟩⟩ (by unfold small; decide) true (by decide +kernel) w)
  have C29 : Hid (∀ w, Calls Tryz.prog 31 #[.string ⟨#[5]⟩, .int .i64 4] w fun e w' => e = .returned (.bool true) ∧ Below w.heap.size w w') := Lib.hid (fun w => fails_lit [5] 4 (by decide) (by decide +kernel) (by decide) w)
  have C30 : Hid (∀ w, Calls Tryz.prog 31 #[.string ⟨#[0]⟩, .int .i64 4] w fun e w' => e = .returned (.bool true) ∧ Below w.heap.size w w') := Lib.hid (fun w => fails_lit [0] 4 (by decide) (by decide +kernel) (by decide) w)
  have C31 : Hid (∀ w, Calls Tryz.prog 31 #[.string ⟨#[2, 0, 2, 97]⟩, .int .i64 10] w fun e w' => e = .returned (.bool true) ∧ Below w.heap.size w w') := Lib.hid (fun w => fails_lit [2, 0, 2, 97] 10 (by decide) (by decide +kernel) (by decide) w)
  have C32 : Hid (∀ w, Calls Tryz.prog 31 #[.string ⟨#[2, 0, 1, 97, 0]⟩, .int .i64 4] w fun e w' => e = .returned (.bool true) ∧ Below w.heap.size w w') := Lib.hid (fun w => fails_lit [2, 0, 1, 97, 0] 4 (by decide) (by decide +kernel) (by decide) w)
  have C33 : Hid (∀ w, Calls Tryz.prog 31 #[.string ⟨#[3, 0, 1, 98, 0, 1, 97]⟩, .int .i64 4] w fun e w' => e = .returned (.bool true) ∧ Below w.heap.size w w') := Lib.hid (fun w => fails_lit [3, 0, 1, 98, 0, 1, 97] 4 (by decide) (by decide +kernel) (by decide) w)
  have C34 : Hid (∀ w, Calls Tryz.prog 26 #[.string ⟨#[98]⟩, .string ⟨#[100]⟩] w fun e w' => e = .returned (.agg #[.int .i64 3, .string ⟨#[98]⟩, .string ⟨#[100]⟩, .string ⟨#[]⟩]) ∧ Below w.heap.size w w') := Lib.hid (fun w => sweep_any ⟨#[98]⟩ ⟨#[100]⟩ w)
  have C35 : Hid (∀ w, Calls Tryz.prog 18 #[.agg #[.int .i64 3, .string ⟨#[98]⟩, .string ⟨#[100]⟩, .string ⟨#[]⟩], .string ⟨#[99]⟩, .string ⟨#[]⟩] w fun e w' => e = .returned (.tuple #[.agg #[.int .i64 3, .string ⟨#[99]⟩, .string ⟨#[100]⟩, .string ⟨#[]⟩], .bool true]) ∧ Below w.heap.size w w') := Lib.hid (fun w => part_lit ⟨3, ⟨#[98]⟩, ⟨#[100]⟩, ⟨#[]⟩⟩ ⟨#[99]⟩ ⟨#[]⟩ ⟨3, ⟨#[99]⟩, ⟨#[100]⟩, ⟨#[]⟩⟩ true (by decide) (by decide) (by decide) (by decide) (by decide) (by decide +kernel) (by decide +kernel) w)
  have C36 : Hid (∀ w, Calls Tryz.prog 18 #[.agg #[.int .i64 3, .string ⟨#[98]⟩, .string ⟨#[100]⟩, .string ⟨#[]⟩], .string ⟨#[100]⟩, .string ⟨#[101]⟩] w fun e w' => e = .returned (.tuple #[.agg #[.int .i64 0, .string ⟨#[]⟩, .string ⟨#[]⟩, .string ⟨#[]⟩], .bool false]) ∧ Below w.heap.size w w') := Lib.hid (fun w => part_lit ⟨3, ⟨#[98]⟩, ⟨#[100]⟩, ⟨#[]⟩⟩ ⟨#[100]⟩ ⟨#[101]⟩ ⟨0, ⟨#[]⟩, ⟨#[]⟩, ⟨#[]⟩⟩ false (by decide) (by decide) (by decide) (by decide) (by decide) (by decide +kernel) (by decide +kernel) w)
  have C37 : Hid (∀ w, Calls Tryz.prog 28 #[.string ⟨#[120]⟩, .string ⟨#[49]⟩] w fun e w' => e = .returned (.agg #[.int .i64 1, .string ⟨#[120]⟩, .string ⟨#[]⟩, .string ⟨#[49]⟩]) ∧ Below w.heap.size w w') := Lib.hid (fun w => mput_any ⟨#[120]⟩ ⟨#[49]⟩ w)
  have C38 : Hid (∀ w, Calls Tryz.prog 18 #[.agg #[.int .i64 1, .string ⟨#[120]⟩, .string ⟨#[]⟩, .string ⟨#[49]⟩], .string ⟨#[120]⟩, .string ⟨#[121]⟩] w fun e w' => e = .returned (.tuple #[.agg #[.int .i64 1, .string ⟨#[120]⟩, .string ⟨#[]⟩, .string ⟨#[49]⟩], .bool true]) ∧ Below w.heap.size w w') := Lib.hid (fun w => part_lit ⟨1, ⟨#[120]⟩, ⟨#[]⟩, ⟨#[49]⟩⟩ ⟨#[120]⟩ ⟨#[121]⟩ ⟨1, ⟨#[120]⟩, ⟨#[]⟩, ⟨#[49]⟩⟩ true (by decide) (by decide) (by decide) (by decide) (by decide) (by decide +kernel) (by decide +kernel) w)
  have C39 : Hid (∀ w, Calls Tryz.prog 18 #[.agg #[.int .i64 1, .string ⟨#[120]⟩, .string ⟨#[]⟩, .string ⟨#[49]⟩], .string ⟨#[]⟩, .string ⟨#[120]⟩] w fun e w' => e = .returned (.tuple #[.agg #[.int .i64 0, .string ⟨#[]⟩, .string ⟨#[]⟩, .string ⟨#[]⟩], .bool false]) ∧ Below w.heap.size w w') := Lib.hid (fun w => part_lit ⟨1, ⟨#[120]⟩, ⟨#[]⟩, ⟨#[49]⟩⟩ ⟨#[]⟩ ⟨#[120]⟩ ⟨0, ⟨#[]⟩, ⟨#[]⟩, ⟨#[]⟩⟩ false (by decide) (by decide) (by decide) (by decide) (by decide) (by decide +kernel) (by decide +kernel) w)
  have C40 : Hid (∀ w, Calls Tryz.prog 29 #[.string ⟨#[100, 97]⟩, .string ⟨#[2, 0]⟩] w fun e w' => e = .returned (.agg #[.int .i64 4, .string ⟨#[100, 97]⟩, .string ⟨#[]⟩, .string ⟨#[2, 0]⟩]) ∧ Below w.heap.size w w') := Lib.hid (fun w => mpatch_any ⟨#[100, 97]⟩ ⟨#[2, 0]⟩ w)
  have C41 : Hid (∀ w, Calls Tryz.prog 29 #[.string ⟨#[100, 97]⟩, .string ⟨#[1, 4, 0, 1, 122]⟩] w fun e w' => e = .returned (.agg #[.int .i64 4, .string ⟨#[100, 97]⟩, .string ⟨#[]⟩, .string ⟨#[1, 4, 0, 1, 122]⟩]) ∧ Below w.heap.size w w') := Lib.hid (fun w => mpatch_any ⟨#[100, 97]⟩ ⟨#[1, 4, 0, 1, 122]⟩ w)
  have C42 : Hid (∀ w, Calls Tryz.prog 30 #[.string ⟨#[0]⟩, .int .i64 16] w fun e w' => e = .returned (.string Z16) ∧ Below w.heap.size w w') := Lib.hid (fun w => rep_lit 0 16 (by decide) Z16 hZ16 w)
  have C43 : Hid (∀ w, Calls Tryz.prog 29 #[.string ⟨#[109, 97]⟩, .string ⟨#[1, 0, 0, 0, 7]⟩] w fun e w' => e = .returned (.agg #[.int .i64 4, .string ⟨#[109, 97]⟩, .string ⟨#[]⟩, .string ⟨#[1, 0, 0, 0, 7]⟩]) ∧ Below w.heap.size w w') := Lib.hid (fun w => mpatch_any ⟨#[109, 97]⟩ ⟨#[1, 0, 0, 0, 7]⟩ w)
  have C44 : Hid (∀ w, Calls Tryz.prog 25 #[.string ⟨#[120]⟩] w fun e w' => e = .returned (.agg #[.int .i64 2, .string ⟨#[120]⟩, .string ⟨#[]⟩, .string ⟨#[]⟩]) ∧ Below w.heap.size w w') := Lib.hid (fun w => drop_any ⟨#[120]⟩ w)
  have C45 : Hid (∀ w, Calls Tryz.prog 32 #[.agg #[.int .i64 2, .string ⟨#[120]⟩, .string ⟨#[]⟩, .string ⟨#[]⟩], .string ⟨#[120]⟩, .string ⟨#[49]⟩, .bool true] w fun e w' => e = .returned (.string ⟨#[45]⟩) ∧ Below w.heap.size w w') := Lib.hid (fun w => makes_is ⟨2, ⟨#[120]⟩, ⟨#[]⟩, ⟨#[]⟩⟩ ⟨#[120]⟩ ⟨#[49]⟩ ⟨#[45]⟩ true (by decide) (by decide) (by decide +kernel) (by decide) w)
  have C46 : Hid (∀ w, Calls Tryz.prog 26 #[.string ⟨#[97]⟩, .string ⟨#[120]⟩] w fun e w' => e = .returned (.agg #[.int .i64 3, .string ⟨#[97]⟩, .string ⟨#[120]⟩, .string ⟨#[]⟩]) ∧ Below w.heap.size w w') := Lib.hid (fun w => sweep_any ⟨#[97]⟩ ⟨#[120]⟩ w)
  have C47 : Hid (∀ w, Calls Tryz.prog 32 #[.agg #[.int .i64 3, .string ⟨#[97]⟩, .string ⟨#[120]⟩, .string ⟨#[]⟩], .string ⟨#[120]⟩, .string ⟨#[49]⟩, .bool true] w fun e w' => e = .returned (.string ⟨#[49]⟩) ∧ Below w.heap.size w w') := Lib.hid (fun w => makes_is ⟨3, ⟨#[97]⟩, ⟨#[120]⟩, ⟨#[]⟩⟩ ⟨#[120]⟩ ⟨#[49]⟩ ⟨#[49]⟩ true (by decide) (by decide) (by decide +kernel) (by decide) w)
  have C48 : Hid (∀ w, Calls Tryz.prog 28 #[.string ⟨#[121]⟩, .string ⟨#[49]⟩] w fun e w' => e = .returned (.agg #[.int .i64 1, .string ⟨#[121]⟩, .string ⟨#[]⟩, .string ⟨#[49]⟩]) ∧ Below w.heap.size w w') := Lib.hid (fun w => mput_any ⟨#[121]⟩ ⟨#[49]⟩ w)
  have C49 : Hid (∀ w, Calls Tryz.prog 32 #[.agg #[.int .i64 1, .string ⟨#[121]⟩, .string ⟨#[]⟩, .string ⟨#[49]⟩], .string ⟨#[120]⟩, .string ⟨#[50]⟩, .bool false] w fun e w' => e = .returned (.string ⟨#[45]⟩) ∧ Below w.heap.size w w') := Lib.hid (fun w => makes_is ⟨1, ⟨#[121]⟩, ⟨#[]⟩, ⟨#[49]⟩⟩ ⟨#[120]⟩ ⟨#[50]⟩ ⟨#[45]⟩ false (by decide) (by decide) (by decide +kernel) (by decide) w)
  have C50 : Hid (∀ w, Calls Tryz.prog 32 #[.agg #[.int .i64 4, .string ⟨#[100, 97]⟩, .string ⟨#[]⟩, .string ⟨#[2, 0]⟩], .string ⟨#[100, 97]⟩, .string ⟨#[97, 98, 99]⟩, .bool true] w fun e w' => e = .returned (.string ⟨#[45]⟩) ∧ Below w.heap.size w w') := Lib.hid (fun w => makes_is ⟨4, ⟨#[100, 97]⟩, ⟨#[]⟩, ⟨#[2, 0]⟩⟩ ⟨#[100, 97]⟩ ⟨#[97, 98, 99]⟩ ⟨#[45]⟩ true (by decide) (by decide) (by decide +kernel) (by decide) w)
  have C51 : Hid (∀ w, Calls Tryz.prog 32 #[.agg #[.int .i64 4, .string ⟨#[100, 97]⟩, .string ⟨#[]⟩, .string ⟨#[1, 4, 0, 1, 122]⟩], .string ⟨#[100, 97]⟩, .string ⟨#[97, 98, 99]⟩, .bool true] w fun e w' => e = .returned (.string ⟨#[97, 98, 99, 0, 122]⟩) ∧ Below w.heap.size w w') := Lib.hid (fun w => makes_is ⟨4, ⟨#[100, 97]⟩, ⟨#[]⟩, ⟨#[1, 4, 0, 1, 122]⟩⟩ ⟨#[100, 97]⟩ ⟨#[97, 98, 99]⟩ ⟨#[97, 98, 99, 0, 122]⟩ true (by decide) (by decide) (by decide +kernel) (by decide) w)
  have C52 : Hid (∀ w, Calls Tryz.prog 32 #[.agg #[.int .i64 4, .string ⟨#[100, 97]⟩, .string ⟨#[]⟩, .string ⟨#[1, 4, 0, 1, 122]⟩], .string ⟨#[100, 97]⟩, .string ⟨#[97, 98, 99]⟩, .bool false] w fun e w' => e = .returned (.string ⟨#[0, 0, 0, 0, 122]⟩) ∧ Below w.heap.size w w') := Lib.hid (fun w => makes_is ⟨4, ⟨#[100, 97]⟩, ⟨#[]⟩, ⟨#[1, 4, 0, 1, 122]⟩⟩ ⟨#[100, 97]⟩ ⟨#[97, 98, 99]⟩ ⟨#[0, 0, 0, 0, 122]⟩ false (by decide) (by decide) (by decide +kernel) (by decide) w)
  have C53 : Hid (∀ w, Calls Tryz.prog 32 #[.agg #[.int .i64 4, .string ⟨#[109, 97]⟩, .string ⟨#[]⟩, .string ⟨#[1, 0, 0, 0, 7]⟩], .string ⟨#[109, 97]⟩, .string F5, .bool true] w fun e w' => e = .returned (.string F7) ∧ Below w.heap.size w w') := Lib.hid (fun w => makes_is ⟨4, ⟨#[109, 97]⟩, ⟨#[]⟩, ⟨#[1, 0, 0, 0, 7]⟩⟩ ⟨#[109, 97]⟩ F5 F7 true (by decide) (by omega) makesF5 (by omega) w)
  have C54 : Hid (∀ w, Calls Tryz.prog 32 #[.agg #[.int .i64 4, .string ⟨#[109, 97]⟩, .string ⟨#[]⟩, .string ⟨#[1, 0, 0, 0, 7]⟩], .string ⟨#[109, 97]⟩, .string F5, .bool false] w fun e w' => e = .returned (.string ⟨#[45]⟩) ∧ Below w.heap.size w w') := Lib.hid (fun w => makes_is ⟨4, ⟨#[109, 97]⟩, ⟨#[]⟩, ⟨#[1, 0, 0, 0, 7]⟩⟩ ⟨#[109, 97]⟩ F5 ⟨#[45]⟩ false (by decide) (by omega) (by rw [doV0]; decide +kernel) (by decide) w)
  have C55 : Hid (∀ w, Calls Tryz.prog 32 #[.agg #[.int .i64 4, .string ⟨#[109, 97]⟩, .string ⟨#[]⟩, .string ⟨#[1, 0, 0, 0, 7]⟩], .string ⟨#[109, 97]⟩, .string ⟨#[120]⟩, .bool true] w fun e w' => e = .returned (.string ⟨#[120]⟩) ∧ Below w.heap.size w w') := Lib.hid (fun w => makes_is ⟨4, ⟨#[109, 97]⟩, ⟨#[]⟩, ⟨#[1, 0, 0, 0, 7]⟩⟩ ⟨#[109, 97]⟩ ⟨#[120]⟩ ⟨#[120]⟩ true (by decide) (by decide) (by decide +kernel) (by decide) w)
  have C56 : Hid (∀ w, Calls Tryz.prog 26 #[.string ⟨#[99]⟩, .string ⟨#[100]⟩] w fun e w' => e = .returned (.agg #[.int .i64 3, .string ⟨#[99]⟩, .string ⟨#[100]⟩, .string ⟨#[]⟩]) ∧ Below w.heap.size w w') := Lib.hid (fun w => sweep_any ⟨#[99]⟩ ⟨#[100]⟩ w)
  clear hR109 hR108 hY65 hZ16 makesF5
  have ne := neSame
  have sr : ∀ x : ByteArray, (x.toList == x.toList) = true := fun x => by simp
  have HX := Lib.hid (Mt.Fr.nil w)
  go_enter Tryz.func7, Tryz.ntmps7
  go_wp2_with fail
  with_reducible refine (C2.out _).mono ?_
  rintro e w1 ⟨rfl, hb⟩
  replace HX := Lib.hid (HX.out.later hb); clear hb
  go_wp2_with fail
  with_reducible refine (C3.out _).mono ?_
  rintro e w2 ⟨rfl, hb⟩
  replace HX := Lib.hid (HX.out.later hb); clear hb
  go_wp2_with fail
  with_reducible refine (C4.out _).mono ?_
  rintro e w3 ⟨rfl, hb⟩
  replace HX := Lib.hid (HX.out.later hb); clear hb
  go_wp2_with fail
  with_reducible refine (C5.out _).mono ?_
  rintro e w4 ⟨rfl, hb⟩
  replace HX := Lib.hid (HX.out.later hb); clear hb
  go_wp2_with fail
  with_reducible refine (C6.out _).mono ?_
  rintro e w5 ⟨rfl, hb⟩
  replace HX := Lib.hid (HX.out.later hb); clear hb
  go_wp2_with fail
  with_reducible refine (C7.out _).mono ?_
  rintro e w6 ⟨rfl, hb⟩
  replace HX := Lib.hid (HX.out.later hb); clear hb
  go_wp2_with fail
  with_reducible refine (C8.out _).mono ?_
  rintro e w7 ⟨rfl, hb⟩
  replace HX := Lib.hid (HX.out.later hb); clear hb
  go_wp2_with fail
  with_reducible refine (C9.out _).mono ?_
  rintro e w8 ⟨rfl, hb⟩
  replace HX := Lib.hid (HX.out.later hb); clear hb
  go_wp2_with fail
  with_reducible refine (C10.out _).mono ?_
  rintro e w9 ⟨rfl, hb⟩
  replace HX := Lib.hid (HX.out.later hb); clear hb
  go_wp2_with fail
  with_reducible refine (C11.out _).mono ?_
  rintro e w10 ⟨rfl, hb⟩
  replace HX := Lib.hid (HX.out.later hb); clear hb
  go_wp2_with fail
  with_reducible refine (C12.out _).mono ?_
  rintro e w11 ⟨rfl, hb⟩
  replace HX := Lib.hid (HX.out.later hb); clear hb
  go_wp2_with fail
  with_reducible refine (C13.out _).mono ?_
  rintro e w12 ⟨rfl, hb⟩
  replace HX := Lib.hid (HX.out.later hb); clear hb
  go_wp2_with fail
  with_reducible refine (C14.out _).mono ?_
  rintro e w13 ⟨rfl, hb⟩
  replace HX := Lib.hid (HX.out.later hb); clear hb
  go_wp2_with fail
  with_reducible refine (C15.out _).mono ?_
  rintro e w14 ⟨rfl, hb⟩
  replace HX := Lib.hid (HX.out.later hb); clear hb
  go_wp2_with fail
  with_reducible refine (C16.out _).mono ?_
  rintro e w15 ⟨rfl, hb⟩
  replace HX := Lib.hid (HX.out.later hb); clear hb
  go_wp2_with fail
  with_reducible refine (C17.out _).mono ?_
  rintro e w16 ⟨rfl, hb⟩
  replace HX := Lib.hid (HX.out.later hb); clear hb
  go_wp2_with fail
  with_reducible refine (C18.out _).mono ?_
  rintro e w17 ⟨rfl, hb⟩
  replace HX := Lib.hid (HX.out.later hb); clear hb
  go_wp2_with fail
  with_reducible refine (C19.out _).mono ?_
  rintro e w18 ⟨rfl, hb⟩
  replace HX := Lib.hid (HX.out.later hb); clear hb
  go_wp2_with fail
  with_reducible refine (C20.out _).mono ?_
  rintro e w19 ⟨rfl, hb⟩
  replace HX := Lib.hid (HX.out.later hb); clear hb
  go_wp2_with fail
  with_reducible refine (C21.out _).mono ?_
  rintro e w20 ⟨rfl, hb⟩
  replace HX := Lib.hid (HX.out.later hb); clear hb
  go_wp2_with fail
  with_reducible refine (C22.out _).mono ?_
  rintro e w21 ⟨rfl, hb⟩
  replace HX := Lib.hid (HX.out.later hb); clear hb
  go_wp2_with fail
  with_reducible refine (C23.out _).mono ?_
  rintro e w22 ⟨rfl, hb⟩
  replace HX := Lib.hid (HX.out.later hb); clear hb
  go_wp2_with fail
  with_reducible refine (C24.out _).mono ?_
  rintro e w23 ⟨rfl, hb⟩
  replace HX := Lib.hid (HX.out.later hb); clear hb
  go_wp2_with fail
  with_reducible refine (C25.out _).mono ?_
  rintro e w24 ⟨rfl, hb⟩
  replace HX := Lib.hid (HX.out.later hb); clear hb
  go_wp2_with fail
  with_reducible refine (C26.out _).mono ?_
  rintro e w25 ⟨rfl, hb⟩
  replace HX := Lib.hid (HX.out.later hb); clear hb
  go_wp2_with fail
  with_reducible refine (C27.out _).mono ?_
  rintro e w26 ⟨rfl, hb⟩
  replace HX := Lib.hid (HX.out.later hb); clear hb
  go_wp2_with fail
  with_reducible refine (C28.out _).mono ?_
  rintro e w27 ⟨rfl, hb⟩
  replace HX := Lib.hid (HX.out.later hb); clear hb
  go_wp2_with fail
  with_reducible refine (C29.out _).mono ?_
  rintro e w28 ⟨rfl, hb⟩
  replace HX := Lib.hid (HX.out.later hb); clear hb
  go_wp2_with fail
  with_reducible refine (C30.out _).mono ?_
  rintro e w29 ⟨rfl, hb⟩
  replace HX := Lib.hid (HX.out.later hb); clear hb
  go_wp2_with fail
  with_reducible refine (C31.out _).mono ?_
  rintro e w30 ⟨rfl, hb⟩
  replace HX := Lib.hid (HX.out.later hb); clear hb
  go_wp2_with fail
  with_reducible refine (C32.out _).mono ?_
  rintro e w31 ⟨rfl, hb⟩
  replace HX := Lib.hid (HX.out.later hb); clear hb
  go_wp2_with fail
  with_reducible refine (C33.out _).mono ?_
  rintro e w32 ⟨rfl, hb⟩
  replace HX := Lib.hid (HX.out.later hb); clear hb
  go_wp2_with fail
  with_reducible refine (C34.out _).mono ?_
  rintro e w33 ⟨rfl, hb⟩
  replace HX := Lib.hid (HX.out.later hb); clear hb
  go_wp2_with fail
  with_reducible refine (C35.out _).mono ?_
  rintro e w34 ⟨rfl, hb⟩
  replace HX := Lib.hid ((HX.out.later hb).new 23 #[.int .i64 3, .string ⟨#[99]⟩, .string ⟨#[100]⟩, .string ⟨#[]⟩]); clear hb
  go_wp2_with fail
  with_reducible refine (C34.out _).mono ?_
  rintro e w35 ⟨rfl, hb⟩
  replace HX := Lib.hid (HX.out.later hb); clear hb
  go_wp2_with fail
  with_reducible refine (C36.out _).mono ?_
  rintro e w36 ⟨rfl, hb⟩
  replace HX := Lib.hid ((HX.out.later hb).new 23 #[.int .i64 0, .string ⟨#[]⟩, .string ⟨#[]⟩, .string ⟨#[]⟩]); clear hb
  go_wp2_with fail
  with_reducible refine (C37.out _).mono ?_
  rintro e w37 ⟨rfl, hb⟩
  replace HX := Lib.hid (HX.out.later hb); clear hb
  go_wp2_with fail
  with_reducible refine (C38.out _).mono ?_
  rintro e w38 ⟨rfl, hb⟩
  replace HX := Lib.hid ((HX.out.later hb).new 23 #[.int .i64 1, .string ⟨#[120]⟩, .string ⟨#[]⟩, .string ⟨#[49]⟩]); clear hb
  go_wp2_with fail
  with_reducible refine (C37.out _).mono ?_
  rintro e w39 ⟨rfl, hb⟩
  replace HX := Lib.hid (HX.out.later hb); clear hb
  go_wp2_with fail
  with_reducible refine (C39.out _).mono ?_
  rintro e w40 ⟨rfl, hb⟩
  replace HX := Lib.hid ((HX.out.later hb).new 23 #[.int .i64 0, .string ⟨#[]⟩, .string ⟨#[]⟩, .string ⟨#[]⟩]); clear hb
  go_upto_region 9 with fail
  have HP := HX.out
  clear HX
  have hp : Mt.Fr w [(w34.heap.size, 23, #[.int .i64 3, .string ⟨#[99]⟩, .string ⟨#[100]⟩, .string ⟨#[]⟩]), (w36.heap.size, 23, #[.int .i64 0, .string ⟨#[]⟩, .string ⟨#[]⟩, .string ⟨#[]⟩]), (w38.heap.size, 23, #[.int .i64 1, .string ⟨#[120]⟩, .string ⟨#[]⟩, .string ⟨#[49]⟩]), (w40.heap.size, 23, #[.int .i64 0, .string ⟨#[]⟩, .string ⟨#[]⟩, .string ⟨#[]⟩])] _ := HP
  clear HP
  have KC56 := Lib.hid fun (wx : World) (h : Mt.Fr w [(w34.heap.size, 23, #[.int .i64 3, .string ⟨#[99]⟩, .string ⟨#[100]⟩, .string ⟨#[]⟩]), (w36.heap.size, 23, #[.int .i64 0, .string ⟨#[]⟩, .string ⟨#[]⟩, .string ⟨#[]⟩]), (w38.heap.size, 23, #[.int .i64 1, .string ⟨#[120]⟩, .string ⟨#[]⟩, .string ⟨#[49]⟩]), (w40.heap.size, 23, #[.int .i64 0, .string ⟨#[]⟩, .string ⟨#[]⟩, .string ⟨#[]⟩])] wx) => Mt.Fr.carry h (C56.out wx)
  have KC37 := Lib.hid fun (wx : World) (h : Mt.Fr w [(w34.heap.size, 23, #[.int .i64 3, .string ⟨#[99]⟩, .string ⟨#[100]⟩, .string ⟨#[]⟩]), (w36.heap.size, 23, #[.int .i64 0, .string ⟨#[]⟩, .string ⟨#[]⟩, .string ⟨#[]⟩]), (w38.heap.size, 23, #[.int .i64 1, .string ⟨#[120]⟩, .string ⟨#[]⟩, .string ⟨#[49]⟩]), (w40.heap.size, 23, #[.int .i64 0, .string ⟨#[]⟩, .string ⟨#[]⟩, .string ⟨#[]⟩])] wx) => Mt.Fr.carry h (C37.out wx)
  have hpd := hp.drew
  go_region_held3 (fun wx => (wx.cell? ⟨w34.heap.size, 0, none⟩ = some (.int .i64 3) ∧ wx.cell? ⟨w34.heap.size, 1, none⟩ = some (.string ⟨#[99]⟩) ∧ wx.cell? ⟨w34.heap.size, 2, none⟩ = some (.string ⟨#[100]⟩) ∧ wx.cell? ⟨w34.heap.size, 3, none⟩ = some (.string ⟨#[]⟩)) ∧ (wx.cell? ⟨w36.heap.size, 0, none⟩ = some (.int .i64 0) ∧ wx.cell? ⟨w36.heap.size, 1, none⟩ = some (.string ⟨#[]⟩) ∧ wx.cell? ⟨w36.heap.size, 2, none⟩ = some (.string ⟨#[]⟩) ∧ wx.cell? ⟨w36.heap.size, 3, none⟩ = some (.string ⟨#[]⟩)) ∧ (wx.cell? ⟨w38.heap.size, 0, none⟩ = some (.int .i64 1) ∧ wx.cell? ⟨w38.heap.size, 1, none⟩ = some (.string ⟨#[120]⟩) ∧ wx.cell? ⟨w38.heap.size, 2, none⟩ = some (.string ⟨#[]⟩) ∧ wx.cell? ⟨w38.heap.size, 3, none⟩ = some (.string ⟨#[49]⟩)))
    (first | (with_reducible exact ⟨Mt.Fr.c4 (by assumption) 0 rfl, Mt.Fr.c4 (by assumption) 1 rfl, Mt.Fr.c4 (by assumption) 2 rfl⟩))
    (first
      | (with_reducible refine (KC56.out _ (by assumption)).mono ?_; rintro e w1 ⟨rfl, hp⟩)
      | (with_reducible refine (KC37.out _ (by assumption)).mono ?_; rintro e w1 ⟨rfl, hp⟩))
  have HX := Lib.hid hp
  go_wp2_with fail
  with_reducible refine (C40.out _).mono ?_
  rintro e w41 ⟨rfl, hb⟩
  replace HX := Lib.hid (HX.out.later hb); clear hb
  go_wp2_with fail
  with_reducible refine (C41.out _).mono ?_
  rintro e w42 ⟨rfl, hb⟩
  replace HX := Lib.hid (((HX.out.later hb).new 23 #[.int .i64 4, .string ⟨#[100, 97]⟩, .string ⟨#[]⟩, .string ⟨#[2, 0]⟩]).new 23 #[.int .i64 4, .string ⟨#[100, 97]⟩, .string ⟨#[]⟩, .string ⟨#[1, 4, 0, 1, 122]⟩]); clear hb
  rw [sz1] at HX
  go_wp2_with fail
  with_reducible refine (C42.out _).mono ?_
  rintro e w43 ⟨rfl, hb⟩
  replace HX := Lib.hid (HX.out.later hb); clear hb
  go_wp2_with fail
  with_reducible refine (C43.out _).mono ?_
  rintro e w44 ⟨rfl, hb⟩
  replace HX := Lib.hid ((HX.out.later hb).new 23 #[.int .i64 4, .string ⟨#[109, 97]⟩, .string ⟨#[]⟩, .string ⟨#[1, 0, 0, 0, 7]⟩]); clear hb
  obtain ⟨c4_0, c4_1, c4_2, c4_3⟩ := HX.out.c4 4 rfl
  obtain ⟨c5_0, c5_1, c5_2, c5_3⟩ := HX.out.c4 5 rfl
  obtain ⟨c6_0, c6_1, c6_2, c6_3⟩ := HX.out.c4 6 rfl
  go_wp2_with fail
  with_reducible refine (C44.out _).mono ?_
  rintro e w45 ⟨rfl, hb⟩
  replace HX := Lib.hid (HX.out.later hb); clear hb c4_0 c4_1 c4_2 c4_3 c5_0 c5_1 c5_2 c5_3 c6_0 c6_1 c6_2 c6_3
  obtain ⟨c4_0, c4_1, c4_2, c4_3⟩ := HX.out.c4 4 rfl
  obtain ⟨c5_0, c5_1, c5_2, c5_3⟩ := HX.out.c4 5 rfl
  obtain ⟨c6_0, c6_1, c6_2, c6_3⟩ := HX.out.c4 6 rfl
  go_wp2_with fail
  with_reducible refine (C45.out _).mono ?_
  rintro e w46 ⟨rfl, hb⟩
  replace HX := Lib.hid (HX.out.later hb); clear hb c4_0 c4_1 c4_2 c4_3 c5_0 c5_1 c5_2 c5_3 c6_0 c6_1 c6_2 c6_3
  obtain ⟨c4_0, c4_1, c4_2, c4_3⟩ := HX.out.c4 4 rfl
  obtain ⟨c5_0, c5_1, c5_2, c5_3⟩ := HX.out.c4 5 rfl
  obtain ⟨c6_0, c6_1, c6_2, c6_3⟩ := HX.out.c4 6 rfl
  go_wp2_with fail
  with_reducible refine (C46.out _).mono ?_
  rintro e w47 ⟨rfl, hb⟩
  replace HX := Lib.hid (HX.out.later hb); clear hb c4_0 c4_1 c4_2 c4_3 c5_0 c5_1 c5_2 c5_3 c6_0 c6_1 c6_2 c6_3
  obtain ⟨c4_0, c4_1, c4_2, c4_3⟩ := HX.out.c4 4 rfl
  obtain ⟨c5_0, c5_1, c5_2, c5_3⟩ := HX.out.c4 5 rfl
  obtain ⟨c6_0, c6_1, c6_2, c6_3⟩ := HX.out.c4 6 rfl
  go_wp2_with fail
  with_reducible refine (C47.out _).mono ?_
  rintro e w48 ⟨rfl, hb⟩
  replace HX := Lib.hid (HX.out.later hb); clear hb c4_0 c4_1 c4_2 c4_3 c5_0 c5_1 c5_2 c5_3 c6_0 c6_1 c6_2 c6_3
  obtain ⟨c4_0, c4_1, c4_2, c4_3⟩ := HX.out.c4 4 rfl
  obtain ⟨c5_0, c5_1, c5_2, c5_3⟩ := HX.out.c4 5 rfl
  obtain ⟨c6_0, c6_1, c6_2, c6_3⟩ := HX.out.c4 6 rfl
  go_wp2_with fail
  with_reducible refine (C48.out _).mono ?_
  rintro e w49 ⟨rfl, hb⟩
  replace HX := Lib.hid (HX.out.later hb); clear hb c4_0 c4_1 c4_2 c4_3 c5_0 c5_1 c5_2 c5_3 c6_0 c6_1 c6_2 c6_3
  obtain ⟨c4_0, c4_1, c4_2, c4_3⟩ := HX.out.c4 4 rfl
  obtain ⟨c5_0, c5_1, c5_2, c5_3⟩ := HX.out.c4 5 rfl
  obtain ⟨c6_0, c6_1, c6_2, c6_3⟩ := HX.out.c4 6 rfl
  go_wp2_with fail
  with_reducible refine (C49.out _).mono ?_
  rintro e w50 ⟨rfl, hb⟩
  replace HX := Lib.hid (HX.out.later hb); clear hb c4_0 c4_1 c4_2 c4_3 c5_0 c5_1 c5_2 c5_3 c6_0 c6_1 c6_2 c6_3
  obtain ⟨c4_0, c4_1, c4_2, c4_3⟩ := HX.out.c4 4 rfl
  obtain ⟨c5_0, c5_1, c5_2, c5_3⟩ := HX.out.c4 5 rfl
  obtain ⟨c6_0, c6_1, c6_2, c6_3⟩ := HX.out.c4 6 rfl
  go_wp2_with fail
  with_reducible refine (C50.out _).mono ?_
  rintro e w51 ⟨rfl, hb⟩
  replace HX := Lib.hid (HX.out.later hb); clear hb c4_0 c4_1 c4_2 c4_3 c5_0 c5_1 c5_2 c5_3 c6_0 c6_1 c6_2 c6_3
  obtain ⟨c4_0, c4_1, c4_2, c4_3⟩ := HX.out.c4 4 rfl
  obtain ⟨c5_0, c5_1, c5_2, c5_3⟩ := HX.out.c4 5 rfl
  obtain ⟨c6_0, c6_1, c6_2, c6_3⟩ := HX.out.c4 6 rfl
  go_wp2_with fail
  with_reducible refine (C51.out _).mono ?_
  rintro e w52 ⟨rfl, hb⟩
  replace HX := Lib.hid (HX.out.later hb); clear hb c4_0 c4_1 c4_2 c4_3 c5_0 c5_1 c5_2 c5_3 c6_0 c6_1 c6_2 c6_3
  obtain ⟨c4_0, c4_1, c4_2, c4_3⟩ := HX.out.c4 4 rfl
  obtain ⟨c5_0, c5_1, c5_2, c5_3⟩ := HX.out.c4 5 rfl
  obtain ⟨c6_0, c6_1, c6_2, c6_3⟩ := HX.out.c4 6 rfl
  go_wp2_with fail
  with_reducible refine (C52.out _).mono ?_
  rintro e w53 ⟨rfl, hb⟩
  replace HX := Lib.hid (HX.out.later hb); clear hb c4_0 c4_1 c4_2 c4_3 c5_0 c5_1 c5_2 c5_3 c6_0 c6_1 c6_2 c6_3
  obtain ⟨c4_0, c4_1, c4_2, c4_3⟩ := HX.out.c4 4 rfl
  obtain ⟨c5_0, c5_1, c5_2, c5_3⟩ := HX.out.c4 5 rfl
  obtain ⟨c6_0, c6_1, c6_2, c6_3⟩ := HX.out.c4 6 rfl
  go_wp2_with fail
  with_reducible refine (C53.out _).mono ?_
  rintro e w54 ⟨rfl, hb⟩
  replace HX := Lib.hid (HX.out.later hb); clear hb c4_0 c4_1 c4_2 c4_3 c5_0 c5_1 c5_2 c5_3 c6_0 c6_1 c6_2 c6_3
  obtain ⟨c4_0, c4_1, c4_2, c4_3⟩ := HX.out.c4 4 rfl
  obtain ⟨c5_0, c5_1, c5_2, c5_3⟩ := HX.out.c4 5 rfl
  obtain ⟨c6_0, c6_1, c6_2, c6_3⟩ := HX.out.c4 6 rfl
  go_wp2_with fail
  with_reducible refine (C42.out _).mono ?_
  rintro e w55 ⟨rfl, hb⟩
  replace HX := Lib.hid (HX.out.later hb); clear hb c4_0 c4_1 c4_2 c4_3 c5_0 c5_1 c5_2 c5_3 c6_0 c6_1 c6_2 c6_3
  obtain ⟨c4_0, c4_1, c4_2, c4_3⟩ := HX.out.c4 4 rfl
  obtain ⟨c5_0, c5_1, c5_2, c5_3⟩ := HX.out.c4 5 rfl
  obtain ⟨c6_0, c6_1, c6_2, c6_3⟩ := HX.out.c4 6 rfl
  go_wp2_with fail
  with_reducible refine (C54.out _).mono ?_
  rintro e w56 ⟨rfl, hb⟩
  replace HX := Lib.hid (HX.out.later hb); clear hb c4_0 c4_1 c4_2 c4_3 c5_0 c5_1 c5_2 c5_3 c6_0 c6_1 c6_2 c6_3
  obtain ⟨c4_0, c4_1, c4_2, c4_3⟩ := HX.out.c4 4 rfl
  obtain ⟨c5_0, c5_1, c5_2, c5_3⟩ := HX.out.c4 5 rfl
  obtain ⟨c6_0, c6_1, c6_2, c6_3⟩ := HX.out.c4 6 rfl
  go_wp2_with fail
  with_reducible refine (C55.out _).mono ?_
  rintro e w57 ⟨rfl, hb⟩
  replace HX := Lib.hid (HX.out.later hb); clear hb c4_0 c4_1 c4_2 c4_3 c5_0 c5_1 c5_2 c5_3 c6_0 c6_1 c6_2 c6_3
  obtain ⟨c4_0, c4_1, c4_2, c4_3⟩ := HX.out.c4 4 rfl
  obtain ⟨c5_0, c5_1, c5_2, c5_3⟩ := HX.out.c4 5 rfl
  obtain ⟨c6_0, c6_1, c6_2, c6_3⟩ := HX.out.c4 6 rfl
  go_wp2_with fail
  with_reducible refine (C1.out _).mono ?_
  rintro e w58 ⟨rfl, hb⟩
  replace HX := Lib.hid (HX.out.later hb); clear hb c4_0 c4_1 c4_2 c4_3 c5_0 c5_1 c5_2 c5_3 c6_0 c6_1 c6_2 c6_3
  obtain ⟨c4_0, c4_1, c4_2, c4_3⟩ := HX.out.c4 4 rfl
  obtain ⟨c5_0, c5_1, c5_2, c5_3⟩ := HX.out.c4 5 rfl
  obtain ⟨c6_0, c6_1, c6_2, c6_3⟩ := HX.out.c4 6 rfl
  go_wp2_with fail
  go_ret
  exact ⟨rfl, HX.out.below⟩
end Go.Proofs.YthledgkjfjdjoaaGreat.Ms
