/- Plain mathematics of messages: the order of keys, which messages may be, what they touch, their parts. Conditions: none. -/
import Derived.Test.YthledgkjfjdjoaaGreatCodF
import Derived.Test.YthledgkjfjdjoaaGreatBack
import Derived.Test.YthledgkjfjdjoaaGreatBlkB
namespace Go.Proofs.YthledgkjfjdjoaaGreat.Ms
open Go.Codec Go.Mt Go.Blk
theorem bl_self : ∀ x : List UInt8, Op.bytesLess x x = false
  | [] => rfl
  | a :: x => by rw [Op.bytesLess, bl_self x]; simp
theorem bl_trans : ∀ x y z : List UInt8, Op.bytesLess x y = true → Op.bytesLess y z = true → Op.bytesLess x z = true
  | _, [], _, h, _ => by simp [Op.bytesLess] at h
  | _, _ :: _, [], _, h => by simp [Op.bytesLess] at h
  | [], _ :: _, _ :: _, _, _ => rfl
  | a :: x, b :: y, c :: z, h1, h2 => by
    rw [Op.bytesLess] at *
    simp only [Bool.or_eq_true, Bool.and_eq_true, decide_eq_true_eq, beq_iff_eq] at *
    rcases h1 with h1 | ⟨rfl, h1⟩
    · rcases h2 with h2 | ⟨rfl, h2⟩
      · exact .inl (UInt8.lt_trans h1 h2)
      · exact .inl h1
    · rcases h2 with h2 | ⟨rfl, h2⟩
      · exact .inl h2
      · exact .inr ⟨rfl, bl_trans x y z h1 h2⟩
theorem bl_tri : ∀ x y : List UInt8, Op.bytesLess x y = false → Op.bytesLess y x = false → x = y
  | [], [], _, _ => rfl
  | [], _ :: _, h, _ => by simp [Op.bytesLess] at h
  | _ :: _, [], _, h => by simp [Op.bytesLess] at h
  | a :: x, b :: y, h1, h2 => by
    rw [Op.bytesLess] at *
    simp only [Bool.or_eq_false_iff, Bool.and_eq_false_iff, decide_eq_false_iff_not, beq_eq_false_iff_ne] at *
    have e : a = b := by
      apply UInt8.toNat_inj.1
      have h3 := h1.1; have h4 := h2.1
      rw [UInt8.lt_iff_toNat_lt] at h3 h4
      omega
    subst e
    have h3 := h1.2.resolve_left (by simp)
    have h4 := h2.2.resolve_left (by simp)
    rw [bl_tri x y h3 h4]
/-- Is a key below another one? -/
def lt (a b : ByteArray) : Bool := Op.bytesLess a.toList b.toList
theorem toList_inj {a b : ByteArray} (h : a.toList = b.toList) : a = b := by
  rw [Lib.toList_data, Lib.toList_data] at h
  cases a; cases b
  congr
  exact Array.toList_inj.1 h
theorem eq_bool (a b : ByteArray) : (a.toList == b.toList) = decide (a = b) := by
  rw [Bool.eq_iff_iff]
  simp only [beq_iff_eq, decide_eq_true_eq]
  exact ⟨toList_inj, fun h => by rw [h]⟩
theorem lt_self (a : ByteArray) : lt a a = false := bl_self _
theorem lt_trans {a b c : ByteArray} (h1 : lt a b = true) (h2 : lt b c = true) : lt a c = true := bl_trans _ _ _ h1 h2
theorem lt_tri {a b : ByteArray} (h1 : lt a b = false) (h2 : lt b a = false) : a = b := toList_inj (bl_tri _ _ h1 h2)
/-- Of a few keys the order is that of numbers. -/
theorem rank (L : List ByteArray) : ∃ f : ByteArray → Nat, ∀ a ∈ L, ∀ b ∈ L, (lt a b = true ↔ f a < f b) ∧ (a = b ↔ f a = f b) := by
  have mono : ∀ a b : ByteArray, lt a b = true → ∀ M : List ByteArray, M.countP (fun y => lt y a) ≤ M.countP (fun y => lt y b) ∧ (a ∈ M → M.countP (fun y => lt y a) < M.countP (fun y => lt y b)) := by
    intro a b h M
    induction M with
    | nil => simp
    | cons c M ih =>
      rw [List.countP_cons, List.countP_cons]
      cases hc : lt c a with
      | true =>
        rw [lt_trans hc h]
        refine ⟨by simp; exact ih.1, fun hm => ?_⟩
        have : a ∈ M := by
          rcases List.mem_cons.1 hm with e | e
          · subst e; rw [lt_self] at hc; cases hc
          · exact e
        have := ih.2 this
        simp; omega
      | false =>
        cases hd : lt c b with
        | true => simp; exact ⟨by omega, fun _ => by omega⟩
        | false =>
          refine ⟨by simpa using ih.1, fun hm => ?_⟩
          have : a ∈ M := by
            rcases List.mem_cons.1 hm with e | e
            · subst e; rw [h] at hd; cases hd
            · exact e
          simpa using ih.2 this
  refine ⟨fun x => L.countP (fun y => lt y x), fun a ha b hb => ?_⟩
  dsimp only
  cases h1 : lt a b with
  | true =>
    have := (mono a b h1 L).2 ha
    refine ⟨⟨fun _ => this, fun _ => rfl⟩, ⟨fun e => by subst e; rfl, fun e => by omega⟩⟩
  | false =>
    cases h2 : lt b a with
    | true =>
      have := (mono b a h2 L).2 hb
      refine ⟨⟨fun h => (by cases h), fun h => by omega⟩, ⟨fun e => by subst e; rfl, fun e => by omega⟩⟩
    | false =>
      have e := lt_tri h1 h2
      subst e
      refine ⟨⟨fun h => (by cases h), fun h => by omega⟩, ⟨fun _ => rfl, fun _ => rfl⟩⟩
/-- A message. -/
structure Msg where
  o : Int
  k : ByteArray
  t : ByteArray
  v : ByteArray
def nil : Msg := ⟨0, ⟨#[]⟩, ⟨#[]⟩, ⟨#[]⟩⟩
/-- A message as a value. -/
def Msg.val (m : Msg) : Value := .agg #[.int .i64 m.o, .string m.k, .string m.t, .string m.v]
/-- A key's first byte. -/
def hd (k : ByteArray) : UInt8 := byte k.data.toList 0
/-- Does a value suit a key? -/
def okV (k v : ByteArray) : Bool := if hd k = 109 then decide (takeE v.data.toList = 0) else if hd k = 100 then decide (ckV v.data.toList = 0) else decide (v.size ≤ 64)
/-- Does a patch suit a key? -/
def okP (k v : ByteArray) : Bool := if hd k = 109 then decide (takeCE v.data.toList = 0) else if hd k = 100 then decide ((tk v.data.toList).e = 0) else false
def key (k : ByteArray) : Bool := decide (1 ≤ k.size ∧ k.size ≤ 108)
/-- May a message be? -/
def may (m : Msg) : Bool :=
  key m.k && (if m.o = 1 then decide (m.t.size = 0) && okV m.k m.v else if m.o = 4 then decide (m.t.size = 0) && okP m.k m.v else if m.o = 2 then decide (m.t.size = 0) && decide (m.v.size = 0) else if m.o = 3 then lt m.k m.t && key m.t && decide (m.v.size = 0) else false)
def ck (m : Msg) : Nat := if may m = true then 0 else 4
/-- A text with its length ahead of it. -/
def tx (s : ByteArray) : List UInt8 := be 2 s.data.toList.length ++ s.data.toList
def text (m : Msg) : List UInt8 := be 1 m.o.toNat ++ (tx m.k ++ if m.o = 1 ∨ m.o = 4 then tx m.v else if m.o = 3 then tx m.t else [])
def put (m : Msg) : List UInt8 := if may m = true then text m else []
/-- Does a message touch a key? -/
def tch (m : Msg) (q : ByteArray) : Bool := may m && (if m.o = 3 then !lt q m.k && lt q m.t else decide (m.k = q))
/-- Does a key lie in a range? -/
def inR (q f t : ByteArray) : Bool := !lt q f && (decide (t.size = 0) || lt q t)
def mx (a b : ByteArray) : ByteArray := if lt a b = true then b else a
def mn (a b : ByteArray) : ByteArray := if lt b a = true then b else a
/-- What of a Clear lies in a range. -/
def cl (m : Msg) (f t : ByteArray) : Msg := ⟨m.o, mx m.k f, if t.size = 0 then m.t else mn m.t t, m.v⟩
/-- What of a message lies in a range, if anything does. -/
def part (m : Msg) (f t : ByteArray) : Option Msg :=
  if may m = false then none
  else if m.o = 3 then (if lt (cl m f t).k (cl m f t).t = true then some (cl m f t) else none)
  else if inR m.k f t = true then some m else none
/-- What comes of a text that may be a message's. -/
structure Tk where
  m : Msg
  e : Nat
def Tk.no (e : Nat) : Tk := ⟨nil, e⟩
def fin (m : Msg) (y : R) : Tk := if y.er ≠ 0 then .no 10 else if y.rest ≠ [] ∨ may m = false then .no 4 else ⟨m, 0⟩
def tkM (l : List UInt8) : Tk :=
  let o := val ((⟨l, 0⟩ : R).take 1); let x := (⟨l, 0⟩ : R).drop 1
  if o = 1 ∨ o = 4 then fin ⟨o, bs x.text, ⟨#[]⟩, bs x.behind.text⟩ x.behind.behind
  else if o = 2 then fin ⟨o, bs x.text, ⟨#[]⟩, ⟨#[]⟩⟩ x.behind
  else if o = 3 then fin ⟨o, bs x.text, bs x.behind.text, ⟨#[]⟩⟩ x.behind.behind
  else fin ⟨o, ⟨#[]⟩, ⟨#[]⟩, ⟨#[]⟩⟩ x
end Go.Proofs.YthledgkjfjdjoaaGreat.Ms
