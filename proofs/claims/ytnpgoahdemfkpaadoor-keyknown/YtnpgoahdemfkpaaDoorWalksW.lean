/- The law KeyRanges: a path's keys are in the range of another path's subtree just if it lies within that. Conditions: the listed families as the program's text lays them; what comes in is as long as may be. -/
import Derived.Test.YtnpgoahdemfkpaaDoorWalksV
import Derived.Test.YtnpgoahdemfkpaaDoorWalksH
namespace Go.Proofs.YtnpgoahdemfkpaaDoor
open Go.ChangeShapes Go.WideShapes Go.RowKit Go.Path
set_option maxRecDepth 100000
set_option linter.unusedVariables false
set_option linter.unusedSimpArgs false
theorem ranges_no (A C : Option Addr) (na ca nb cb m n : Nat) (Ma : ByteArray) (ba bb : Bool) (w : World)
    (FA : Hid (Cb w 9 #[.slice A na ca] (.bool ba))) (FB : Hid (Cb w 9 #[.slice C nb cb] (.bool bb))) (WK : Hid (Cb w 10 #[] (.bool true)))
    (D : ba = false ∨ ba = true ∧ (bb = false ∨ bb = true ∧ Hid (Cb w 15 #[.slice A na ca] (.string Ma)) ∧ (Ma = ⟨#[]⟩ ∨ (¬ Ma.toList = [] ∧ (Ma.toList == []) = false ∧ Ma.toList.isEmpty = false) ∧ Hid (Cb w 15 #[.slice C nb cb] (.string ⟨#[]⟩))))) :
    Calls Tryd.prog 6 #[.slice A na ca, .slice C nb cb, .agg #[.int .u8 m, .int .u8 n]] w fun e w' => e = .returned (.bool true) ∧ Below w.heap.size w w' := by
  have HB0 := Lib.hid ((Below.refl w.heap.size w).alloc (Nat.le_refl _) (.cells #[.int .u8 m, .int .u8 n] 47))
  rcases D with rfl | ⟨rfl, D⟩
  · go_enter Tryd.func6, Tryd.ntmps6
    go_wp2_with fail
    refine (FA.out _ HB0.out).mono ?_; rintro e w1 ⟨rfl, b1⟩
    have B1 := Lib.hid (HB0.out.trans (b1.mono HB0.out.size)); clear b1
    go_wp2_with fail
    refine (WK.out _ B1.out).mono ?_; rintro e w2 ⟨rfl, b2⟩
    have B2 := Lib.hid (B1.out.trans (b2.mono B1.out.size)); clear b2
    go_wp2
    go_ret
    exact ⟨rfl, B2.out⟩
  rcases D with rfl | ⟨rfl, MA, D⟩
  · go_enter Tryd.func6, Tryd.ntmps6
    go_wp2_with fail
    refine (FA.out _ HB0.out).mono ?_; rintro e w1 ⟨rfl, b1⟩
    have B1 := Lib.hid (HB0.out.trans (b1.mono HB0.out.size)); clear b1
    go_wp2_with fail
    refine (FB.out _ B1.out).mono ?_; rintro e w2 ⟨rfl, b2⟩
    have B2 := Lib.hid (B1.out.trans (b2.mono B1.out.size)); clear b2
    go_wp2_with fail
    refine (WK.out _ B2.out).mono ?_; rintro e w3 ⟨rfl, b3⟩
    have B3 := Lib.hid (B2.out.trans (b3.mono B2.out.size)); clear b3
    go_wp2
    go_ret
    exact ⟨rfl, B3.out⟩
  rcases D with rfl | ⟨⟨a1, a2, a3⟩, MB⟩
  · go_enter Tryd.func6, Tryd.ntmps6
    go_wp2_with fail
    refine (FA.out _ HB0.out).mono ?_; rintro e w1 ⟨rfl, b1⟩
    have B1 := Lib.hid (HB0.out.trans (b1.mono HB0.out.size)); clear b1
    go_wp2_with fail
    refine (FB.out _ B1.out).mono ?_; rintro e w2 ⟨rfl, b2⟩
    have B2 := Lib.hid (B1.out.trans (b2.mono B1.out.size)); clear b2
    go_wp2_with fail
    refine (MA.out _ B2.out).mono ?_; rintro e w3 ⟨rfl, b3⟩
    have B3 := Lib.hid (B2.out.trans (b3.mono B2.out.size)); clear b3
    go_wp2_with fail
    refine (WK.out _ B3.out).mono ?_; rintro e w4 ⟨rfl, b4⟩
    have B4 := Lib.hid (B3.out.trans (b4.mono B3.out.size)); clear b4
    go_wp2
    go_ret
    exact ⟨rfl, B4.out⟩
  · go_enter Tryd.func6, Tryd.ntmps6
    go_wp2_with fail
    refine (FA.out _ HB0.out).mono ?_; rintro e w1 ⟨rfl, b1⟩
    have B1 := Lib.hid (HB0.out.trans (b1.mono HB0.out.size)); clear b1
    go_wp2_with fail
    refine (FB.out _ B1.out).mono ?_; rintro e w2 ⟨rfl, b2⟩
    have B2 := Lib.hid (B1.out.trans (b2.mono B1.out.size)); clear b2
    go_wp2_with fail
    refine (MA.out _ B2.out).mono ?_; rintro e w3 ⟨rfl, b3⟩
    have B3 := Lib.hid (B2.out.trans (b3.mono B2.out.size)); clear b3
    go_wp2_with fail
    refine (MB.out _ B3.out).mono ?_; rintro e w4 ⟨rfl, b4⟩
    have B4 := Lib.hid (B3.out.trans (b4.mono B3.out.size)); clear b4
    go_wp2_with fail
    refine (WK.out _ B4.out).mono ?_; rintro e w5 ⟨rfl, b5⟩
    have B5 := Lib.hid (B4.out.trans (b5.mono B4.out.size)); clear b5
    go_wp2
    go_ret
    exact ⟨rfl, B5.out⟩
theorem join47_len : ∀ xs : List B, (Lib.join xs [47]).length = (joint xs).length
  | [] => rfl
  | [x] => by rw [Lib.join_one, joint_one]
  | x :: y :: r => by
    have := join47_len (y :: r)
    rw [joint_two, Lib.join_cons]
    rw [Lib.join_cons] at this
    simp [Lib.joinTail] at this ⊢
    omega
theorem list_ne {s : B} (h : s ≠ []) : ¬ (bs s).toList = [] ∧ ((bs s).toList == []) = false ∧ (bs s).toList.isEmpty = false := by
  rw [text_list, bs_data]
  refine ⟨h, by simpa using h, ?_⟩
  cases s
  · exact absurd rfl h
  · rfl
theorem works_cb {w : World} (hL : Laid w) : Cb w 10 #[] (.bool true) := fun wx hb => works_any wx (hL.later hb)
theorem few_cb {w : World} {A : Option Addr} {l : List B} {c : Nat} (hl : l.length ≤ maxLen) (h : Rs w A l) (hx : ∀ x ∈ l, x.length ≤ maxLen) : Cb w 9 #[.slice A l.length c] (.bool (fewB l)) :=
  same_cb fun wx hb => few2_any A l c hl wx (h.kept hb) hx
theorem meta_cb {w : World} {A : Option Addr} {l : List B} {c : Nat} (h : In w A l c) (hL : Laid w) : Cb w 15 #[.slice A l.length c] (.string (bs (metaK l))) := fun wx hb => meta_any A l c wx (h.kept hb) (hL.later hb)
theorem in_cb {w : World} {k F T : B} {b : Bool} (h : inR k F T = b) : Cb w 30 #[.string (bs k), .agg #[.string (bs F), .string (bs T)]] (.bool b) := fun wx _ => in_any (bs k) (bs F) (bs T) b (by rw [bs_data, bs_data, bs_data]; exact h) wx
theorem begins_cb {w : World} {A C : Option Addr} {l m : List B} {c d : Nat} (h : In w A l c) (h' : In w C m d) : Cb w 29 #[.slice A l.length c, .slice C m.length d] (.bool (within m l)) :=
  fun wx hb => begins_any A C l m c d (by have := h.len; omega) (by have := h'.len; omega) wx (h.kept hb).rs (h'.kept hb).rs
theorem block_is {l : List B} {i : Nat} (h : right l = true) (hne : l ≠ []) (hi : i < 32) : blockK l i = blockB l i := by unfold blockK; rw [if_pos (hasBlock_mk h hne hi)]; rfl
theorem ranges_law (A C : Option Addr) (a b : List B) (ca cb m n : Nat) (hla : a.length ≤ maxLen) (hca : a.length ≤ ca) (hxa : ∀ x ∈ a, x.length ≤ maxLen) (hlb : b.length ≤ maxLen) (hcb : b.length ≤ cb) (hxb : ∀ x ∈ b, x.length ≤ maxLen) (hm : m < 256) (hn : n < 256) (w : World) (ha : Rs w A a) (hb : Rs w C b) (hL : Laid w) :
    Calls Tryd.prog 6 #[.slice A a.length ca, .slice C b.length cb, .agg #[.int .u8 m, .int .u8 n]] w fun e w' => e = .returned (.bool true) ∧ Below w.heap.size w w' := by
  have FA := few_cb (c := ca) hla ha hxa
  have FB := few_cb (c := cb) hlb hb hxb
  have WK := Lib.hid (works_cb hL)
  cases ea : fewB a
  · rw [ea] at FA
    exact ranges_no A C _ _ _ _ m n ⟨#[]⟩ _ _ w (Lib.hid FA) (Lib.hid FB) WK (.inl rfl)
  cases eb : fewB b
  · rw [ea] at FA; rw [eb] at FB
    exact ranges_no A C _ _ _ _ m n ⟨#[]⟩ _ _ w (Lib.hid FA) (Lib.hid FB) WK (.inr ⟨rfl, .inl rfl⟩)
  rw [ea] at FA; rw [eb] at FB
  have IA := In.few ha hca ((fewB_iff a).1 ea)
  have IB := In.few hb hcb ((fewB_iff b).1 eb)
  have MA := Lib.hid (meta_cb IA hL)
  have MB := Lib.hid (meta_cb IB hL)
  cases ra : right a
  · have e : metaK a = [] := if_neg (by rw [ra]; decide)
    rw [e] at MA
    exact ranges_no A C _ _ _ _ m n _ _ _ w (Lib.hid FA) (Lib.hid FB) WK (.inr ⟨rfl, .inr ⟨rfl, MA, .inl rfl⟩⟩)
  cases rb : right b
  · have e : metaK b = [] := if_neg (by rw [rb]; decide)
    rw [e] at MB
    exact ranges_no A C _ _ _ _ m n _ _ _ w (Lib.hid FA) (Lib.hid FB) WK (.inr ⟨rfl, .inr ⟨rfl, MA, .inr ⟨list_ne (by rw [meta_is ra]; simp), MB⟩⟩⟩)
  have na := list_ne (s := metaK a) (by rw [meta_is ra]; simp)
  have nb := list_ne (s := metaK b) (by rw [meta_is rb]; simp)
  have lenb := right_len rb
  have lenj := join47_len b
  have hb6 := (right_of rb).1
  have hmk : (bs (metaK b)).size ≤ 1000 := by rw [bs_size, meta_is rb]; simp; omega
  have hws : decide (a = b) = true → within a b = true := fun h => by
    have e : a = b := of_decide_eq_true h
    rw [e]; exact within_self b
  refine ranges_core A C a.length ca b.length cb m n (m % 32) (n % 32) (by omega) (by omega) hm hn (by omega) (by omega) (bs (metaK a)) (bs (metaK b)) (bs (blockK a ((m % 32 : Nat) : Int))) (bs (blockK b ((n % 32 : Nat) : Int))) (bs (Lib.join b [47]))
    (bs (subF 109 a)) (bs (subT 109 a)) (bs (subF 100 a)) (bs (subT 100 a)) (bs (belowF a)) (bs (belowT a)) (bs (blocksF a)) (bs (blocksT a)) (within a b) (decide (a = b)) hws w
    na.1 na.2.1 na.2.2 nb.1 nb.2.1 nb.2.2 (Lib.hid FA) (Lib.hid FB) WK MA MB (Lib.hid fun wx hx => subtrees_any A a ca wx (IA.kept hx) (hL.later hx)) (Lib.hid (begins_cb IB IA))
    (Lib.hid fun hw => ?_) (Lib.hid fun wx hx => block_any A a ca _ (by omega) wx (IA.kept hx) (hL.later hx)) (Lib.hid fun wx hx => block_any C b cb _ (by omega) wx (IB.kept hx) (hL.later hx))
    (Lib.hid fun wx hx => below_any A a ca wx (IA.kept hx) (hL.later hx)) (Lib.hid fun wx hx => blocks_any A a ca wx (IA.kept hx) (hL.later hx)) (Lib.hid fun wx hx => join_any C b cb 47 (by omega) hcb (by omega) wx (IB.kept hx).rs)
    (Lib.hid fun wx hx => takes_true (bs (metaK b)) _ hmk 109 0 b (by rw [bs_data, meta_is rb, takeP_meta rb]) (by omega) (by omega) rfl wx (hL.later hx))
    (Lib.hid (in_cb (range_meta ra rb))) (Lib.hid (in_cb (range_below ra rb))) (Lib.hid ?_) (Lib.hid fun hw => ?_) (Lib.hid ?_)
  · have e := within_both a b
    rw [hw, Bool.true_and] at e
    rw [← e]
    exact begins_cb IA IB
  · rw [← meta_eq ra rb]
    by_cases h : metaK a = metaK b
    · rw [decide_eq_true h]; exact same_text.2 (by rw [h])
    · rw [decide_eq_false h]; exact other_text.2 (by rw [bs_data, bs_data]; exact h)
  · rw [text_list, text_list, bs_data, bs_data]
    exact meta_after ra rb hw
  · by_cases hb0 : b = []
    · left
      subst hb0
      exact ⟨rfl, by simp [blockK, hasBlock]; rfl⟩
    · right
      have hk : n % 32 < 32 := by omega
      have hi : m % 32 < 32 := by omega
      rw [block_is rb hb0 hk]
      have hsz : (bs (blockB b (n % 32))).size ≤ 1000 := by rw [bs_size]; unfold blockB; simp; omega
      refine ⟨by have := List.length_pos_iff.2 hb0; omega, fun wx hx => takes_true (bs (blockB b (n % 32))) _ hsz 100 (n % 32) b (by rw [bs_data, takeP_block rb hb0 hk]) (by omega) (by omega) rfl wx (hL.later hx), in_cb (range_block ra rb hb0 _), in_cb (range_other ra _), in_cb (range_other2 ra rb), in_cb (range_blocks ra rb hb0 _), ?_⟩
      by_cases ha0 : a = []
      · left; rw [ha0]; rfl
      · right
        refine ⟨by have := List.length_pos_iff.2 ha0; omega, ?_⟩
        rw [block_is ra ha0 hi]
        by_cases hab : a = b
        · left
          refine ⟨decide_eq_true hab, ?_⟩
          rw [text_list, text_list, bs_data, bs_data, hab]
          have := block_lt (a := b) hi hk
          unfold Path.lt at this
          rw [this]
          simp only [Int.ofNat_lt]
        · right
          exact ⟨decide_eq_false hab, other_text.2 (by rw [bs_data, bs_data]; exact block_ne ra rb ha0 hb0 hab _ _)⟩
end Go.Proofs.YtnpgoahdemfkpaaDoor
