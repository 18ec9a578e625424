/- What a text seems to be the key of, in the program. Conditions: the listed families as the program's text lays them; texts of a thousand bytes at most. -/
import Derived.Test.YtnpgoahdemfkpaaDoorWalksN
import Derived.WalkMore
namespace Go.Proofs.YtnpgoahdemfkpaaDoor
open Go.ChangeShapes Go.WideShapes Go.RowKit Go.Path
set_option maxRecDepth 100000
set_option linter.unusedVariables false
set_option linter.unusedSimpArgs false
theorem Is.put {w : World} {g : Nat} {t : TypeId} {cs : Array Value} (h : Is w g t cs) (i : Nat) (u : Value) : Is (w.setCell ⟨g, i, none⟩ u) g t (cs.setIfInBounds i u) := by
  unfold Is at h ⊢
  simp [World.setCell, Array.getElem?_modify, h]
theorem Is.two {w : World} {g : Nat} {t : TypeId} {x y : Value} (h : Is w g t #[x, y]) (u v : Value) : Is ((w.setCell ⟨g, 0, none⟩ u).setCell ⟨g, 1, none⟩ v) g t #[u, v] := (h.put 0 u).put 1 v
theorem Is.cells {w : World} {g : Nat} {t : TypeId} {x y : Value} (h : Is w g t #[x, y]) : w.cell? ⟨g, 0, none⟩ = some x ∧ w.cell? ⟨g, 1, none⟩ = some y := ⟨h.cell 0, h.cell 1⟩
theorem Own.set {w : World} {b n c g i : Nat} {A : Option Addr} {xs : List B} (h : Own w b A n c xs) (hg : g < b) (v : Value) : Own (w.setCell ⟨g, i, none⟩ v) b A n c xs := by
  obtain ⟨hn, hc, h | h⟩ := h
  · exact ⟨hn, hc, .inl h⟩
  · refine ⟨hn, hc, .inr ⟨h.1, ?_⟩⟩
    rcases h.2 with h | ⟨g', cap, cur, hv, hg', hh, hr⟩
    · exact .inl h
    · exact .inr ⟨g', cap, cur, hv, hg', (Below.heap_setCell w ⟨g, i, none⟩ v g' (by show g' ≠ g; omega)).trans hh, hr⟩
/-- The family of a text's parts. -/
def fam (b : Bool) : Array Value := bif b then #[.string ⟨#[100]⟩, .string ⟨#[101]⟩] else #[.string ⟨#[109]⟩, .string ⟨#[110]⟩]
/-- What parts hands back. -/
def GivesParts (k : B) (w : World) (e : Ending) (w' : World) : Prop := ∃ A c, e = .returned (.tuple #[.agg (fam (parts k).1), .slice A (parts k).2.1.length c, .string (bs (parts k).2.2)]) ∧ Own w' w.heap.size A (parts k).2.1.length c (parts k).2.1 ∧ Below w.heap.size w w'
theorem Own.base {w : World} {b b' n c : Nat} {A : Option Addr} {xs : List B} (h : Own w b A n c xs) (hb : b' ≤ b) : Own w b' A n c xs := by
  obtain ⟨hn, hc, h | h⟩ := h
  · exact ⟨hn, hc, .inl h⟩
  · refine ⟨hn, hc, .inr ⟨h.1, ?_⟩⟩
    rcases h.2 with h | ⟨g, cap, cur, hv, hg, hh⟩
    · exact .inl h
    · exact .inr ⟨g, cap, cur, hv, Nat.le_trans hb hg, hh⟩
theorem Rs.one (w : World) (s : ByteArray) (x : B) (h : s = bs x) : Rs (w.alloc (.cells #[.string s] 9)) (some ⟨w.heap.size, 0, none⟩) [x] := by
  refine .inr ⟨w.heap.size, 0, rfl, by simp, fun i y hy => ?_⟩
  rcases i with _ | i
  · simp at hy
    subst hy; subst h
    have := heap_alloc_new w (.cells #[.string (bs x)] 9)
    rw [cell_of_row _ _ _ _ _ _ this]; rfl
  · simp at hy
/-- A loop's state: the names so far, the last one from f on, up to a. -/
structure St (k : B) (dn : List B) (f a : Nat) : Prop where
  f1 : 1 ≤ f
  fa : f ≤ a
  al : a ≤ k.length
  seven : dn.length ≤ 7
  no : ¬ [0, 0] <+: k.drop 1
  parts : parts k = ((scan dn.length ((k.drop f).take (a - f)) (k.drop a)).1, dn ++ (scan dn.length ((k.drop f).take (a - f)) (k.drop a)).2.1, (scan dn.length ((k.drop f).take (a - f)) (k.drop a)).2.2)
theorem St.start {k : B} (h : 1 < k.length) (hn : ¬ [0, 0] <+: k.drop 1) : St k [] 1 1 := by
  refine ⟨Nat.le_refl _, Nat.le_refl _, by omega, by simp, hn, ?_⟩
  unfold Path.parts
  rw [if_neg (by omega), if_neg hn]
  simp
theorem take_more {k : B} {f a : Nat} (hf : f ≤ a) (ha : a < k.length) : (k.drop f).take (a - f) ++ [k[a]] = (k.drop f).take (a + 1 - f) := by
  rw [show a + 1 - f = a - f + 1 by omega, List.take_add_one, List.getElem?_drop, show f + (a - f) = a by omega, List.getElem?_eq_getElem ha]
  rfl
theorem St.step {k : B} {dn : List B} {f a : Nat} (h : St k dn f a) (h6 : dn.length ≤ 6) (ha : a < k.length) (hb : k[a] ≠ 0) : St k dn f (a + 1) := by
  refine ⟨h.f1, by have := h.fa; omega, by omega, h.seven, h.no, ?_⟩
  have e := h.parts
  rw [List.drop_eq_getElem_cons ha] at e
  unfold scan at e
  rw [if_neg (by omega), if_pos hb, take_more h.fa ha] at e
  exact e
theorem St.name {k : B} {dn : List B} {f a : Nat} (h : St k dn f a) (h6 : dn.length ≤ 6) (ha : a < k.length) (hb : k[a] = 0) (hz : ¬ [0, 0] <+: k.drop a) : St k (dn ++ [(k.drop f).take (a - f)]) (a + 1) (a + 1) := by
  refine ⟨by omega, Nat.le_refl _, by omega, by simp; omega, h.no, ?_⟩
  have e := h.parts
  have hh : ¬ (k.drop (a + 1)).head? = some 0 := by
    intro hh
    obtain ⟨r, hr⟩ := tail_cons hh
    apply hz
    rw [List.drop_eq_getElem_cons ha, hb, hr]
    exact ⟨r, rfl⟩
  rw [List.drop_eq_getElem_cons ha] at e
  unfold scan at e
  rw [if_neg (by omega), if_neg (by simp [hb]), if_neg hh] at e
  simp at e ⊢
  exact e
theorem St.break_ {k : B} {dn : List B} {f a : Nat} (h : St k dn f a) (h6 : dn.length ≤ 6) (ha : a < k.length) (hb : k[a] = 0) (hz : [0, 0] <+: k.drop a) : Path.parts k = (true, dn ++ [(k.drop f).take (a - f)], k.drop (a + 2)) ∧ 1 < a ∧ a + 2 ≤ k.length := by
  obtain ⟨r, hr⟩ := hz
  have hlen : a + 2 ≤ k.length := by
    have := congrArg List.length hr
    rw [List.length_append, List.length_drop] at this
    simp at this
    omega
  have hd : k.drop (a + 1) = 0 :: r := by
    have := congrArg (List.drop 1) hr
    rw [List.drop_drop] at this
    exact this.symm
  have hd2 : k.drop (a + 2) = r := by
    have := congrArg (List.drop 2) hr
    rw [List.drop_drop] at this
    exact this.symm
  refine ⟨?_, ?_, hlen⟩
  · have e := h.parts
    rw [List.drop_eq_getElem_cons ha] at e
    unfold scan at e
    rw [if_neg (by omega), if_neg (by simp [hb]), if_pos (by rw [hd]; rfl), hd] at e
    rw [e, hd2]; rfl
  · have := h.f1; have := h.fa
    rcases Nat.lt_or_ge 1 a with h1 | h1
    · exact h1
    · obtain rfl : a = 1 := by omega
      exact absurd ⟨r, hr⟩ h.no
theorem St.ends {k : B} {dn : List B} {f a : Nat} (h : St k dn f a) (he : a = k.length ∨ 6 < dn.length) : Path.parts k = (false, dn ++ [(k.drop f).take (k.length - f)], []) := by
  have e := h.parts
  have hlf : (k.drop f).take (k.length - f) = k.drop f := List.take_of_length_le (by simp)
  rw [hlf]
  by_cases ha : a = k.length
  · subst ha
    rw [List.drop_length, hlf] at e
    exact e
  · have h6 := he.resolve_left ha
    have ha' : a < k.length := by have := h.al; omega
    have hd := List.drop_eq_getElem_cons ha'
    rw [hd] at e
    unfold scan at e
    rw [if_pos h6, ← hd] at e
    have hj : (k.drop f).take (a - f) ++ k.drop a = k.drop f := by
      have := List.take_append_drop (a - f) (k.drop f)
      rw [List.drop_drop, show f + (a - f) = a by have := h.fa; omega] at this
      exact this
    rw [hj] at e
    exact e
theorem parts_short (k : ByteArray) (hk : k.size ≤ 1) (w : World) (hL : Laid w) : Calls Tryd.prog 43 #[.string k] w (GivesParts k.data.toList w) := by
  have hz : k.data.toList.length = k.size := (Lib.size_eq k).symm
  have hp : parts k.data.toList = (false, [], []) := by unfold parts; rw [if_pos (by omega)]
  unfold GivesParts
  rw [hp]
  obtain ⟨⟨l1, l2⟩, _, l5⟩ := hL.alloc (.cells #[.string ⟨#[]⟩, .string ⟨#[]⟩] 57)
  have HB0 := Lib.hid ((Below.refl w.heap.size w).alloc (Nat.le_refl _) (.cells #[.string ⟨#[109]⟩, .string ⟨#[110]⟩] 57))
  clear hz hp
  go_enter Tryd.func43, Tryd.ntmps43
  go_wp2
  go_step3
  go_wp2
  go_step3
  go_wp2
  clear l1 l2 l5
  go_loop [3, 4, 5, 6, 7] (fun v3 v4 v5 v6 v7 => v3 = .slice none 0 0 ∧ v4 = .string ⟨#[]⟩ ∧ v5 = .int .i64 1 ∧ v6 = .int .i64 k.size ∧ v7 = .int .i64 1) (fun _ _ _ _ _ => 0)
  case atStart => exact ⟨rfl, rfl, rfl, rfl, rfl⟩
  case round =>
    obtain ⟨rfl, rfl, rfl, rfl, rfl⟩ := hrel
    go_wp2
    exact bodyPost_ret (v := .tuple #[.agg #[.string ⟨#[109]⟩, .string ⟨#[110]⟩], .slice none 0 0, .string ⟨#[]⟩]) (by simp [results, Tryd.results43, go_sem]) rfl ⟨none, 0, rfl, Own.nil _ _ _, HB0.out⟩
theorem hasp2_any (k : ByteArray) (a : Nat) (wx : World) : Calls Tryd.prog 42 #[.string (k.extract a k.size), .string ⟨#[0, 0]⟩] wx fun e w' => e = .returned (.bool (decide ([0, 0] <+: k.data.toList.drop a))) ∧ wx = w' := by
  have hz : k.data.toList.length = k.size := (Lib.size_eq k).symm
  rw [extract_bs]
  have := hasp_any ((k.data.toList.drop a).take (k.size - a)) [0, 0] wx
  rw [List.take_of_length_le (by simp)] at this ⊢
  have e : Lib.hasPrefix (k.data.toList.drop a) [0, 0] = decide ([0, 0] <+: k.data.toList.drop a) := by
    unfold Lib.hasPrefix
    rw [Bool.eq_iff_iff, List.isPrefixOf_iff_prefix, decide_eq_true_eq]
  rw [e] at this
  exact this
set_option maxHeartbeats 1000000 in
theorem parts_zero (k : ByteArray) (hk : 1 < k.size) (hkk : k.size ≤ 1000) (h00 : [0, 0] <+: k.data.toList.drop 1) (w : World) (hL : Laid w) : Calls Tryd.prog 43 #[.string k] w (GivesParts k.data.toList w) := by
  have hz : k.data.toList.length = k.size := (Lib.size_eq k).symm
  have hp : parts k.data.toList = (true, [], k.data.toList.drop 3) := by unfold parts; rw [if_neg (by omega), if_pos h00]
  unfold GivesParts
  rw [hp]
  have CF := Lib.hid (hasp2_any k 1)
  rw [decide_eq_true h00] at CF
  have h3 : 3 ≤ k.size := by
    obtain ⟨r, hr⟩ := h00
    have := congrArg List.length hr
    rw [List.length_append, List.length_drop] at this
    simp at this
    omega
  have hb : (k[1].toNat : Int) = 0 := by
    obtain ⟨r, hr⟩ := h00
    have h1 : (k.data.toList.drop 1)[0]? = some 0 := by rw [← hr]; rfl
    rw [List.getElem?_drop, Lib.data_getElem? k 1 hk] at h1
    injection h1 with h1
    rw [h1]; rfl
  have hb' : ((k[1].toNat : Int) != 0) = false := by simpa using hb
  have hX : k.extract 3 k.size = bs (k.data.toList.drop 3) := by rw [extract_bs, List.take_of_length_le (by simp)]
  generalize bs (k.data.toList.drop 3) = X at *
  obtain ⟨⟨l1, l2⟩, _, l5⟩ := hL.alloc (.cells #[.string ⟨#[]⟩, .string ⟨#[]⟩] 57)
  obtain ⟨_, ⟨m1, m2⟩, _⟩ := hL.alloc (.cells #[.string ⟨#[109]⟩, .string ⟨#[110]⟩] 57)
  have HB0 := Lib.hid ((Below.refl w.heap.size w).alloc (Nat.le_refl _) (.cells #[.string ⟨#[109]⟩, .string ⟨#[110]⟩] 57))
  have HI := Is.new w 57 #[.string ⟨#[109]⟩, .string ⟨#[110]⟩]
  clear hz hp h00 hb
  go_enter Tryd.func43, Tryd.ntmps43
  go_wp2
  go_step3
  go_wp2
  go_step3
  go_wp2
  clear l1 l2
  have c0 := HI.cell 0; have c1 := HI.cell 1; have f0 := HI.frozen 0; have f1 := HI.frozen 1; have hlt := HI.lt
  simp only [List.getElem?_toArray, List.getElem?_cons_zero, List.getElem?_cons_succ] at c0 c1
  generalize hW : w.alloc (.cells #[.string ⟨#[109]⟩, .string ⟨#[110]⟩] 57) = W at *
  have II := Lib.hid HI
  clear hW HI
  go_loop [3, 4, 5, 6, 7] (fun v3 v4 v5 v6 v7 => v3 = .slice none 0 0 ∧ v4 = .string ⟨#[]⟩ ∧ v5 = .int .i64 1 ∧ v6 = .int .i64 k.size ∧ v7 = .int .i64 1) (fun _ _ _ _ _ => 0)
  case atStart => exact ⟨rfl, rfl, rfl, rfl, rfl⟩
  case round =>
    obtain ⟨rfl, rfl, rfl, rfl, rfl⟩ := hrel
    go_wp2_with fail
    refine (CF.out _).mono ?_; rintro e w2 ⟨rfl, rfl⟩
    go_wp2
    go_region
    all_goals
      go_wp2
      rw [Exit.noGoto_ret]
      obtain ⟨q0, q1⟩ := ((II.out.two (.string ⟨#[100]⟩) (.string ⟨#[101]⟩)).two (.string ⟨#[100]⟩) (.string ⟨#[101]⟩)).cells
      exact bodyPost_ret (v := .tuple #[.agg #[.string ⟨#[100]⟩, .string ⟨#[101]⟩], .slice none 0 0, .string X]) (by simp [results, Tryd.results43, go_sem, q0, q1]) rfl ⟨none, 0, rfl, Own.nil _ _ _, ((((HB0.out.setCell (by simp) _).setCell (by simp) _).setCell (by simp) _).setCell (by simp) _).drew⟩
theorem Laid.to {w w' : World} {b : Nat} (h : Laid w) (hb : Below b w w') (hB : 1 < b) : w'.cell? ⟨1, 0, none⟩ = some (.string ⟨#[100]⟩) ∧ w'.cell? ⟨1, 1, none⟩ = some (.string ⟨#[101]⟩) := (h.below hb hB).2.1
set_option maxHeartbeats 4000000 in
theorem parts_main (k : ByteArray) (hk : 1 < k.size) (hkk : k.size ≤ 1000) (h00 : ¬ [0, 0] <+: k.data.toList.drop 1) (w : World) (hL : Laid w) : Calls Tryd.prog 43 #[.string k] w (GivesParts k.data.toList w) := by
  have hz : k.data.toList.length = k.size := (Lib.size_eq k).symm
  have HS := Lib.hid (St.start (by omega) h00)
  obtain ⟨K, hK⟩ : ∃ K, K = k.data.toList := ⟨_, rfl⟩
  have CF := Lib.hid (fun a => hasp2_any k a)
  have HX := Lib.hid (fun a b => extract_bs k a b)
  rw [← hK] at hz HS CF HX ⊢
  have HKk := Lib.hid hK
  have HZ := Lib.hid hz
  clear hK h00 hz
  unfold GivesParts
  have hL1 := hL.alloc (.cells #[.string ⟨#[109]⟩, .string ⟨#[110]⟩] 57)
  obtain ⟨⟨l1, l2⟩, _, l5⟩ := hL.alloc (.cells #[.string ⟨#[]⟩, .string ⟨#[]⟩] 57)
  have HB0 := Lib.hid ((Below.refl w.heap.size w).alloc (Nat.le_refl _) (.cells #[.string ⟨#[109]⟩, .string ⟨#[110]⟩] 57))
  have HI := Lib.hid (Is.new w 57 #[.string ⟨#[109]⟩, .string ⟨#[110]⟩])
  have h1 := Lib.hid hL.2.2
  clear hL
  go_enter Tryd.func43, Tryd.ntmps43
  go_wp2
  go_step3
  go_wp2
  go_step3
  go_wp2
  clear l1 l2 l5
  generalize hW : w.alloc (.cells #[.string ⟨#[109]⟩, .string ⟨#[110]⟩] 57) = W at *
  clear hW
  have HL := Lib.hid hL1; clear hL1
  have hsW := Lib.hid HI.out.lt
  go_loopw [3, 4, 5, 6, 7] (fun v3 v4 v5 v6 v7 wr => v4 = .string ⟨#[]⟩ ∧ v6 = .int .i64 k.size ∧ ∃ A n c dn, ∃ f a : Nat, v3 = .slice A n c ∧ v5 = .int .i64 f ∧ v7 = .int .i64 a ∧ Own wr (w.heap.size + 1) A n c dn ∧ Below (w.heap.size + 1) W wr ∧ St K dn f a) (fun _ _ _ _ v7 _ => k.size - (intOf v7).toNat)
  case atStart => exact ⟨rfl, rfl, none, 0, 0, [], 1, 1, rfl, rfl, rfl, Own.nil _ _ _, Below.refl _ _, HS.out⟩
  case round =>
    obtain ⟨rfl, rfl, A, n, c, dn, f, a, rfl, rfl, rfl, ho, hb, hst⟩ := hrel
    have O := Lib.hid ho; have BB := Lib.hid hb; have HT := Lib.hid hst
    have HN := Lib.hid ho.len
    have hfa := hst.fa; have hf1 := hst.f1
    have hn7 : n ≤ 7 := by rw [HN.out]; exact hst.seven
    have hal : a ≤ k.size := by rw [← HZ.out]; exact hst.al
    clear ho hb hst
    have I1 : Is wr w.heap.size 57 #[.string ⟨#[109]⟩, .string ⟨#[110]⟩] := (BB.out.block w.heap.size (by omega)).trans HI.out
    have II := Lib.hid I1
    have hsz : w.heap.size + 1 ≤ wr.heap.size := I1.lt
    by_cases hend : a = k.size ∨ 6 < n
    · -- the end
      have hp := HT.out.ends (by rw [HZ.out, ← HN.out]; exact hend)
      have HP := Lib.hid hp
      have HXf := Lib.hid (show k.extract f k.size = bs ((K.drop f).take (K.length - f)) by rw [HX.out f k.size, HZ.out])
      clear hp I1
      by_cases hae : a = k.size
      · subst hae
        go_wp2_with (first
          | (at_builtin; refine wpList_app rfl (.tmp 49) (.tmp 54) rfl (w.heap.size + 1) A n c dn rfl (O.out.alloc _) (some ⟨_, 0, none⟩) 1 1 [(K.drop f).take (K.length - f)] rfl rfl (Rs.one _ _ _ HXf.out) ?x1 ?x2 ?_))
        case x1 => have := HN.out; first | omega | (simp; omega)
        case x2 => first | omega | (simp; omega)
        intro A3 c3 w3 o3 b3
        have B3 := Lib.hid ((BB.out.alloc (by omega) (.cells #[.string (k.extract f k.size)] 9)).trans b3)
        have O3 := Lib.hid o3
        have I3 : Is w3 w.heap.size 57 #[.string ⟨#[109]⟩, .string ⟨#[110]⟩] := (B3.out.block w.heap.size (by omega)).trans HI.out
        obtain ⟨c0, c1⟩ := I3.cells
        have f0 := I3.frozen 0; have f1 := I3.frozen 1; have hlt3 := I3.lt
        obtain ⟨q0, q1⟩ := (I3.two (.string ⟨#[109]⟩) (.string ⟨#[110]⟩)).cells
        have Q0 := Lib.hid q0; have Q1 := Lib.hid q1
        clear o3 b3 q0 q1 I3
        go_wp2
        rw [Exit.noGoto_ret]
        refine bodyPost_ret (v := .tuple #[.agg #[.string ⟨#[109]⟩, .string ⟨#[110]⟩], .slice A3 (n + 1) c3, .string ⟨#[]⟩]) (by simp [results, Tryd.results43, go_sem, Q0.out, Q1.out]) rfl ⟨A3, c3, ?_, ?_, ?_⟩
        · rw [HP.out]; simp [fam, HN.out]; rfl
        · rw [HP.out]
          have : (dn ++ [(K.drop f).take (K.length - f)]).length = n + 1 := by rw [HN.out]; simp
          rw [this]
          exact ((O3.out.set (by omega) _).set (by omega) _).base (by omega)
        · exact ((HB0.out.trans (B3.out.mono (by omega))).setCell (by simp) _).setCell (by simp) _
      · have hn6 : 6 < n := hend.resolve_left hae
        have halt : a < k.size := by omega
        have hfk : f ≤ k.size := by omega
        go_wp2_with (first
          | (at_builtin; refine wpList_app rfl (.tmp 49) (.tmp 54) rfl (w.heap.size + 1) A n c dn rfl (O.out.alloc _) (some ⟨_, 0, none⟩) 1 1 [(K.drop f).take (K.length - f)] rfl rfl (Rs.one _ _ _ HXf.out) ?x3 ?x4 ?_))
        case x3 => have := HN.out; first | omega | (simp; omega)
        case x4 => first | omega | (simp; omega)
        intro A3 c3 w3 o3 b3
        have B3 := Lib.hid ((BB.out.alloc (by omega) (.cells #[.string (k.extract f k.size)] 9)).trans b3)
        have O3 := Lib.hid o3
        have I3 : Is w3 w.heap.size 57 #[.string ⟨#[109]⟩, .string ⟨#[110]⟩] := (B3.out.block w.heap.size (by omega)).trans HI.out
        obtain ⟨c0, c1⟩ := I3.cells
        have f0 := I3.frozen 0; have f1 := I3.frozen 1; have hlt3 := I3.lt
        obtain ⟨q0, q1⟩ := (I3.two (.string ⟨#[109]⟩) (.string ⟨#[110]⟩)).cells
        have Q0 := Lib.hid q0; have Q1 := Lib.hid q1
        clear o3 b3 q0 q1 I3
        go_wp2
        rw [Exit.noGoto_ret]
        refine bodyPost_ret (v := .tuple #[.agg #[.string ⟨#[109]⟩, .string ⟨#[110]⟩], .slice A3 (n + 1) c3, .string ⟨#[]⟩]) (by simp [results, Tryd.results43, go_sem, Q0.out, Q1.out]) rfl ⟨A3, c3, ?_, ?_, ?_⟩
        · rw [HP.out]; simp [fam, HN.out]; rfl
        · rw [HP.out]
          have : (dn ++ [(K.drop f).take (K.length - f)]).length = n + 1 := by rw [HN.out]; simp
          rw [this]
          exact ((O3.out.set (by omega) _).set (by omega) _).base (by omega)
        · exact ((HB0.out.trans (B3.out.mono (by omega))).setCell (by simp) _).setCell (by simp) _
    · have ha : a < k.size := by omega
      have hn6 : n ≤ 6 := by omega
      have haK : a < K.length := by have := HZ.out; omega
      have hby := Lib.data_getElem? k a ha
      rw [← HKk.out, List.getElem?_eq_getElem haK] at hby
      injection hby with hby
      have HBy := Lib.hid hby
      clear hend hby
      by_cases hb0 : K[a] = 0
      · have e0 : ((k[a].toNat : Int) != 0) = false := by rw [← HBy.out, hb0]; rfl
        have C := Lib.hid (CF.out a)
        have HXf := Lib.hid (HX.out f a)
        by_cases hz2 : [0, 0] <+: K.drop a
        · rw [decide_eq_true hz2] at C
          obtain ⟨hp, ha1, ha2⟩ := HT.out.break_ (by rw [← HN.out]; exact hn6) haK hb0 hz2
          rw [HZ.out] at ha2
          have HP := Lib.hid hp
          have HX2 := Lib.hid (show k.extract (a + 2) k.size = bs (K.drop (a + 2)) by rw [HX.out, List.take_of_length_le (by rw [List.length_drop, HZ.out]; omega)])
          have hX2 := HX2.out
          obtain ⟨X, hX⟩ : ∃ X, X = bs (K.drop (a + 2)) := ⟨_, rfl⟩
          rw [← hX] at hX2
          have hXX := Lib.hid hX
          clear hX HX2
          obtain ⟨m1, m2⟩ := HL.out.to BB.out (by have := h1.out; omega)
          obtain ⟨c0, c1⟩ := I1.cells
          have f0 := I1.frozen 0; have f1 := I1.frozen 1; have hlt := I1.lt
          have i1 : IntKind.i64.wrap ((a : Int) + 2) = (a : Int) + 2 := by rw [IntKind.wrap_i64]; omega
          have i2 : (a : Int) + 2 ≤ (k.size : Int) := by omega
          have i3 : (0 : Int) ≤ (a : Int) + 2 := by omega
          have i4 : ((a : Int) + 2).toNat = a + 2 := by omega
          clear hp hz2 hb0 I1
          go_wp2_with fail
          refine (C.out _).mono ?_; rintro e w2 ⟨rfl, rfl⟩
          go_wp2
          go_region
          all_goals
            clear i1 i2 i3 i4 hX2 c0 c1 f0 f1 m1 m2
            have J2 : Is ((wr.setCell ⟨w.heap.size, 0, none⟩ (.string ⟨#[100]⟩)).setCell ⟨w.heap.size, 1, none⟩ (.string ⟨#[101]⟩)).drew w.heap.size 57 #[.string ⟨#[100]⟩, .string ⟨#[101]⟩] := II.out.two (.string ⟨#[100]⟩) (.string ⟨#[101]⟩)
            have O2 : Own ((wr.setCell ⟨w.heap.size, 0, none⟩ (.string ⟨#[100]⟩)).setCell ⟨w.heap.size, 1, none⟩ (.string ⟨#[101]⟩)).drew (w.heap.size + 1) A n c dn := (O.out.set (by omega) _).set (by omega) _
            have B2 : Below w.heap.size w ((wr.setCell ⟨w.heap.size, 0, none⟩ (.string ⟨#[100]⟩)).setCell ⟨w.heap.size, 1, none⟩ (.string ⟨#[101]⟩)).drew := (((HB0.out.trans (BB.out.mono (by omega))).setCell (by simp) _).setCell (by simp) _).drew
            generalize ((wr.setCell ⟨w.heap.size, 0, none⟩ (.string ⟨#[100]⟩)).setCell ⟨w.heap.size, 1, none⟩ (.string ⟨#[101]⟩)).drew = W2 at *
            have J2 := Lib.hid J2; have O2 := Lib.hid O2; have B2 := Lib.hid B2
            have hsz2 : w.heap.size + 1 ≤ W2.heap.size := J2.out.lt
            go_wp2_with (first
              | (at_builtin; refine wpList_app rfl (.tmp 49) (.tmp 54) rfl (w.heap.size + 1) A n c dn rfl (O2.out.alloc _) (some ⟨_, 0, none⟩) 1 1 [(K.drop f).take (a - f)] rfl rfl (Rs.one _ _ _ HXf.out) ?z1 ?z2 ?_))
            case z1 => have := HN.out; first | omega | (simp; omega)
            case z2 => first | omega | (simp; omega)
            intro A3 c3 w3 o3 b3
            have b3' := ((Below.refl (w.heap.size + 1) W2).alloc hsz2 (.cells #[.string (k.extract f a)] 9)).trans b3
            have B3 := Lib.hid (B2.out.trans (b3'.mono (by omega)))
            have O3 := Lib.hid o3
            have I3 : Is w3 w.heap.size 57 #[.string ⟨#[100]⟩, .string ⟨#[101]⟩] := (b3'.block w.heap.size (by omega)).trans J2.out
            obtain ⟨c0, c1⟩ := I3.cells
            have f0 := I3.frozen 0; have f1 := I3.frozen 1; have hlt3 := I3.lt
            obtain ⟨q0, q1⟩ := (I3.two (.string ⟨#[100]⟩) (.string ⟨#[101]⟩)).cells
            have Q0 := Lib.hid q0; have Q1 := Lib.hid q1
            clear o3 b3 b3' q0 q1 I3
            go_wp2
            rw [Exit.noGoto_ret]
            refine bodyPost_ret (v := .tuple #[.agg #[.string ⟨#[100]⟩, .string ⟨#[101]⟩], .slice A3 (n + 1) c3, .string X]) (by simp [results, Tryd.results43, go_sem, Q0.out, Q1.out]) rfl ⟨A3, c3, ?_, ?_, ?_⟩
            · rw [HP.out]; simp [fam, HN.out]; exact hXX.out
            · rw [HP.out]
              have : (dn ++ [(K.drop f).take (a - f)]).length = n + 1 := by rw [HN.out]; simp
              rw [this]
              exact ((O3.out.set (by omega) _).set (by omega) _).base (by omega)
            · exact (B3.out.setCell (by simp) _).setCell (by simp) _
        · rw [decide_eq_false hz2] at C
          have HT2 := Lib.hid (HT.out.name (by rw [← HN.out]; exact hn6) haK hb0 hz2)
          clear hz2 hb0 I1
          go_wp2_with (first
            | (go_at_call 42; refine (C.out _).mono ?_; rintro e w2 ⟨rfl, rfl⟩)
            | (at_builtin; refine wpList_app rfl (.tmp 38) (.tmp 43) rfl (w.heap.size + 1) A n c dn rfl (O.out.alloc _) (some ⟨_, 0, none⟩) 1 1 [(K.drop f).take (a - f)] rfl rfl (Rs.one _ _ _ HXf.out) ?y1 ?y2 ?_))
          case y1 => have := HN.out; first | omega | (simp; omega)
          case y2 => first | omega | (simp; omega)
          intro A3 c3 w3 o3 b3
          have B3 := Lib.hid ((BB.out.alloc (by omega) (.cells #[.string (k.extract f a)] 9)).trans b3)
          have O3 := Lib.hid o3
          clear o3 b3
          go_wp2
          exact ⟨⟨rfl, rfl, A3, n + 1, c3, _, a + 1, a + 1, rfl, rfl, rfl, O3.out, B3.out, HT2.out⟩, by simp [intOf]; omega⟩
      · have e0 : ((k[a].toNat : Int) != 0) = true := by
          rw [bne_iff_ne]
          exact (u8_ne (n := 0) (by decide)).2 (by rw [← HBy.out]; exact hb0)
        have HT2 := Lib.hid (HT.out.step (by rw [← HN.out]; exact hn6) haK hb0)
        clear hb0 I1
        go_wp2
        exact ⟨⟨rfl, rfl, A, n, c, dn, f, a + 1, rfl, rfl, rfl, O.out, BB.out, HT2.out⟩, by simp [intOf]; omega⟩
theorem parts_any (k : ByteArray) (hkk : k.size ≤ 1000) (w : World) (hL : Laid w) : Calls Tryd.prog 43 #[.string k] w (GivesParts k.data.toList w) := by
  by_cases h1 : k.size ≤ 1
  · exact parts_short k h1 w hL
  · by_cases h00 : [0, 0] <+: k.data.toList.drop 1
    · exact parts_zero k (by omega) hkk h00 w hL
    · exact parts_main k (by omega) hkk h00 w hL
end Go.Proofs.YtnpgoahdemfkpaaDoor
